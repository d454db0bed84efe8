/-
  How many forms a map has: its darts by its turns.
-/
import Derived.Test.YteajaikgeephmaaPar6
namespace Go.Proofs.Yteajaikgeephmaa
open Go.RowKit

/-- The form from a dart is none of those from lesser darts. -/
def newF (t f : List Int) (r : Nat) : Prop := ∀ j, j < r → ¬ sameR2 t f j r
open Classical in
noncomputable def newN (t f : List Int) (k : Nat) : Nat := sm k fun r => ch (newF t f r)
theorem newN_yes {t f : List Int} {k : Nat} (h : newF t f k) : newN t f (k + 1) = newN t f k + 1 := by
  unfold newN; rw [sm, ch_true h]
theorem newN_no {t f : List Int} {k : Nat} (h : ¬ newF t f k) : newN t f (k + 1) = newN t f k := by
  unfold newN; rw [sm, ch_false h]; rfl
theorem newN_le (t f : List Int) : ∀ k, newN t f k ≤ k
  | 0 => Nat.le_refl _
  | k + 1 => by
    have := newN_le t f k
    by_cases h : newF t f k
    · rw [newN_yes h]; omega
    · rw [newN_no h]; omega
theorem sameR2_symm {t f : List Int} {r s : Nat} (h : sameR2 t f r s) : sameR2 t f s r := ⟨h.1.symm, h.2.symm⟩
theorem sameR2_trans {t f : List Int} {r s u : Nat} (h : sameR2 t f r s) (h' : sameR2 t f s u) : sameR2 t f r u := ⟨h'.1.trans h.1, h'.2.trans h.2⟩
/-- Each dart has one first dart of its form. -/
theorem first_of (t f : List Int) : ∀ s, ∃ r, r ≤ s ∧ newF t f r ∧ sameR2 t f r s := fun s => by
  induction s using Nat.strongRecOn with
  | ind s ih =>
    by_cases h : newF t f s
    · exact ⟨s, Nat.le_refl _, h, rfl, rfl⟩
    · have : ∃ j, j < s ∧ sameR2 t f j s := by
        by_cases hc : ∃ j, j < s ∧ sameR2 t f j s
        · exact hc
        · exact absurd (fun j hj hs => hc ⟨j, hj, hs⟩) h
      obtain ⟨j, hj, hs⟩ := this
      obtain ⟨r, hr, hn, hrs⟩ := ih j hj
      exact ⟨r, by omega, hn, sameR2_trans hrs hs⟩
theorem first_one {t f : List Int} {r r' s : Nat} (h : newF t f r) (h' : newF t f r') (a : sameR2 t f r s) (a' : sameR2 t f r' s) : r = r' := by
  rcases Nat.lt_trichotomy r r' with e | e | e
  · exact absurd (sameR2_trans a (sameR2_symm a')) (h' r e)
  · exact e
  · exact absurd (sameR2_trans a' (sameR2_symm a)) (h r' e)
theorem ch_and (P Q : Prop) : ch (P ∧ Q) = ch P * ch Q := by
  by_cases hp : P <;> by_cases hq : Q <;> simp [ch, hp, hq]
theorem sm_mulc (F : Nat → Nat) (c : Nat) : ∀ n, sm n (fun i => F i * c) = sm n F * c
  | 0 => by simp [sm]
  | n + 1 => by rw [sm, sm, sm_mulc F c n, Nat.add_mul]
theorem news_turns {t f : List Int} (hm : IsMap t f) : newN t f t.length * turnsTo t f t.length = t.length := by
  have h0 := hm.turn.1
  have e1 : sm t.length (fun s => sm t.length fun r => ch (newF t f r ∧ sameR2 t f r s)) = t.length := by
    rw [sm_congr t.length (G := fun _ => 1) fun s hs => ?_, sm_const, Nat.mul_one]
    obtain ⟨r, hr, hn, hrs⟩ := first_of t f s
    rw [sm_one (i0 := r) t.length (by omega) (fun k _ hne => ch_false fun hc => hne (first_one hc.1 hn hc.2 hrs)), ch_true ⟨hn, hrs⟩]
  rw [sm_swap] at e1
  rw [sm_congr t.length (G := fun r => ch (newF t f r) * turnsTo t f t.length) fun r hr => ?_, sm_mulc] at e1
  · exact e1
  · show sm t.length (fun s => ch (newF t f r ∧ sameR2 t f r s)) = _
    rw [turnsTo_sm, fibre hm h0 hr, sm_congr t.length (G := fun s => ch (sameR2 t f r s) * ch (newF t f r)) fun s _ => by rw [ch_and, Nat.mul_comm], sm_mulc, Nat.mul_comm]
theorem turns_pos {t f : List Int} (hm : IsMap t f) : 1 ≤ turnsTo t f t.length := by
  have := news_turns hm
  have h0 := hm.turn.1
  rcases Nat.eq_zero_or_pos (turnsTo t f t.length) with e | e
  · rw [e] at this; omega
  · exact e
theorem turns_div {t f : List Int} (hm : IsMap t f) : t.length % turnsTo t f t.length = 0 ∧ t.length / turnsTo t f t.length = newN t f t.length := by
  have h := news_turns hm
  have hp := turns_pos hm
  exact ⟨by conv => lhs; lhs; rw [← h]
            exact Nat.mul_mod_left _ _, by conv => lhs; lhs; rw [← h]
                                           exact Nat.mul_div_left _ hp⟩

theorem sameR2_dual {t f : List Int} (hm : IsMap t f) {s : Nat} (hs : s < t.length) (h : sameR2 t f 0 s) : sameR2 (mulL f t) f 0 s := by
  obtain ⟨b, hb, hl, h1, h2, h3⟩ := auto hm hm.turn.1 hs h.1 h.2
  have e1 : conjL (mulL f t) b = mulL f t := by rw [← conj_mul hm.flip hb (by rw [hl]; exact hm.len.symm), h1, h2]
  have := auto_form hm.dual hb (by rw [mulL_len, hl, hm.len]) e1 h2 (x := 0) hm.dual.turn.1
  rw [h3] at this
  exact this
theorem turns_dual {t f : List Int} (hm : IsMap t f) : turnsTo (mulL f t) f (mulL f t).length = turnsTo t f t.length := by
  rw [turnsTo_sm, turnsTo_sm, mulL_len, ← hm.len]
  refine sm_congr _ fun s hs => ch_congr ⟨fun h => ?_, sameR2_dual hm hs⟩
  have := sameR2_dual hm.dual (by rw [mulL_len, ← hm.len]; exact hs) h
  rwa [dual_dual hm] at this

/-- The forms of a map, each once, as they come. -/
noncomputable def newL (t f : List Int) : Nat → List (List Int × List Int)
  | 0 => []
  | k + 1 => open Classical in if newF t f k then newL t f k ++ [(formT t f k, formF t f k)] else newL t f k
theorem newL_yes {t f : List Int} {k : Nat} (h : newF t f k) : newL t f (k + 1) = newL t f k ++ [(formT t f k, formF t f k)] := by rw [newL, if_pos h]
theorem newL_no {t f : List Int} {k : Nat} (h : ¬ newF t f k) : newL t f (k + 1) = newL t f k := by rw [newL, if_neg h]
theorem newL_len (t f : List Int) : ∀ k, (newL t f k).length = newN t f k
  | 0 => rfl
  | k + 1 => by
    by_cases h : newF t f k
    · rw [newL_yes h, newN_yes h, List.length_append, newL_len t f k]; rfl
    · rw [newL_no h, newN_no h, newL_len t f k]
theorem newL_mem {t f : List Int} : ∀ {k : Nat} {m : List Int × List Int}, m ∈ newL t f k → ∃ j, j < k ∧ newF t f j ∧ m = (formT t f j, formF t f j)
  | 0, _, h => by simp [newL] at h
  | k + 1, m, h => by
    by_cases hn : newF t f k
    · rw [newL_yes hn, List.mem_append] at h
      rcases h with h | h
      · obtain ⟨j, hj, r⟩ := newL_mem h
        exact ⟨j, by omega, r⟩
      · exact ⟨k, by omega, hn, by simpa using h⟩
    · rw [newL_no hn] at h
      obtain ⟨j, hj, r⟩ := newL_mem h
      exact ⟨j, by omega, r⟩
theorem mem_newL {t f : List Int} : ∀ {k j : Nat}, j < k → newF t f j → (formT t f j, formF t f j) ∈ newL t f k
  | 0, j, h, _ => by omega
  | k + 1, j, h, hn => by
    by_cases e : j = k
    · subst e; rw [newL_yes hn]; simp
    · have := mem_newL (k := k) (j := j) (by omega) hn
      by_cases hk : newF t f k
      · rw [newL_yes hk]; exact List.mem_append_left _ this
      · rw [newL_no hk]; exact this
theorem new_iff {t f : List Int} {k : Nat} : newF t f k ↔ ∀ m, m ∈ newL t f k → m ≠ (formT t f k, formF t f k) := by
  refine ⟨fun h m hm e => ?_, fun h j hj hs => ?_⟩
  · obtain ⟨j, hj, _, rfl⟩ := newL_mem hm
    injection e with e1 e2
    exact h j hj ⟨e1.symm, e2.symm⟩
  · obtain ⟨r, hr, hn, hrs⟩ := first_of t f j
    have := h _ (mem_newL (k := k) (by omega) hn)
    exact this (by rw [Prod.mk.injEq]; exact ⟨(hrs.1.symm.trans hs.1.symm), (hrs.2.symm.trans hs.2.symm)⟩)

end Go.Proofs.Yteajaikgeephmaa
