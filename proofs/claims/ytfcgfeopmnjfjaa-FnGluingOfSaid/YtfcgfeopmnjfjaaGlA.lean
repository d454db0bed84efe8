/-
  Gluings turned, pairs that cross counted from both ends; what holds at all gluings by looking at each.
-/
import Derived.Test.YtfcgfeopmnjfjaaGluE
namespace Go.Proofs.Ytfcgfeopmnjfjaa

theorem gi_get {q : List Int} {i : Nat} (h : i < q.length) : gi q i = q[i] := by simp [gi, List.getD, h]
theorem of_allG {Q : List Int → Bool} (h : ∀ n, n < 6 → 1 ≤ n → (allG n).all Q = true) {p : List Int} (hp : IsG p) : Q p = true := by
  obtain ⟨n, hl, h1, h5⟩ := hp.even
  exact List.all_eq_true.1 (h n (by omega) h1) p ((allG_iff h1 h5 p).2 ⟨hp, hl⟩)

/-- Of the sides those that cross the pair that begins at a, from both ends. -/
def cwN (p : List Int) (a b : Nat) : Nat := if a < b ∧ (b : Int) < gi p a ∧ (gi p b < a ∨ gi p a < gi p b) then 1 else 0
def cw (p : List Int) (a : Nat) : Nat → Nat
  | 0 => 0
  | b + 1 => cw p a b + cwN p a b
def cws (p : List Int) : Nat → Nat
  | 0 => 0
  | a + 1 => cws p a + cw p a p.length
def powG (p : List Int) : Nat → List Int
  | 0 => p
  | i + 1 => turnG (powG p i)

/-- The gluing turned, as a list. -/
def turn2 (p : List Int) : List Int := (p.drop (p.length - 1) ++ p.take (p.length - 1)).map fun x => (x + 1) % (p.length : Int)
theorem turn2_eq {p : List Int} (hp : IsG p) : turn2 p = turnG p := by
  have hn := hp.1
  refine turnG_eq hp (by simp only [turn2, List.length_map, List.length_append, List.length_drop, List.length_take]; omega) (fun i hi => ?_)
  have e1 := (hp.gn_at hi).1
  have key : ∀ j, j < p.length → gi (turn2 p) j = (gi (p.drop (p.length - 1) ++ p.take (p.length - 1)) j + 1) % (p.length : Int) := by
    intro j hj
    have hl : j < (p.drop (p.length - 1) ++ p.take (p.length - 1)).length := by simp; omega
    rw [gi_get (show j < (turn2 p).length by simp only [turn2, List.length_map]; exact hl), gi_get hl]
    simp only [turn2, List.getElem_map]
  rw [key _ (Nat.mod_lt _ (by omega))]
  have e2 : gi (p.drop (p.length - 1) ++ p.take (p.length - 1)) ((i + 1) % p.length) = gi p i := by
    rcases Nat.lt_or_ge (i + 1) p.length with h | h
    · rw [Nat.mod_eq_of_lt h, gi_get (by simp; omega), gi_get hi, List.getElem_append_right (by simp; omega)]
      simp only [List.length_drop]
      rw [List.getElem_take]
      congr 1; omega
    · have : i = p.length - 1 := by omega
      subst this
      rw [show p.length - 1 + 1 = p.length by omega, Nat.mod_self, gi_get (by simp; omega), gi_get hi, List.getElem_append_left (by simp; omega), List.getElem_drop]
      congr 1
  rw [e2, e1]
  push_cast
  rfl

theorem turnG_len {p : List Int} : (turnG p).length = p.length := by rw [turnG, conjL_len, folL_len]
theorem turnG_at {p : List Int} (hp : IsG p) {i : Nat} (hi : i < p.length) : gi (turnG p) ((i + 1) % p.length) = (((gn p i + 1) % p.length : Nat) : Int) := by
  have hv := folL_vld p.length (by have := hp.2.1; omega) (by have := hp.1; omega)
  have := conjL_at hv (p := p) (by rw [folL_len]; exact hi)
  rw [gn_folL hi, gi_folL (hp.gn_at hi).2.1] at this
  exact this
theorem prev {n j : Nat} (hj : j < n) : ∃ i, i < n ∧ (i + 1) % n = j := by
  rcases Nat.eq_zero_or_pos j with h | h
  · exact ⟨n - 1, by omega, by rw [show n - 1 + 1 = n by omega, Nat.mod_self, h]⟩
  · exact ⟨j - 1, by omega, by rw [show j - 1 + 1 = j by omega]; exact Nat.mod_eq_of_lt hj⟩
theorem turnG_isG {p : List Int} (hp : IsG p) : IsG (turnG p) := by
  refine ⟨by rw [turnG_len]; exact hp.1, by rw [turnG_len]; exact hp.2.1, fun j hj => ?_⟩
  rw [turnG_len] at hj ⊢
  obtain ⟨i, hi, rfl⟩ := prev hj
  obtain ⟨-, h1, h2, h3⟩ := hp.gn_at hi
  have e := turnG_at hp hi
  have e' := turnG_at hp h1
  rw [h3] at e'
  have hg : gn (turnG p) ((i + 1) % p.length) = (gn p i + 1) % p.length := gn_of e
  refine ⟨by rw [e]; omega, by rw [e]; have := Nat.mod_lt (gn p i + 1) (show 0 < p.length by omega); omega, ?_, by rw [hg, e']⟩
  rw [e]
  intro h
  apply h2
  have h4 : (gn p i + 1) % p.length = (i + 1) % p.length := by omega
  rcases Nat.lt_or_ge (gn p i + 1) p.length with a | a <;> rcases Nat.lt_or_ge (i + 1) p.length with b | b
  · rw [Nat.mod_eq_of_lt a, Nat.mod_eq_of_lt b] at h4; omega
  · have : i + 1 = p.length := by omega
    rw [Nat.mod_eq_of_lt a, this, Nat.mod_self] at h4; omega
  · have : gn p i + 1 = p.length := by omega
    rw [Nat.mod_eq_of_lt b, this, Nat.mod_self] at h4; omega
  · omega
theorem powG_isG {p : List Int} (hp : IsG p) : ∀ k, IsG (powG p k) ∧ (powG p k).length = p.length
  | 0 => ⟨hp, rfl⟩
  | k + 1 => ⟨turnG_isG (powG_isG hp k).1, by rw [powG, turnG_len]; exact (powG_isG hp k).2⟩
theorem powG_at {p : List Int} (hp : IsG p) : ∀ k i, i < p.length → gi (powG p k) ((i + k) % p.length) = (((gn p i + k) % p.length : Nat) : Int)
  | 0, i, hi => by rw [Nat.add_zero, Nat.mod_eq_of_lt hi, Nat.add_zero, Nat.mod_eq_of_lt (hp.gn_at hi).2.1]; exact (hp.gn_at hi).1
  | k + 1, i, hi => by
    obtain ⟨h1, h2⟩ := powG_isG hp k
    have h3 : (i + k) % p.length < p.length := Nat.mod_lt _ (by omega)
    have h4 := turnG_at h1 (i := (i + k) % p.length) (by rw [h2]; exact h3)
    have h5 : gn (powG p k) ((i + k) % p.length) = (gn p i + k) % p.length := gn_of (powG_at hp k i hi)
    rw [h2, h5, Nat.mod_add_mod, Nat.mod_add_mod] at h4
    exact h4
theorem powG_all {p : List Int} (hp : IsG p) : powG p p.length = p := by
  refine eq_of_gi (powG_isG hp _).2 (fun j hj => ?_)
  rw [(powG_isG hp _).2] at hj
  have := powG_at hp p.length j hj
  rw [Nat.add_mod_right, Nat.mod_eq_of_lt hj, Nat.add_mod_right, Nat.mod_eq_of_lt (hp.gn_at hj).2.1] at this
  rw [this]; exact (hp.gn_at hj).1.symm

end Go.Proofs.Ytfcgfeopmnjfjaa
