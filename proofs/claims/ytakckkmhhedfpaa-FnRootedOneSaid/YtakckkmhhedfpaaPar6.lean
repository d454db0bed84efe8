/-
  Plain: maps that are the same: types, duals, turns; each form is met as often.
-/
import Derived.Test.YtakckkmhhedfpaaPar3
import Derived.Test.YtakckkmhhedfpaaPar5
namespace Go.Proofs.Ytakckkmhhedfpaa

theorem sm_le_one {F : Nat → Nat} : ∀ n, (∀ i, i < n → F i ≤ 1) → (∀ i j, i < n → j < n → F i ≠ 0 → F j ≠ 0 → i = j) → sm n F ≤ 1
  | 0, _, _ => by simp [sm]
  | n + 1, h1, h2 => by
    rw [sm]
    have ih := sm_le_one n (fun i hi => h1 i (by omega)) (fun i j hi hj => h2 i j (by omega) (by omega))
    have hn := h1 n (by omega)
    by_cases e : F n = 0
    · omega
    · have hz : sm n F = 0 := by
        rw [sm_congr n (G := fun _ => 0) (fun i hi => ?_), sm_zero]
        by_cases e' : F i = 0
        · exact e'
        · have := h2 i n (by omega) (by omega) e' e; omega
      omega
/-- What is sent one by one into others is not more. -/
theorem count_inj {n : Nat} {P Q : Nat → Prop} {g : Nat → Nat} (hg : ∀ s, s < n → P s → g s < n ∧ Q (g s)) (hi : ∀ s s', s < n → s' < n → P s → P s' → g s = g s' → s = s') :
    sm n (fun s => ch (P s)) ≤ sm n (fun z => ch (Q z)) := by
  rw [sm_congr n (F := fun s => ch (P s)) (G := fun s => sm n fun z => ch (P s ∧ g s = z)) (fun s hs => ?_), sm_swap]
  · refine sm_le n fun z hz => ?_
    by_cases hq : Q z
    · rw [ch_true hq]
      refine sm_le_one n (fun s _ => ch_le _) fun s s' hs hs' h h' => ?_
      have a : P s ∧ g s = z := by
        by_cases c : P s ∧ g s = z
        · exact c
        · exact absurd (ch_false c) h
      have b : P s' ∧ g s' = z := by
        by_cases c : P s' ∧ g s' = z
        · exact c
        · exact absurd (ch_false c) h'
      exact hi s s' hs hs' a.1 b.1 (a.2.trans b.2.symm)
    · rw [ch_false hq, sm_congr n (G := fun _ => 0) (fun s hs => ch_false (fun ⟨h1, h2⟩ => hq (h2 ▸ (hg s hs h1).2))), sm_zero]
      exact Nat.le_refl _
  · by_cases hp : P s
    · rw [ch_true hp, sm_one (i0 := g s) n (hg s hs hp).1 (fun k _ hne => ch_false (fun h => hne h.2.symm)), ch_true ⟨hp, rfl⟩]
    · rw [ch_false hp, sm_congr n (G := fun _ => 0) (fun z _ => ch_false (fun h => hp h.1)), sm_zero]

theorem conj_conj {p a b : List Int} (hp : Vld p) (ha : Vld a) (hb : Vld b) (hl : p.length = a.length) (hl2 : a.length = b.length) : conjL (conjL p a) b = conjL p (mulL a b) := by
  refine conjL_eq (ha.mulL hb hl2) (by rw [conjL_len, mulL_len]; exact hl2.symm) fun i hi => ?_
  rw [mulL_len] at hi
  have h1 : gn a i < b.length := by rw [← hl2]; exact ha.gn_lt hi
  have h2 : gn p i < a.length := by rw [← hl]; exact hp.gn_lt (by omega)
  rw [gn_mulL hi, conjL_at hb h1, conj_gn' ha hi, gi_mulL h2]

section
variable {t f : List Int}
/-- Darts with the same form are led to each other by a renaming that changes nothing. -/
theorem auto (hm : IsMap t f) {r s : Nat} (hr : r < t.length) (hs : s < t.length) (h1 : formT t f s = formT t f r) (h2 : formF t f s = formF t f r) :
    ∃ b, Vld b ∧ b.length = t.length ∧ conjL t b = t ∧ conjL f b = f ∧ gn b r = s := by
  obtain ⟨hv, hvl⟩ := namesL_vld hm hr
  obtain ⟨hv', hvl'⟩ := namesL_vld hm hs
  have hb' := backL_vld hv'
  have hbl : (backL (namesL t f s)).length = t.length := (backL_len _).trans hvl'
  have hlf := hm.len
  refine ⟨mulL (namesL t f r) (backL (namesL t f s)), hv.mulL hb' (by omega), (mulL_len _ _).trans hvl, ?_, ?_, ?_⟩
  · rw [← conj_conj hm.turn hv hb' (by omega) (by omega)]
    have e : conjL t (namesL t f r) = conjL t (namesL t f s) := h1.symm
    rw [e, conj_back hm.turn hv' (by omega)]
  · rw [← conj_conj hm.flip hv hb' (by omega) (by omega)]
    have e : conjL f (namesL t f r) = conjL f (namesL t f s) := h2.symm
    rw [e, conj_back hm.flip hv' (by omega)]
  · rw [gn_mulL (by omega), gn_names_root hr]
    have := hv'.gn_backL (i := s) (by omega)
    rwa [gn_names_root hs] at this
theorem auto_form (hm : IsMap t f) {b : List Int} (hb : Vld b) (hl : b.length = t.length) (h1 : conjL t b = t) (h2 : conjL f b = f) {x : Nat} (hx : x < t.length) : formT t f (gn b x) = formT t f x ∧ formF t f (gn b x) = formF t f x := by
  have := form_ren hb hl hm hx
  rwa [h1, h2] at this
/-- Such renamings that agree at one dart agree at all. -/
theorem auto_one (hm : IsMap t f) {b b' : List Int} (hb : Vld b) (hl : b.length = t.length) (h1 : conjL t b = t) (h2 : conjL f b = f) (hb' : Vld b') (hl' : b'.length = t.length) (h1' : conjL t b' = t) (h2' : conjL f b' = f)
    {r x : Nat} (hr : r < t.length) (hx : x < t.length) (he : gn b r = gn b' r) : gn b x = gn b' x := by
  have a := (names_ren hb hl hm hr).1 x hx
  have a' := (names_ren hb' hl' hm hr).1 x hx
  rw [h1, h2] at a
  rw [h1', h2', ← he] at a'
  have hbr : gn b r < t.length := by rw [← hl]; exact hb.gn_lt (by omega)
  obtain ⟨hv, hvl⟩ := namesL_vld hm hbr
  have e : gi (namesL t f (gn b r)) (gn b x) = gi (namesL t f (gn b r)) (gn b' x) := a.trans a'.symm
  exact hv.inj (by rw [hvl, ← hl]; exact hb.gn_lt (by omega)) (by rw [hvl, ← hl']; exact hb'.gn_lt (by omega)) (by unfold gn; rw [show (gi (namesL t f (gi b r).toNat) (gi b x).toNat) = gi (namesL t f (gn b r)) (gn b x) from rfl, e]; rfl)
def sameR2 (t f : List Int) (r s : Nat) : Prop := formT t f s = formT t f r ∧ formF t f s = formF t f r
theorem fibre_le (hm : IsMap t f) {r1 r2 : Nat} (hr1 : r1 < t.length) (hr2 : r2 < t.length) : sm t.length (fun s => ch (sameR2 t f r1 s)) ≤ sm t.length (fun s => ch (sameR2 t f r2 s)) := by
  have hex : ∀ s, ∃ b : List Int, s < t.length → sameR2 t f r1 s → (Vld b ∧ b.length = t.length ∧ conjL t b = t ∧ conjL f b = f ∧ gn b r1 = s) := fun s => by
    by_cases h : s < t.length ∧ sameR2 t f r1 s
    · obtain ⟨b, hb⟩ := auto hm hr1 h.1 h.2.1 h.2.2
      exact ⟨b, fun _ _ => hb⟩
    · exact ⟨[], fun h1 h2 => absurd ⟨h1, h2⟩ h⟩
  refine count_inj (g := fun s => gn (hex s).choose r2) (fun s hs hp => ?_) (fun s s' hs hs' hp hp' he => ?_)
  · obtain ⟨h1, h2, h3, h4, h5⟩ := (hex s).choose_spec hs hp
    exact ⟨by have := h1.gn_lt (j := r2) (by omega); omega, auto_form hm h1 h2 h3 h4 hr2⟩
  · obtain ⟨h1, h2, h3, h4, h5⟩ := (hex s).choose_spec hs hp
    obtain ⟨h1', h2', h3', h4', h5'⟩ := (hex s').choose_spec hs' hp'
    have := auto_one hm h1 h2 h3 h4 h1' h2' h3' h4' hr2 hr1 he
    rw [h5, h5'] at this
    exact this
theorem fibre (hm : IsMap t f) {r1 r2 : Nat} (hr1 : r1 < t.length) (hr2 : r2 < t.length) : sm t.length (fun s => ch (sameR2 t f r1 s)) = sm t.length (fun s => ch (sameR2 t f r2 s)) :=
  Nat.le_antisymm (fibre_le hm hr1 hr2) (fibre_le hm hr2 hr1)
end
theorem turnsTo_sm (t f : List Int) : ∀ k, turnsTo t f k = sm k fun s => ch (sameR2 t f 0 s)
  | 0 => rfl
  | k + 1 => by
    rw [sm, ← turnsTo_sm t f k]
    by_cases h : sameF t f k
    · rw [turnsTo_yes h, ch_true (show sameR2 t f 0 k from h)]
    · rw [turnsTo_no h, ch_false (show ¬ sameR2 t f 0 k from h)]; rfl

/-! ### Two maps that are the same -/
section
variable {t f t' f' : List Int}
structure Alike (t f t' f' b : List Int) : Prop where
  vld : Vld b
  len : b.length = t.length
  turn : conjL t b = t'
  flip : conjL f b = f'
theorem alike_of (h : sameR t f t' f' = true) : IsMap t f ∧ IsMap t' f' ∧ t.length = t'.length ∧ ∃ b, Alike t f t' f' b := by
  have hd : mapV t f = true ∧ mapV t' f' = true ∧ t.length = t'.length ∧ ∃ y, y < t'.length ∧ formIs t' f' (formT t f 0) (formF t f 0) y := by
    apply Classical.byContradiction
    intro hno
    rw [sameR_no hno] at h
    exact absurd h (by simp)
  obtain ⟨h1, h2, hl, y, hy, h3, h4⟩ := hd
  have hm := mapV_iff.1 h1
  have hm' := mapV_iff.1 h2
  have hlf := hm.len
  have hlf' := hm'.len
  obtain ⟨hv, hvl⟩ := namesL_vld hm hm.turn.1
  obtain ⟨hv', hvl'⟩ := namesL_vld hm' hy
  have hb' := backL_vld hv'
  have hbl : (backL (namesL t' f' y)).length = t.length := (backL_len _).trans (hvl'.trans hl.symm)
  refine ⟨hm, hm', hl, mulL (namesL t f 0) (backL (namesL t' f' y)), hv.mulL hb' (by omega), (mulL_len _ _).trans hvl, ?_, ?_⟩
  · rw [← conj_conj hm.turn hv hb' (by omega) (by omega)]
    have e : conjL t (namesL t f 0) = conjL t' (namesL t' f' y) := h3.symm
    rw [e, conj_back hm'.turn hv' (by omega)]
  · rw [← conj_conj hm.flip hv hb' (by omega) (by omega)]
    have e : conjL f (namesL t f 0) = conjL f' (namesL t' f' y) := h4.symm
    rw [e, conj_back hm'.flip hv' (by omega)]
theorem Alike.forms {b : List Int} (hm : IsMap t f) (h : Alike t f t' f' b) {r : Nat} (hr : r < t.length) : formT t' f' (gn b r) = formT t f r ∧ formF t' f' (gn b r) = formF t f r := by
  have := form_ren h.vld h.len hm hr
  rwa [h.turn, h.flip] at this
theorem Alike.same {b : List Int} (hm : IsMap t f) (h : Alike t f t' f' b) : sameR t f t' f' = true := by
  have h1 : IsMap t' f' := by have := hm.ren h.vld h.len; rwa [h.turn, h.flip] at this
  have hl : t.length = t'.length := by rw [← h.turn, conjL_len]; exact h.len.symm
  have := h.forms hm hm.turn.1
  exact sameR_yes (mapV_iff.2 hm) (mapV_iff.2 h1) hl ⟨gn b 0, by rw [← hl, ← h.len]; exact h.vld.gn_lt h.vld.1, this.1, this.2⟩
theorem Alike.back {b : List Int} (hm : IsMap t f) (h : Alike t f t' f' b) : Alike t' f' t f (backL b) :=
  ⟨backL_vld h.vld, by rw [backL_len, ← h.turn, conjL_len], by rw [← h.turn]; exact conj_back hm.turn h.vld h.len.symm, by rw [← h.flip]; exact conj_back hm.flip h.vld (by rw [h.len]; exact hm.len.symm)⟩
theorem Alike.dual {b : List Int} (hm : IsMap t f) (h : Alike t f t' f' b) : Alike (mulL f t) f (mulL f' t') f' b :=
  ⟨h.vld, by rw [mulL_len, h.len, hm.len], by rw [← h.turn, ← h.flip]; exact (conj_mul hm.flip h.vld (by rw [h.len]; exact hm.len.symm)).symm, h.flip⟩
theorem Alike.type {b : List Int} (hm : IsMap t f) (h : Alike t f t' f' b) : typeL t' = typeL t := by
  rw [← h.turn]; exact (conj_type hm.turn h.vld h.len.symm).symm
theorem Alike.turns {b : List Int} (hm : IsMap t f) (h : Alike t f t' f' b) : turnsTo t' f' t'.length = turnsTo t f t.length := by
  have hm' : IsMap t' f' := by have := hm.ren h.vld h.len; rwa [h.turn, h.flip] at this
  have hl : t.length = t'.length := by rw [← h.turn, conjL_len]; exact h.len.symm
  have hp : Prm t'.length (gn b) := by rw [← hl, ← h.len]; exact h.vld.prm
  have hb0 : gn b 0 < t'.length := hp.lt 0 hm'.turn.1
  rw [turnsTo_sm, turnsTo_sm, fibre hm' hm'.turn.1 hb0, ← sm_prm (fun s => ch (sameR2 t' f' (gn b 0) s)) t'.length (gn b) hp, hl]
  refine sm_congr t'.length fun s hs => ch_congr ?_
  have h1 := h.forms hm (r := s) (by omega)
  have h2 := h.forms hm (r := 0) hm.turn.1
  unfold sameR2
  rw [h1.1, h1.2, h2.1, h2.2]
theorem Alike.least {b : List Int} (hm : IsMap t f) (h : Alike t f t' f' b) : formT t' f' (leastTo t' f' (t'.length - 1)) = formT t f (leastTo t f (t.length - 1)) ∧ formF t' f' (leastTo t' f' (t'.length - 1)) = formF t f (leastTo t f (t.length - 1)) := by
  have hm' : IsMap t' f' := by have := hm.ren h.vld h.len; rwa [h.turn, h.flip] at this
  have hl : t.length = t'.length := by rw [← h.turn, conjL_len]; exact h.len.symm
  have hf := h.forms hm hm.turn.1
  have hz := (least_same hm hm' hl).2 ⟨gn b 0, by rw [← hl, ← h.len]; exact h.vld.gn_lt h.vld.1, hf.1, hf.2⟩
  have h1 := hm.turn.1
  have a1 := leastTo_le t f (t.length - 1)
  have a2 := leastTo_le t' f' (t'.length - 1)
  have b1 := formT_len hm (root := leastTo t f (t.length - 1)) (by omega)
  have b2 := formF_len hm (root := leastTo t f (t.length - 1)) (by omega)
  have b3 := formT_len hm' (root := leastTo t' f' (t'.length - 1)) (by omega)
  have b4 := formF_len hm' (root := leastTo t' f' (t'.length - 1)) (by omega)
  obtain ⟨e1, e2⟩ := (cmpM_zero (b1.trans (hl.trans b3.symm)) (b2.trans (hl.trans b4.symm))).1 hz
  exact ⟨e1.symm, e2.symm⟩
theorem ren_alike {b : List Int} (hb : Vld b) (hl : b.length = t.length) : Alike t f (conjL t b) (conjL f b) b := ⟨hb, hl, rfl, rfl⟩
end

end Go.Proofs.Ytakckkmhhedfpaa
