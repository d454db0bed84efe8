/-
  Plain: forms: the form of a form, what a form begins with.
  Plain: first forms.
-/
import Derived.Test.YtakckkmhhedfpaaOrb
import Derived.Test.YtakckkmhhedfpaaSameD
namespace Go.Proofs.Ytakckkmhhedfpaa

theorem gi_set_ne (xs : List Int) {k j : Nat} (u : Int) (h : j ≠ k) : gi (xs.set k u) j = gi xs j := by
  by_cases hk : k < xs.length
  · rw [gi_set _ _ _ _ hk, if_neg h]
  · rw [List.set_eq_of_length_le (by omega)]
theorem nameOne_keep {s : List Int × List Int} {x y : Nat} (h : gi s.1 y ≠ -1) : gi (nameOne s x).1 y = gi s.1 y := by
  unfold nameOne
  by_cases e : gi s.1 x = -1
  · rw [if_pos e]
    exact gi_set_ne _ _ (fun e' => h (by rw [e']; exact e))
  · rw [if_neg e]
theorem nameTwo_keep {t f : List Int} {s : List Int × List Int} {d y : Nat} (h : gi s.1 y ≠ -1) : gi (nameTwo t f s d).1 y = gi s.1 y := by
  unfold nameTwo
  rw [nameOne_keep (by rw [nameOne_keep h]; exact h), nameOne_keep h]
theorem nameGo_keep {t f : List Int} {y : Nat} : ∀ (m k : Nat) (s : List Int × List Int), gi s.1 y ≠ -1 → gi (nameGo t f m k s) y = gi s.1 y
  | 0, _, _, _ => rfl
  | m + 1, k, s, h => by
    rw [nameGo]
    split
    · rw [nameGo_keep m (k + 1) _ (by rw [nameTwo_keep h]; exact h), nameTwo_keep h]
    · rfl
theorem names_root {t f : List Int} {r : Nat} (hr : r < t.length) : gi (namesL t f r) r = 0 := by
  have h0 : gi ((List.replicate t.length (-1 : Int)).set r 0) r = 0 := by rw [gi_set _ _ _ _ (by simpa using hr), if_pos rfl]
  unfold namesL
  rw [nameGo_keep _ _ _ (by show gi ((List.replicate t.length (-1 : Int)).set r 0) r ≠ -1; rw [h0]; omega)]
  exact h0
theorem names_first {t f : List Int} (hm : IsMap t f) {r : Nat} (hr : r < t.length) : gi (namesL t f r) (gn t r) = 1 ∨ (gn t r = r ∧ gi (namesL t f r) (gn f r) = 1) := by
  have hin : ∀ j, gi ((List.replicate t.length (-1 : Int)).set r 0) j = if j = r then 0 else gi (List.replicate t.length (-1 : Int)) j := fun j => gi_set _ _ _ _ (by simpa using hr)
  have hrep : ∀ j, j < t.length → gi (List.replicate t.length (-1 : Int)) j = -1 := fun j hj => by rw [gi_eq (by simpa using hj)]; simp
  have htr := hm.turn.gn_lt hr
  have hfr : gn f r < t.length := by rw [hm.len]; exact hm.flip.gn_lt (by rw [← hm.len]; exact hr)
  have hpr := (hm.paired r (by rw [← hm.len]; exact hr)).1
  have hgo : namesL t f r = nameGo t f t.length 1 (nameTwo t f ((List.replicate t.length (-1 : Int)).set r 0, [(r : Int)]) r) := by
    unfold namesL
    rw [nameGo, if_pos (by simp)]
    rfl
  rw [hgo]
  by_cases e : gn t r = r
  · refine .inr ⟨e, ?_⟩
    have h1 : nameTwo t f ((List.replicate t.length (-1 : Int)).set r 0, [(r : Int)]) r = (((List.replicate t.length (-1 : Int)).set r 0).set (gn f r) 1, [(r : Int)] ++ [((gn f r : Nat) : Int)]) := by
      unfold nameTwo
      rw [e]
      have h2 : nameOne ((List.replicate t.length (-1 : Int)).set r 0, [(r : Int)]) r = ((List.replicate t.length (-1 : Int)).set r 0, [(r : Int)]) := by
        unfold nameOne
        rw [if_neg (by rw [hin, if_pos rfl]; omega)]
      rw [h2]
      unfold nameOne
      rw [if_pos (by rw [hin, if_neg hpr, hrep _ hfr])]
      rfl
    rw [h1]
    have h3 : gi (((List.replicate t.length (-1 : Int)).set r 0).set (gn f r) 1) (gn f r) = 1 := by rw [gi_set _ _ _ _ (by simpa using hfr), if_pos rfl]
    rw [nameGo_keep _ _ _ (by show gi (((List.replicate t.length (-1 : Int)).set r 0).set (gn f r) 1) (gn f r) ≠ -1; rw [h3]; omega)]
    exact h3
  · left
    have h2 : nameOne ((List.replicate t.length (-1 : Int)).set r 0, [(r : Int)]) (gn t r) = (((List.replicate t.length (-1 : Int)).set r 0).set (gn t r) 1, [(r : Int)] ++ [((gn t r : Nat) : Int)]) := by
      unfold nameOne
      rw [if_pos (by rw [hin, if_neg e, hrep _ htr])]
      rfl
    have h3 : gi (((List.replicate t.length (-1 : Int)).set r 0).set (gn t r) 1) (gn t r) = 1 := by rw [gi_set _ _ _ _ (by simpa using htr), if_pos rfl]
    have h4 : gi (nameTwo t f ((List.replicate t.length (-1 : Int)).set r 0, [(r : Int)]) r).1 (gn t r) = 1 := by
      unfold nameTwo
      rw [h2, nameOne_keep (by show gi (((List.replicate t.length (-1 : Int)).set r 0).set (gn t r) 1) (gn t r) ≠ -1; rw [h3]; omega)]
      exact h3
    rw [nameGo_keep _ _ _ (by rw [h4]; omega), h4]
section
variable {t f : List Int} {r : Nat}
theorem gn_names_root (hr : r < t.length) : gn (namesL t f r) r = 0 := gn_of (names_root hr)
theorem form_first (hm : IsMap t f) (hr : r < t.length) : gi (formT t f r) 0 = 1 ∨ (gi (formT t f r) 0 = 0 ∧ gi (formF t f r) 0 = 1) := by
  obtain ⟨hv, hvl⟩ := namesL_vld hm hr
  have h1 : gi (formT t f r) 0 = gi (namesL t f r) (gn t r) := by
    have := conjL_at (p := t) hv (i := r) (by omega)
    rwa [gn_names_root hr] at this
  have h2 : gi (formF t f r) 0 = gi (namesL t f r) (gn f r) := by
    have := conjL_at (p := f) hv (i := r) (by omega)
    rwa [gn_names_root hr] at this
  rw [h1, h2]
  rcases names_first hm hr with h | ⟨h, h'⟩
  · exact .inl h
  · exact .inr ⟨by rw [h]; exact names_root hr, h'⟩
theorem form_map (hm : IsMap t f) (hr : r < t.length) : IsMap (formT t f r) (formF t f r) := by
  obtain ⟨hv, hvl⟩ := namesL_vld hm hr
  exact hm.ren hv hvl
theorem form_form (hm : IsMap t f) (hr : r < t.length) : formT (formT t f r) (formF t f r) 0 = formT t f r ∧ formF (formT t f r) (formF t f r) 0 = formF t f r := by
  obtain ⟨hv, hvl⟩ := namesL_vld hm hr
  have := form_ren hv hvl hm hr
  rwa [gn_names_root hr] at this
theorem same_form (hm : IsMap t f) (hr : r < t.length) : sameR t f (formT t f r) (formF t f r) = true := by
  have hff := form_form hm hr
  have hl := formT_len hm hr
  refine sameR_yes (mapV_iff.2 hm) (mapV_iff.2 (form_map hm hr)) hl.symm ?_
  obtain ⟨y, hy, h1, h2⟩ := forms_share hm (form_map hm hr) hl.symm hr (s := 0) (by rw [hl]; omega) hff.1.symm hff.2.symm (x := 0) (by omega)
  exact ⟨y, hy, h1.symm, h2.symm⟩
end

end Go.Proofs.Ytakckkmhhedfpaa

namespace Go.Proofs.Ytakckkmhhedfpaa

section
variable {t f : List Int}
theorem least_least (hm : IsMap t f) : leastR (formT t f (leastTo t f (t.length - 1))) (formF t f (leastTo t f (t.length - 1))) = (true, formT t f (leastTo t f (t.length - 1)), formF t f (leastTo t f (t.length - 1))) := by
  have h1 := hm.turn.1
  have hK : leastTo t f (t.length - 1) < t.length := by have := leastTo_le t f (t.length - 1); omega
  have hfm := form_map hm hK
  have hl := formT_len hm hK
  have hff := form_form hm hK
  obtain ⟨y, hy, e1, e2⟩ := forms_share hm hfm hl.symm hK (s := 0) (by rw [hl]; omega) hff.1.symm hff.2.symm (x := 0) (by omega)
  have hz := (least_same hm hfm hl.symm).2 ⟨y, hy, e1.symm, e2.symm⟩
  have hK2 : leastTo (formT t f (leastTo t f (t.length - 1))) (formF t f (leastTo t f (t.length - 1))) ((formT t f (leastTo t f (t.length - 1))).length - 1) < (formT t f (leastTo t f (t.length - 1))).length := by
    have := leastTo_le (formT t f (leastTo t f (t.length - 1))) (formF t f (leastTo t f (t.length - 1))) ((formT t f (leastTo t f (t.length - 1))).length - 1); omega
  obtain ⟨e3, e4⟩ := (cmpM_zero (hl.trans (hl.symm.trans (formT_len hfm hK2).symm)) ((formF_len hm hK).trans (hl.symm.trans (formF_len hfm hK2).symm))).1 hz
  rw [leastR, if_pos (mapV_iff.2 hfm), ← e3, ← e4]
theorem root_not_less (hm : IsMap t f) {r i : Nat} (hr : r < t.length) (hi : i < t.length) (hp : ∀ j, j < i → gi (formT t f r) j = gi (formT t f (leastTo t f (t.length - 1))) j) : ¬ gi (formT t f r) i < gi (formT t f (leastTo t f (t.length - 1))) i := by
  intro hlt
  have hK : leastTo t f (t.length - 1) < t.length := by have := leastTo_le t f (t.length - 1); omega
  have l1 := formT_len hm hr
  have l2 := formT_len hm hK
  have hmin := least_min hm (t.length - 1) (by omega) r (by omega)
  have := cmpL_lt (a := formC t f r) (b := formC t f (leastTo t f (t.length - 1))) (k := i) (by rw [formC_len hm hr]; omega) (by rw [formC_len hm hr, formC_len hm hK])
    (fun j hj => by unfold formC; rw [gi_append_left (by omega), gi_append_left (by omega)]; exact hp j hj) (by unfold formC; rw [gi_append_left (by omega), gi_append_left (by omega)]; exact hlt)
  omega
end

end Go.Proofs.Ytakckkmhhedfpaa
