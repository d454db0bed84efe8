/-
  Plain: first forms.
-/
import Derived.Test.YtjpebcomecoheaaPar4
namespace Go.Proofs.Ytjpebcomecoheaa

section
variable {t f : List Int}
theorem least_least (hm : IsMap t f) : leastR (formT t f (leastTo t f (t.length - 1))) (formF t f (leastTo t f (t.length - 1))) = (true, formT t f (leastTo t f (t.length - 1)), formF t f (leastTo t f (t.length - 1))) := by
  have h1 := hm.turn.1
  have hK : leastTo t f (t.length - 1) < t.length := by have := leastTo_le t f (t.length - 1); omega
  have hfm := form_map hm hK
  have hl := formT_len hm hK
  have hff := form_form hm hK
  obtain ⟨y, hy, e1, e2⟩ := forms_share hm hfm hl.symm hK (s := 0) (by rw [hl]; omega) hff.1.symm hff.2.symm (x := 0) (by omega)
  have hz := (least_same hm hfm hl.symm).2 ⟨y, hy, e1.symm, e2.symm⟩
  have hK2 : leastTo (formT t f (leastTo t f (t.length - 1))) (formF t f (leastTo t f (t.length - 1))) ((formT t f (leastTo t f (t.length - 1))).length - 1) < (formT t f (leastTo t f (t.length - 1))).length := by
    have := leastTo_le (formT t f (leastTo t f (t.length - 1))) (formF t f (leastTo t f (t.length - 1))) ((formT t f (leastTo t f (t.length - 1))).length - 1); omega
  obtain ⟨e3, e4⟩ := (cmpM_zero (hl.trans (hl.symm.trans (formT_len hfm hK2).symm)) ((formF_len hm hK).trans (hl.symm.trans (formF_len hfm hK2).symm))).1 hz
  rw [leastR, if_pos (mapV_iff.2 hfm), ← e3, ← e4]
theorem root_not_less (hm : IsMap t f) {r i : Nat} (hr : r < t.length) (hi : i < t.length) (hp : ∀ j, j < i → gi (formT t f r) j = gi (formT t f (leastTo t f (t.length - 1))) j) : ¬ gi (formT t f r) i < gi (formT t f (leastTo t f (t.length - 1))) i := by
  intro hlt
  have hK : leastTo t f (t.length - 1) < t.length := by have := leastTo_le t f (t.length - 1); omega
  have l1 := formT_len hm hr
  have l2 := formT_len hm hK
  have hmin := least_min hm (t.length - 1) (by omega) r (by omega)
  have := cmpL_lt (a := formC t f r) (b := formC t f (leastTo t f (t.length - 1))) (k := i) (by rw [formC_len hm hr]; omega) (by rw [formC_len hm hr, formC_len hm hK])
    (fun j hj => by unfold formC; rw [gi_append_left (by omega), gi_append_left (by omega)]; exact hp j hj) (by unfold formC; rw [gi_append_left (by omega), gi_append_left (by omega)]; exact hlt)
  omega
end

end Go.Proofs.Ytjpebcomecoheaa
