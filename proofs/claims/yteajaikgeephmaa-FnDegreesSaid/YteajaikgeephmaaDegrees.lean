/-
  MapDegrees: the model's and the program's.
-/
import Derived.Test.YteajaikgeephmaaCopy
import Derived.Test.YteajaikgeephmaaType
namespace Go.Proofs.Yteajaikgeephmaa
open Go.RowKit

noncomputable def degreesR (t f : List Int) : Bool × List Int := if mapV t f = true then (true, typeL t) else (false, [])
theorem degreesR_len {t f ys : List Int} {ok : Bool} (h : degreesR t f = (ok, ys)) : ys.length ≤ 12 := by
  unfold degreesR at h
  split at h
  · rename_i hb
    injection h with _ h; have hv := (mapV_iff.1 hb).turn; have := cyclesL_len (p := t); have := hv.2.1; rw [← h, typeL_len hv]; omega
  · injection h with _ h; rw [← h]; simp

theorem spec_degreesR (w : World) (A A' : Option Addr) (n n' c c' : Nat) (t f : List Int) (h : Rd w A n t) (h' : Rd w A' n' f) (hn : n ≤ 1048576) (hn' : n' ≤ 1048576) {ok : Bool} {ys : List Int} (hR : degreesR t f = (ok, ys)) :
    Calls Try.prog 57 #[.agg #[.slice A n c, .slice A' n' c']] w fun e w' => ∃ v, e = .returned (.tuple #[v, .bool ok]) ∧ Own w' w.heap.size v ys ∧ Below w.heap.size w w' := by
  obtain ⟨W0, hW0, hx, hb, -⟩ := Box.local_ w 35 (.slice A n c) (.slice A' n' c')
  have c0 := hx.cell0
  have c1 := hx.cell1
  have HX := Lib.hid hx; have HB := Lib.hid hb; have H := Lib.hid h; have H' := Lib.hid h'; have HR := Lib.hid hR; clear hx hb h h' hR
  by_cases hv : mapV t f = true
  · have hm := mapV_iff.1 hv
    obtain ⟨rfl, rfl⟩ : ok = true ∧ ys = typeL t := by have := HR.out; rw [degreesR, if_pos hv] at this; simpa [eq_comm] using this
    obtain rfl : n = n' := hm.same H.out.1 H'.out.1
    have HV := Lib.hid hv; have HM := Lib.hid hm; clear HR hv hm
    go_enter Try.func57, Try.ntmps57
    go_wp2_with fail
    refine (spec_mapV W0 A A' n n c c' t f (H.out.below HB.out) (H'.out.below HB.out) hn hn' HV.out).mono ?_
    rintro e w1 ⟨rfl, b⟩
    have hx := HX.out.below b
    have c0 := hx.cell0
    have c1 := hx.cell1
    have HB1 := Lib.hid (HB.out.trans (b.mono HB.out.size)); clear b hx
    go_wp2_with fail
    refine (l1Type_any A n c t w1 (H.out.below HB1.out) HM.out.turn).mono ?_
    rintro e w2 ⟨v, rfl, o, b⟩
    have HO := Lib.hid (o.mono HB1.out.size); have HB2 := Lib.hid (HB1.out.trans (b.mono HB1.out.size)); clear o b
    go_wp2_with fail
    go_ret2
    exact ⟨v, rfl, HO.out, HB2.out⟩
  · have hv' : mapV t f = false := by simpa using hv
    obtain ⟨rfl, rfl⟩ : ok = false ∧ ys = [] := by have := HR.out; rw [degreesR, if_neg hv] at this; simpa [eq_comm] using this
    have HV := Lib.hid hv'; clear HR hv hv'
    go_enter Try.func57, Try.ntmps57
    go_wp2_with fail
    refine (spec_mapV W0 A A' n n' c c' t f (H.out.below HB.out) (H'.out.below HB.out) hn hn' HV.out).mono ?_
    rintro e w1 ⟨rfl, b⟩
    have HB1 := Lib.hid (HB.out.trans (b.mono HB.out.size)); clear b
    go_wp2_with fail
    go_ret2
    exact ⟨_, rfl, Own.empty HB1.out.size, HB1.out.alloc HB1.out.size _⟩

theorem impl_degreesR (w : World) (A A' : Option Addr) (n n' c c' : Nat) (t f : List Int) (h : Rd w A n t) (h' : Rd w A' n' f) (hn : n ≤ 1048576) (hn' : n' ≤ 1048576) {ok : Bool} {ys : List Int} (hR : degreesR t f = (ok, ys)) :
    Calls Try.prog 41 #[.agg #[.slice A n c, .slice A' n' c']] w fun e w' => ∃ v, e = .returned (.tuple #[v, .bool ok]) ∧ Own w' w.heap.size v ys ∧ Below w.heap.size w w' := by
  obtain ⟨W0, hW0, hx, hb, -⟩ := Box.local_ w 35 (.slice A n c) (.slice A' n' c')
  have HX := Lib.hid hx; have HB := Lib.hid hb; have H := Lib.hid h; have H' := Lib.hid h'; have HR := Lib.hid hR; clear hx hb h h' hR
  by_cases hv : mapV t f = true
  · have hm := mapV_iff.1 hv
    obtain ⟨rfl, rfl⟩ : ok = true ∧ ys = typeL t := by have := HR.out; rw [degreesR, if_pos hv] at this; simpa [eq_comm] using this
    obtain rfl : n = n' := hm.same H.out.1 H'.out.1
    have HV := Lib.hid hv; have HM := Lib.hid hm; clear HR hv hm
    go_enter Try.func41, Try.ntmps41
    go_wp2_with fail
    refine (valid_lit w.heap.size A A' n n c c' t f W0 HX.out (H.out.below HB.out) (H'.out.below HB.out) hn hn' HV.out).mono ?_
    rintro e w1 ⟨rfl, b⟩
    have hx := HX.out.below b
    have c0 := hx.cell0
    clear hx
    have HB1 := Lib.hid (HB.out.trans (b.mono HB.out.size)); clear b
    go_wp2_with fail
    refine (impl_type_yes w1 A c n t (H.out.below HB1.out) HM.out.turn).mono ?_
    rintro e w2 ⟨v, rfl, o, b⟩
    have HO := Lib.hid (o.mono HB1.out.size); have HB2 := Lib.hid (HB1.out.trans (b.mono HB1.out.size)); clear o b
    go_wp2_with fail
    go_ret2
    exact ⟨v, rfl, HO.out, HB2.out⟩
  · have hv' : mapV t f = false := by simpa using hv
    obtain ⟨rfl, rfl⟩ : ok = false ∧ ys = [] := by have := HR.out; rw [degreesR, if_neg hv] at this; simpa [eq_comm] using this
    have HV := Lib.hid hv'; clear HR hv hv'
    go_enter Try.func41, Try.ntmps41
    go_wp2_with fail
    refine (valid_lit w.heap.size A A' n n' c c' t f W0 HX.out (H.out.below HB.out) (H'.out.below HB.out) hn hn' HV.out).mono ?_
    rintro e w1 ⟨rfl, b⟩
    have HB1 := Lib.hid (HB.out.trans (b.mono HB.out.size)); clear b
    go_wp2_with fail
    go_ret2
    exact ⟨_, rfl, Own.nil_ _ _, HB1.out⟩

end Go.Proofs.Yteajaikgeephmaa
