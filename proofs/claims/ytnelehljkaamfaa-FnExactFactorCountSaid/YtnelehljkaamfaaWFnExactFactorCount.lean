/-
  FnExactFactorCount: the walk of the law: the model and the program are called by their contracts.
-/
import Derived.Test.YtnelehljkaamfaaFacN
namespace Go.Proofs.Ytnelehljkaamfaa
open Go.RowKit

set_option maxHeartbeats 1600000 in
theorem walk_FnExactFactorCount (A0 : Option Addr) (n0 c0 : Nat) (xss : List (List Int)) (w : World) (hr0 : RdSS w A0 n0 xss) (hm0 : n0 ≤ maxLen) :
    Calls Try.prog 4 #[.slice A0 n0 c0] w fun e w' => e = .returned (.bool true) ∧ Below w.heap.size w w' := by
  have HL := Lib.hid hr0.1; have HR_0 := Lib.hid hr0; clear hr0
  obtain ⟨r, hR⟩ : ∃ r, fcR xss = r := ⟨_, rfl⟩
  have HRR := Lib.hid hR; clear hR
  have hok : (r != r) = false := by simp
  go_enter Try.func4, Try.ntmps4
  go_wp2_with fail
  refine (szIntSS_any A0 n0 c0 xss w HR_0.out hm0).mono ?_
  rintro e w1 ⟨q, rfl, hw, hq⟩
  subst hw
  by_cases hneg : q < 0
  · have hd : decide (q < 0) = true := by simpa using hneg
    go_wp2_with fail
    go_ret
    exact ⟨rfl, Below.refl _ _⟩
  have hd : decide (q < 0) = false := by simpa using hneg
  have hall := hq (by omega)
  have hn : n0 ≤ 1048576 := by omega
  have HT : Hid (total xss ≤ 1048576) := (by omega : total xss ≤ 1048576)
  clear hq hall hneg
  go_wp2_with fail
  refine (toIntSS_any A0 n0 c0 xss w1 HR_0.out hn HT.out).mono ?_
  rintro e w2 ⟨As, cs, rfl, o, b⟩
  have HS_2 := Lib.hid o; have HB_2 := Lib.hid b; have HR_2 := Lib.hid (HR_0.out.below b); clear o b
  go_wp2_with fail
  refine (spec_fcR w2 As cs n0 xss HS_2.out hn HT.out HRR.out).mono ?_
  rintro e w3 ⟨rfl, b⟩
  have HB_3 := Lib.hid (HB_2.out.trans (b.mono HB_2.out.size)); have HR_3 := Lib.hid (HR_2.out.below b); clear b
  go_wp2_with fail
  refine (toIntSS_own A0 n0 c0 xss w3 HR_3.out hn HT.out).mono ?_
  rintro e w4 ⟨gx, rfl, o, b⟩
  have HX_4 := Lib.hid o; have HB_4 := Lib.hid (HB_3.out.trans (b.mono HB_3.out.size)); have HR_4 := Lib.hid (HR_3.out.below b); clear o b
  go_wp2_with fail
  refine (impl_fcR w4 gx n0 xss HX_4.out HL.out hn HT.out HRR.out).mono ?_
  rintro e w5 ⟨rfl, b⟩
  have HB_5 := Lib.hid (HB_4.out.trans (b.mono HB_4.out.size)); have HR_5 := Lib.hid (HR_4.out.below b); have HX_5 := Lib.hid (HX_4.out.below b); clear b
  go_wp2_with fail
  refine (toIntSS_any A0 n0 c0 xss w5 HR_5.out hn HT.out).mono ?_
  rintro e w6 ⟨At, ct, rfl, o, b⟩
  have HT_6 := Lib.hid o; have HB_6 := Lib.hid (HB_5.out.trans (b.mono HB_5.out.size)); have HX_6 := Lib.hid (HX_5.out.below b); clear o b
  go_wp2_with fail
  refine (eqIntSS_same (some ⟨gx, 0, none⟩) At n0 n0 ct xss w6 (HX_6.out.rd HL.out) HT_6.out hn).mono ?_
  rintro e w7 ⟨rfl, b⟩
  have HB_7 := Lib.hid (HB_6.out.trans (b.mono HB_6.out.size)); clear b
  go_wp2_with fail
  go_ret
  exact ⟨rfl, HB_7.out⟩

end Go.Proofs.Ytnelehljkaamfaa
