/-
  FnExactCutJoin: the walk of the law: the model and the program are called by their contracts.
-/
import Derived.Test.YtnelehljkaamfaaPtJS
namespace Go.Proofs.Ytnelehljkaamfaa
open Go.RowKit

set_option maxHeartbeats 1600000 in
theorem walk_FnExactCutJoin (A0 : Option Addr) (n0 c0 : Nat) (xs0 : List Int) (A1 : Option Addr) (n1 c1 : Nat) (xs1 : List Int) (w : World) (hr0 : Rd w A0 n0 xs0) (_hm0 : n0 ≤ maxLen) (hr1 : Rd w A1 n1 xs1) (_hm1 : n1 ≤ maxLen) :
    Calls Try.prog 5 #[.slice A0 n0 c0, .slice A1 n1 c1] w fun e w' => e = .returned (.bool true) ∧ Below w.heap.size w w' := by
  have HR0_0 := Lib.hid hr0
  have HL0 := Lib.hid hr0.1
  have HA0 : Hid (∀ ad, A0 = some ad → 0 < n0 → ad.block < w.heap.size) := Rd.lt hr0
  clear hr0
  have HR1_0 := Lib.hid hr1
  have HL1 := Lib.hid hr1.1
  have HA1 : Hid (∀ ad, A1 = some ad → 0 < n1 → ad.block < w.heap.size) := Rd.lt hr1
  clear hr1
  by_cases hlt0 : 1048576 < n0
  · have hd0 : decide ((1048576 : Int) < n0) = true := by simp; omega
    go_enter Try.func5, Try.ntmps5
    go_wp2_with fail
    go_ret
    exact ⟨rfl, Below.refl _ _⟩
  have hd0 : decide ((1048576 : Int) < n0) = false := by simp; omega
  by_cases hlt1 : 1048576 < n1
  · have hd1 : decide ((1048576 : Int) < n1) = true := by simp; omega
    go_enter Try.func5, Try.ntmps5
    go_wp2_with fail
    go_ret
    exact ⟨rfl, Below.refl _ _⟩
  have hd1 : decide ((1048576 : Int) < n1) = false := by simp; omega
  obtain ⟨r, hR⟩ : ∃ r, ctR xs0 xs1 = r := ⟨_, rfl⟩
  have HRR := Lib.hid hR; clear hR
  have hok : (r != r) = false := by simp
  have hxe0 := eqB_refl xs0
  have hxe1 := eqB_refl xs1
  go_enter Try.func5, Try.ntmps5
  go_wp2_with fail
  refine (toIntS_any A0 n0 c0 xs0 w HR0_0.out (by omega)).mono ?_
  rintro e w1 ⟨v, rfl, o, b⟩
  have HZ_1 : Hid (w.heap.size ≤ w1.heap.size) := b.size
  have HR0_1 := Lib.hid (HR0_0.out.below b)
  have HR1_1 := Lib.hid (HR1_0.out.below b)
  have HB_1 := Lib.hid b
  clear b
  have HIs0 := Lib.hid (Own.lt o)
  obtain ⟨As0, cs0, rfl, -, -⟩ := o.form' HL0.out
  have HOs0_1 := Lib.hid o; clear o
  go_wp2_with fail
  refine (toIntS_any A1 n1 c1 xs1 w1 HR1_1.out (by omega)).mono ?_
  rintro e w2 ⟨v, rfl, o, b⟩
  have HZ_2 : Hid (w1.heap.size ≤ w2.heap.size) := b.size
  have HR0_2 := Lib.hid (HR0_1.out.below b)
  have HR1_2 := Lib.hid (HR1_1.out.below b)
  have HOs0_2 := Lib.hid (HOs0_1.out.below b)
  have HB_2 := Lib.hid (HB_1.out.trans (b.mono HB_1.out.size))
  clear b
  have HIs1 := Lib.hid (Own.lt o)
  obtain ⟨As1, cs1, rfl, -, -⟩ := o.form' HL1.out
  have HOs1_2 := Lib.hid o; clear o
  go_wp2_with fail
  refine (spec_ctR w2 As0 cs0 n0 xs0 (HOs0_2.out.rd HL0.out) (by omega) As1 cs1 n1 xs1 (HOs1_2.out.rd HL1.out) (by omega) HRR.out).mono ?_
  rintro e w3 ⟨rfl, b⟩
  have HZ_3 : Hid (w2.heap.size ≤ w3.heap.size) := b.size
  have HR0_3 := Lib.hid (HR0_2.out.below b)
  have HR1_3 := Lib.hid (HR1_2.out.below b)
  have HOs0_3 := Lib.hid (HOs0_2.out.below b)
  have HOs1_3 := Lib.hid (HOs1_2.out.below b)
  have HB_3 := Lib.hid (HB_2.out.trans (b.mono HB_2.out.size))
  clear b
  go_wp2_with fail
  refine (toIntS_any A0 n0 c0 xs0 w3 HR0_3.out (by omega)).mono ?_
  rintro e w4 ⟨v, rfl, o, b⟩
  have HZ_4 : Hid (w3.heap.size ≤ w4.heap.size) := b.size
  have HR0_4 := Lib.hid (HR0_3.out.below b)
  have HR1_4 := Lib.hid (HR1_3.out.below b)
  have HB_4 := Lib.hid (HB_3.out.trans (b.mono HB_3.out.size))
  clear b
  have HIx0 := Lib.hid (Own.lt o)
  obtain ⟨Ax0, cx0, rfl, -, -⟩ := o.form' HL0.out
  have HOx0_4 := Lib.hid o; clear o
  go_wp2_with fail
  refine (toIntS_any A1 n1 c1 xs1 w4 HR1_4.out (by omega)).mono ?_
  rintro e w5 ⟨v, rfl, o, b⟩
  have HZ_5 : Hid (w4.heap.size ≤ w5.heap.size) := b.size
  have HR0_5 := Lib.hid (HR0_4.out.below b)
  have HR1_5 := Lib.hid (HR1_4.out.below b)
  have HOx0_5 := Lib.hid (HOx0_4.out.below b)
  have HB_5 := Lib.hid (HB_4.out.trans (b.mono HB_4.out.size))
  clear b
  have HIx1 := Lib.hid (Own.lt o)
  obtain ⟨Ax1, cx1, rfl, -, -⟩ := o.form' HL1.out
  have HOx1_5 := Lib.hid o; clear o
  go_wp2_with fail
  refine (impl_ctR w5 Ax0 cx0 n0 xs0 (HOx0_5.out.rd HL0.out) (by omega) Ax1 cx1 n1 xs1 (HOx1_5.out.rd HL1.out) (by omega) HRR.out).mono ?_
  rintro e w6 ⟨rfl, b⟩
  have HZ_6 : Hid (w5.heap.size ≤ w6.heap.size) := b.size
  have HR0_6 := Lib.hid (HR0_5.out.below b)
  have HR1_6 := Lib.hid (HR1_5.out.below b)
  have HOx0_6 := Lib.hid (HOx0_5.out.below b)
  have HOx1_6 := Lib.hid (HOx1_5.out.below b)
  have HB_6 := Lib.hid (HB_5.out.trans (b.mono HB_5.out.size))
  clear b
  go_wp2_with fail
  refine (toIntS_any A0 n0 c0 xs0 w6 HR0_6.out (by omega)).mono ?_
  rintro e w7 ⟨v, rfl, o, b⟩
  have HZ_7 : Hid (w6.heap.size ≤ w7.heap.size) := b.size
  have HR0_7 := Lib.hid (HR0_6.out.below b)
  have HR1_7 := Lib.hid (HR1_6.out.below b)
  have HOx0_7 := Lib.hid (HOx0_6.out.below b)
  have HOx1_7 := Lib.hid (HOx1_6.out.below b)
  have HB_7 := Lib.hid (HB_6.out.trans (b.mono HB_6.out.size))
  clear b
  have HIt0 := Lib.hid (Own.lt o)
  obtain ⟨At0, ct0, rfl, -, -⟩ := o.form' HL0.out
  have HOt0_7 := Lib.hid o; clear o
  go_wp2_with fail
  refine (eqIntS_b Ax0 At0 n0 n0 cx0 ct0 xs0 xs0 w7 (HOx0_7.out.rd HL0.out) (HOt0_7.out.rd HL0.out) (by unfold maxLen; omega) (by unfold maxLen; omega)).mono ?_
  rintro e w8 ⟨rfl, b⟩
  have HZ_8 : Hid (w7.heap.size ≤ w8.heap.size) := b.size
  have HR0_8 := Lib.hid (HR0_7.out.below b)
  have HR1_8 := Lib.hid (HR1_7.out.below b)
  have HOx0_8 := Lib.hid (HOx0_7.out.below b)
  have HOx1_8 := Lib.hid (HOx1_7.out.below b)
  have HOt0_8 := Lib.hid (HOt0_7.out.below b)
  have HB_8 := Lib.hid (HB_7.out.trans (b.mono HB_7.out.size))
  clear b
  go_wp2_with fail
  refine (toIntS_any A1 n1 c1 xs1 w8 HR1_8.out (by omega)).mono ?_
  rintro e w9 ⟨v, rfl, o, b⟩
  have HZ_9 : Hid (w8.heap.size ≤ w9.heap.size) := b.size
  have HR0_9 := Lib.hid (HR0_8.out.below b)
  have HR1_9 := Lib.hid (HR1_8.out.below b)
  have HOx0_9 := Lib.hid (HOx0_8.out.below b)
  have HOx1_9 := Lib.hid (HOx1_8.out.below b)
  have HB_9 := Lib.hid (HB_8.out.trans (b.mono HB_8.out.size))
  clear b
  have HIt1 := Lib.hid (Own.lt o)
  obtain ⟨At1, ct1, rfl, -, -⟩ := o.form' HL1.out
  have HOt1_9 := Lib.hid o; clear o
  go_wp2_with fail
  refine (eqIntS_b Ax1 At1 n1 n1 cx1 ct1 xs1 xs1 w9 (HOx1_9.out.rd HL1.out) (HOt1_9.out.rd HL1.out) (by unfold maxLen; omega) (by unfold maxLen; omega)).mono ?_
  rintro e w10 ⟨rfl, b⟩
  have HZ_10 : Hid (w9.heap.size ≤ w10.heap.size) := b.size
  have HR0_10 := Lib.hid (HR0_9.out.below b)
  have HR1_10 := Lib.hid (HR1_9.out.below b)
  have HOx0_10 := Lib.hid (HOx0_9.out.below b)
  have HOx1_10 := Lib.hid (HOx1_9.out.below b)
  have HOt1_10 := Lib.hid (HOt1_9.out.below b)
  have HB_10 := Lib.hid (HB_9.out.trans (b.mono HB_9.out.size))
  clear b
  go_wp2_with fail
  go_ret
  exact ⟨rfl, HB_10.out⟩

end Go.Proofs.Ytnelehljkaamfaa
