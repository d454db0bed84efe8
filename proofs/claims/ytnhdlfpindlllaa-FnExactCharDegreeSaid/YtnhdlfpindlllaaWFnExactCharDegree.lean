/-
  FnExactCharDegree: the walk of the law: the model and the program are called by their contracts.
-/
import Derived.Test.YtnhdlfpindlllaaPtG
namespace Go.Proofs.Ytnhdlfpindlllaa
open Go.RowKit

set_option maxHeartbeats 1600000 in
theorem walk_FnExactCharDegree (A0 : Option Addr) (n0 c0 : Nat) (xs0 : List Int) (w : World) (hr0 : Rd w A0 n0 xs0) (_hm0 : n0 ≤ maxLen) :
    Calls Try.prog 7 #[.slice A0 n0 c0] w fun e w' => e = .returned (.bool true) ∧ Below w.heap.size w w' := by
  have HR0_0 := Lib.hid hr0
  have HL0 := Lib.hid hr0.1
  have HA0 : Hid (∀ ad, A0 = some ad → 0 < n0 → ad.block < w.heap.size) := Rd.lt hr0
  clear hr0
  by_cases hlt0 : 1048576 < n0
  · have hd0 : decide ((1048576 : Int) < n0) = true := by simp; omega
    go_enter Try.func7, Try.ntmps7
    go_wp2_with fail
    go_ret
    exact ⟨rfl, Below.refl _ _⟩
  have hd0 : decide ((1048576 : Int) < n0) = false := by simp; omega
  obtain ⟨r, hR⟩ : ∃ r, dgR xs0 = r := ⟨_, rfl⟩
  have HRR := Lib.hid hR; clear hR
  have hok : (r != r) = false := by simp
  have hxe0 := eqB_refl xs0
  go_enter Try.func7, Try.ntmps7
  go_wp2_with fail
  refine (toIntS_any A0 n0 c0 xs0 w HR0_0.out (by omega)).mono ?_
  rintro e w1 ⟨v, rfl, o, b⟩
  have HZ_1 : Hid (w.heap.size ≤ w1.heap.size) := b.size
  have HR0_1 := Lib.hid (HR0_0.out.below b)
  have HB_1 := Lib.hid b
  clear b
  have HIs0 := Lib.hid (Own.lt o)
  obtain ⟨As0, cs0, rfl, -, -⟩ := o.form' HL0.out
  have HOs0_1 := Lib.hid o; clear o
  go_wp2_with fail
  refine (spec_dgR w1 As0 cs0 n0 xs0 (HOs0_1.out.rd HL0.out) (by omega) HRR.out).mono ?_
  rintro e w2 ⟨rfl, b⟩
  have HZ_2 : Hid (w1.heap.size ≤ w2.heap.size) := b.size
  have HR0_2 := Lib.hid (HR0_1.out.below b)
  have HOs0_2 := Lib.hid (HOs0_1.out.below b)
  have HB_2 := Lib.hid (HB_1.out.trans (b.mono HB_1.out.size))
  clear b
  go_wp2_with fail
  refine (toIntS_any A0 n0 c0 xs0 w2 HR0_2.out (by omega)).mono ?_
  rintro e w3 ⟨v, rfl, o, b⟩
  have HZ_3 : Hid (w2.heap.size ≤ w3.heap.size) := b.size
  have HR0_3 := Lib.hid (HR0_2.out.below b)
  have HB_3 := Lib.hid (HB_2.out.trans (b.mono HB_2.out.size))
  clear b
  have HIx0 := Lib.hid (Own.lt o)
  obtain ⟨Ax0, cx0, rfl, -, -⟩ := o.form' HL0.out
  have HOx0_3 := Lib.hid o; clear o
  go_wp2_with fail
  refine (impl_dgR w3 Ax0 cx0 n0 xs0 (HOx0_3.out.rd HL0.out) (by omega) HRR.out).mono ?_
  rintro e w4 ⟨rfl, b⟩
  have HZ_4 : Hid (w3.heap.size ≤ w4.heap.size) := b.size
  have HR0_4 := Lib.hid (HR0_3.out.below b)
  have HOx0_4 := Lib.hid (HOx0_3.out.below b)
  have HB_4 := Lib.hid (HB_3.out.trans (b.mono HB_3.out.size))
  clear b
  go_wp2_with fail
  refine (toIntS_any A0 n0 c0 xs0 w4 HR0_4.out (by omega)).mono ?_
  rintro e w5 ⟨v, rfl, o, b⟩
  have HZ_5 : Hid (w4.heap.size ≤ w5.heap.size) := b.size
  have HR0_5 := Lib.hid (HR0_4.out.below b)
  have HOx0_5 := Lib.hid (HOx0_4.out.below b)
  have HB_5 := Lib.hid (HB_4.out.trans (b.mono HB_4.out.size))
  clear b
  have HIt0 := Lib.hid (Own.lt o)
  obtain ⟨At0, ct0, rfl, -, -⟩ := o.form' HL0.out
  have HOt0_5 := Lib.hid o; clear o
  go_wp2_with fail
  refine (eqIntS_b Ax0 At0 n0 n0 cx0 ct0 xs0 xs0 w5 (HOx0_5.out.rd HL0.out) (HOt0_5.out.rd HL0.out) (by unfold maxLen; omega) (by unfold maxLen; omega)).mono ?_
  rintro e w6 ⟨rfl, b⟩
  have HZ_6 : Hid (w5.heap.size ≤ w6.heap.size) := b.size
  have HR0_6 := Lib.hid (HR0_5.out.below b)
  have HOx0_6 := Lib.hid (HOx0_5.out.below b)
  have HOt0_6 := Lib.hid (HOt0_5.out.below b)
  have HB_6 := Lib.hid (HB_5.out.trans (b.mono HB_5.out.size))
  clear b
  go_wp2_with fail
  go_ret
  exact ⟨rfl, HB_6.out⟩

end Go.Proofs.Ytnhdlfpindlllaa
