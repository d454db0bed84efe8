/-
  FnExactPartsAll: the walk of the law: the model and the program are called by their contracts.
-/
import Derived.Test.YtnelehljkaamfaaPAll
import Derived.Test.YtnelehljkaamfaaMarkSS
namespace Go.Proofs.Ytnelehljkaamfaa
open Go.RowKit

set_option maxHeartbeats 1600000 in
theorem walk_FnExactPartsAll (x0 : Int) (w : World) (hw0 : (Lit.int .i64 x0).wf = true) :
    Calls Try.prog 3 #[.int .i64 x0] w fun e w' => e = .returned (.bool true) ∧ Below w.heap.size w w' := by
  have HW0 := Lib.hid hw0; clear hw0
  obtain ⟨ok, ys, hR⟩ : ∃ ok ys, paR x0 = (ok, ys) := ⟨_, _, rfl⟩
  obtain ⟨m, hm⟩ : ∃ m, ys.length = m := ⟨_, rfl⟩
  obtain ⟨t, ht⟩ : ∃ t, total ys = t := ⟨_, rfl⟩
  have hm12 : m ≤ 100 := hm ▸ Nat.le_trans (paR_len hR).1 (by omega)
  have ht12 : t ≤ 1000 := ht ▸ (paR_len hR).2
  have HTT : Hid (total ys ≤ 1048576) := by rw [ht]; exact Nat.le_trans ht12 (by omega)
  have HT := Lib.hid ht; have HRR := Lib.hid hR; have HMM := Lib.hid hm; clear hR hm ht
  have hok : (ok != ok) = false := by simp
  go_enter Try.func3, Try.ntmps3
  go_wp2_with fail
  refine (spec_paR w x0 HW0.out HRR.out).mono ?_
  rintro e w1 ⟨v, rfl, o, b⟩
  have HZ_1 : Hid (w.heap.size ≤ w1.heap.size) := b.size
  have HB_1 := Lib.hid b
  clear b
  have HIW := Lib.hid (OwnSS.lt o)
  obtain ⟨AW, cW, rfl, -⟩ := o.form HMM.out
  have HOW_1 := Lib.hid o; clear o
  go_wp2_with fail
  refine (impl_paR w1 x0 HW0.out HRR.out).mono ?_
  rintro e w2 ⟨v, rfl, o, b⟩
  have HZ_2 : Hid (w1.heap.size ≤ w2.heap.size) := b.size
  have HOW_2 := Lib.hid (HOW_1.out.below b)
  have HB_2 := Lib.hid (HB_1.out.trans (b.mono HB_1.out.size))
  clear b
  have HIG := Lib.hid (OwnSS.lt o)
  obtain ⟨AG, cG, rfl, -⟩ := o.form HMM.out
  have HOG_2 := Lib.hid o; clear o
  go_wp2_with fail
  refine (eqIntSS_same AG AW m cG cW ys w2 (HOG_2.out.rd HMM.out) (HOW_2.out.rd HMM.out) (by omega)).mono ?_
  rintro e w3 ⟨rfl, b⟩
  have HZ_3 : Hid (w2.heap.size ≤ w3.heap.size) := b.size
  have HS_1_3 : Hid (w1.heap.size ≤ w3.heap.size) := (Nat.le_trans HZ_2.out HZ_3.out)
  have HOW_3 := Lib.hid (HOW_2.out.below b)
  have HOG_3 := Lib.hid (HOG_2.out.below b)
  have HB_3 := Lib.hid (HB_2.out.trans (b.mono HB_2.out.size))
  clear b
  go_wp2_with fail
  refine (markIntSS_any w1.heap.size w2.heap.size AG m cG ys 1 w3 HOG_3.out HMM.out HS_1_3.out (by omega) HTT.out (by omega) (by omega)).mono ?_
  rintro e w4 ⟨rfl, o, b⟩
  have HZ_4 : Hid (w3.heap.size ≤ w4.heap.size) := b.size
  rw [HT.out]
  have HOW_4 := Lib.hid (HOW_3.out.under (Nat.le_refl _) (fun k hk => Nat.lt_of_lt_of_le (HIW.out k hk).2 (Nat.le_refl _)) b)
  have HOG_4 := Lib.hid o; clear o
  have HB_4 := Lib.hid (HB_3.out.trans (b.mono HB_1.out.size)); clear b
  have hk2 : decide ((1 : Int) + (t : Int) < 0) = false := by simp; omega
  have hk3 : ((1 : Int) + (t : Int) != 1 + (t : Int)) = false := by simp
  go_wp2_with fail
  refine (heldIntSS_any AG m cG 1 ys w4 (HOG_4.out.rd ((marksSS_len _ _).trans HMM.out)) (by omega) HTT.out (by omega) (by omega)).mono ?_
  rintro e w' ⟨rfl, rfl⟩
  rw [HT.out]
  go_wp2_with fail
  refine (impl_paR w4 x0 HW0.out HRR.out).mono ?_
  rintro e w5 ⟨v, rfl, o, b⟩
  have HZ_5 : Hid (w4.heap.size ≤ w5.heap.size) := b.size
  have HOW_5 := Lib.hid (HOW_4.out.below b)
  have HOG_5 := Lib.hid (HOG_4.out.below b)
  have HB_5 := Lib.hid (HB_4.out.trans (b.mono HB_4.out.size))
  clear b
  have HIH := Lib.hid (OwnSS.lt o)
  obtain ⟨AH, cH, rfl, -⟩ := o.form HMM.out
  have HOH_5 := Lib.hid o; clear o
  go_wp2_with fail
  refine (eqIntSS_same AH AW m cH cW ys w5 (HOH_5.out.rd HMM.out) (HOW_5.out.rd HMM.out) (by omega)).mono ?_
  rintro e w6 ⟨rfl, b⟩
  have HZ_6 : Hid (w5.heap.size ≤ w6.heap.size) := b.size
  have HOW_6 := Lib.hid (HOW_5.out.below b)
  have HOG_6 := Lib.hid (HOG_5.out.below b)
  have HOH_6 := Lib.hid (HOH_5.out.below b)
  have HB_6 := Lib.hid (HB_5.out.trans (b.mono HB_5.out.size))
  clear b
  go_wp2_with fail
  refine (heldIntSS_any AG m cG 1 ys w6 (HOG_6.out.rd ((marksSS_len _ _).trans HMM.out)) (by omega) HTT.out (by omega) (by omega)).mono ?_
  rintro e w' ⟨rfl, rfl⟩
  rw [HT.out]
  go_wp2_with fail
  go_ret
  exact ⟨rfl, HB_6.out⟩

end Go.Proofs.Ytnelehljkaamfaa
