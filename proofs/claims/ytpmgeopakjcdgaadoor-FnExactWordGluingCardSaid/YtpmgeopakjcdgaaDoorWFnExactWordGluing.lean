/-
  FnExactWordGluing: the walk of the law: the model and the program are called by their contracts.
-/
import Derived.Test.YtpmgeopakjcdgaaDoorWrdG
namespace Go.Proofs.YtpmgeopakjcdgaaDoor
open Go.RowKit

set_option maxHeartbeats 1600000 in
theorem walk_FnExactWordGluing (s0 : ByteArray) (w : World) (_hw0 : s0.size ≤ maxLen) :
    Calls Tryd.prog 8 #[.string s0] w fun e w' => e = .returned (.bool true) ∧ Below w.heap.size w w' := by
  by_cases hlt0 : 1048576 < s0.size
  · have hd0 : decide ((1048576 : Int) < s0.size) = true := by simp; omega
    go_enter Tryd.func8, Tryd.ntmps8
    go_wp2_with fail
    go_ret
    exact ⟨rfl, Below.refl _ _⟩
  have hd0 : decide ((1048576 : Int) < s0.size) = false := by simp; omega
  obtain ⟨ok, ys, hR⟩ : ∃ ok ys, gluR s0.data.toList = (ok, ys) := ⟨_, _, rfl⟩
  obtain ⟨m, hm⟩ : ∃ m, ys.length = m := ⟨_, rfl⟩
  have hm12 : m ≤ 12 := hm ▸ gluR_len hR
  have HRR := Lib.hid hR; have HMM := Lib.hid hm; clear hR hm
  have hok : (ok != ok) = false := by simp
  have hye := eqB_refl ys
  go_enter Tryd.func8, Tryd.ntmps8
  go_wp2_with fail
  refine (spec_gluR w s0 (by omega) HRR.out).mono ?_
  rintro e w1 ⟨v, rfl, o, b⟩
  have HZ_1 : Hid (w.heap.size ≤ w1.heap.size) := b.size
  have HB_1 := Lib.hid b
  clear b
  have HIW := Lib.hid (Own.lt o)
  obtain ⟨AW, cW, rfl, -, -⟩ := o.form' HMM.out
  have HOW_1 := Lib.hid o; clear o
  go_wp2_with fail
  refine (impl_gluR w1 s0 (by omega) HRR.out).mono ?_
  rintro e w2 ⟨v, rfl, o, b⟩
  have HZ_2 : Hid (w1.heap.size ≤ w2.heap.size) := b.size
  have HOW_2 := Lib.hid (HOW_1.out.below b)
  have HB_2 := Lib.hid (HB_1.out.trans (b.mono HB_1.out.size))
  clear b
  have HIG := Lib.hid (Own.lt o)
  obtain ⟨AG, cG, rfl, -, -⟩ := o.form' HMM.out
  have HOG_2 := Lib.hid o; clear o
  go_wp2_with fail
  refine (eqIntS_b AG AW m m cG cW ys ys w2 (HOG_2.out.rd HMM.out) (HOW_2.out.rd HMM.out) (by unfold maxLen; omega) (by unfold maxLen; omega)).mono ?_
  rintro e w3 ⟨rfl, b⟩
  have HZ_3 : Hid (w2.heap.size ≤ w3.heap.size) := b.size
  have HOW_3 := Lib.hid (HOW_2.out.below b)
  have HOG_3 := Lib.hid (HOG_2.out.below b)
  have HB_3 := Lib.hid (HB_2.out.trans (b.mono HB_2.out.size))
  clear b
  go_wp2_with fail
  refine (markIntS_any w1.heap.size AG m cG ys 1 w3 HOG_3.out HMM.out (by omega) (by omega) (by omega)).mono ?_
  rintro e w4 ⟨rfl, o, hg⟩
  have HZ_4 : Hid (w3.heap.size ≤ w4.heap.size) := hg.size
  have HOW_4 := Lib.hid (HOW_3.out.grown hg (ne_of (m := w1.heap.size) (fun k hk => (HIW.out k hk).2) (fun k hk => Nat.le_trans (Nat.le_refl _) (HIG.out k hk).1)))
  have HOG_4 := Lib.hid o; clear o
  have HB_4 := Lib.hid (HB_3.out.grown hg HB_3.out.size (fun k hk => Nat.le_trans HB_1.out.size (HIG.out k hk).1)); clear hg
  have hk2 : decide ((1 : Int) + (m : Int) < 0) = false := by simp; omega
  have hk3 : ((1 : Int) + (m : Int) != 1 + (m : Int)) = false := by simp
  go_wp2_with fail
  refine (heldIntS_any AG m cG 1 w4 (HOG_4.out.rd (marks_len _ _)) (by omega) (by omega) (by omega)).mono ?_
  rintro e w' ⟨rfl, rfl⟩
  go_wp2_with fail
  refine (impl_gluR w4 s0 (by omega) HRR.out).mono ?_
  rintro e w5 ⟨v, rfl, o, b⟩
  have HZ_5 : Hid (w4.heap.size ≤ w5.heap.size) := b.size
  have HOW_5 := Lib.hid (HOW_4.out.below b)
  have HOG_5 := Lib.hid (HOG_4.out.below b)
  have HB_5 := Lib.hid (HB_4.out.trans (b.mono HB_4.out.size))
  clear b
  have HIH := Lib.hid (Own.lt o)
  obtain ⟨AH, cH, rfl, -, -⟩ := o.form' HMM.out
  have HOH_5 := Lib.hid o; clear o
  go_wp2_with fail
  refine (eqIntS_b AH AW m m cH cW ys ys w5 (HOH_5.out.rd HMM.out) (HOW_5.out.rd HMM.out) (by unfold maxLen; omega) (by unfold maxLen; omega)).mono ?_
  rintro e w6 ⟨rfl, b⟩
  have HZ_6 : Hid (w5.heap.size ≤ w6.heap.size) := b.size
  have HOW_6 := Lib.hid (HOW_5.out.below b)
  have HOG_6 := Lib.hid (HOG_5.out.below b)
  have HOH_6 := Lib.hid (HOH_5.out.below b)
  have HB_6 := Lib.hid (HB_5.out.trans (b.mono HB_5.out.size))
  clear b
  go_wp2_with fail
  refine (heldIntS_any AG m cG 1 w6 (HOG_6.out.rd (marks_len _ _)) (by omega) (by omega) (by omega)).mono ?_
  rintro e w' ⟨rfl, rfl⟩
  go_wp2_with fail
  go_ret
  exact ⟨rfl, HB_6.out⟩

end Go.Proofs.YtpmgeopakjcdgaaDoor
