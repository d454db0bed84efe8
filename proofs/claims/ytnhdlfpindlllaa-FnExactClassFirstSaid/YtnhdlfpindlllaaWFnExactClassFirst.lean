/-
  FnExactClassFirst: the walk of the law: the model and the program are called by their contracts.
-/
import Derived.Test.YtnhdlfpindlllaaPtF
namespace Go.Proofs.Ytnhdlfpindlllaa
open Go.RowKit

set_option maxHeartbeats 1600000 in
theorem walk_FnExactClassFirst (A0 : Option Addr) (n0 c0 : Nat) (xs0 : List Int) (w : World) (hr0 : Rd w A0 n0 xs0) (_hm0 : n0 ≤ maxLen) :
    Calls Try.prog 6 #[.slice A0 n0 c0] w fun e w' => e = .returned (.bool true) ∧ Below w.heap.size w w' := by
  have HR0_0 := Lib.hid hr0
  have HL0 := Lib.hid hr0.1
  have HA0 : Hid (∀ ad, A0 = some ad → 0 < n0 → ad.block < w.heap.size) := Rd.lt hr0
  clear hr0
  by_cases hlt0 : 1048576 < n0
  · have hd0 : decide ((1048576 : Int) < n0) = true := by simp; omega
    go_enter Try.func6, Try.ntmps6
    go_wp2_with fail
    go_ret
    exact ⟨rfl, Below.refl _ _⟩
  have hd0 : decide ((1048576 : Int) < n0) = false := by simp; omega
  obtain ⟨ok, ys, hR⟩ : ∃ ok ys, cfR xs0 = (ok, ys) := ⟨_, _, rfl⟩
  obtain ⟨m, hm⟩ : ∃ m, ys.length = m := ⟨_, rfl⟩
  have hm12 : m ≤ 12 := hm ▸ cfR_len hR
  have HRR := Lib.hid hR; have HMM := Lib.hid hm; clear hR hm
  have hok : (ok != ok) = false := by simp
  have hye := eqB_refl ys
  have hxe0 := eqB_refl xs0
  go_enter Try.func6, Try.ntmps6
  go_wp2_with fail
  refine (toIntS_any A0 n0 c0 xs0 w HR0_0.out (by omega)).mono ?_
  rintro e w1 ⟨v, rfl, o, b⟩
  have HZ_1 : Hid (w.heap.size ≤ w1.heap.size) := b.size
  have HR0_1 := Lib.hid (HR0_0.out.below b)
  have HB_1 := Lib.hid b
  clear b
  have HIs0 := Lib.hid (Own.lt o)
  obtain ⟨As0, cs0, rfl, -, -⟩ := o.form' HL0.out
  have HOs0_1 := Lib.hid o; clear o
  go_wp2_with fail
  refine (spec_cfR w1 As0 cs0 n0 xs0 (HOs0_1.out.rd HL0.out) (by omega) HRR.out).mono ?_
  rintro e w2 ⟨v, rfl, o, b⟩
  have HZ_2 : Hid (w1.heap.size ≤ w2.heap.size) := b.size
  have HR0_2 := Lib.hid (HR0_1.out.below b)
  have HOs0_2 := Lib.hid (HOs0_1.out.below b)
  have HB_2 := Lib.hid (HB_1.out.trans (b.mono HB_1.out.size))
  clear b
  have HIW := Lib.hid (Own.lt o)
  obtain ⟨AW, cW, rfl, -, -⟩ := o.form' HMM.out
  have HOW_2 := Lib.hid o; clear o
  go_wp2_with fail
  refine (toIntS_any A0 n0 c0 xs0 w2 HR0_2.out (by omega)).mono ?_
  rintro e w3 ⟨v, rfl, o, b⟩
  have HZ_3 : Hid (w2.heap.size ≤ w3.heap.size) := b.size
  have HS_2_3 : Hid (w2.heap.size ≤ w3.heap.size) := HZ_3.out
  have HR0_3 := Lib.hid (HR0_2.out.below b)
  have HOW_3 := Lib.hid (HOW_2.out.below b)
  have HB_3 := Lib.hid (HB_2.out.trans (b.mono HB_2.out.size))
  clear b
  have HIx0 := Lib.hid (Own.lt o)
  obtain ⟨Ax0, cx0, rfl, -, -⟩ := o.form' HL0.out
  have HOx0_3 := Lib.hid o; clear o
  go_wp2_with fail
  refine (impl_cfR w3 Ax0 cx0 n0 xs0 (HOx0_3.out.rd HL0.out) (by omega) HRR.out).mono ?_
  rintro e w4 ⟨v, rfl, o, b⟩
  have HZ_4 : Hid (w3.heap.size ≤ w4.heap.size) := b.size
  have HR0_4 := Lib.hid (HR0_3.out.below b)
  have HOW_4 := Lib.hid (HOW_3.out.below b)
  have HOx0_4 := Lib.hid (HOx0_3.out.below b)
  have HB_4 := Lib.hid (HB_3.out.trans (b.mono HB_3.out.size))
  clear b
  have HIG := Lib.hid (Own.lt o)
  obtain ⟨AG, cG, rfl, -, -⟩ := o.form' HMM.out
  have HOG_4 := Lib.hid o; clear o
  go_wp2_with fail
  refine (eqIntS_b AG AW m m cG cW ys ys w4 (HOG_4.out.rd HMM.out) (HOW_4.out.rd HMM.out) (by unfold maxLen; omega) (by unfold maxLen; omega)).mono ?_
  rintro e w5 ⟨rfl, b⟩
  have HZ_5 : Hid (w4.heap.size ≤ w5.heap.size) := b.size
  have HR0_5 := Lib.hid (HR0_4.out.below b)
  have HOW_5 := Lib.hid (HOW_4.out.below b)
  have HOx0_5 := Lib.hid (HOx0_4.out.below b)
  have HOG_5 := Lib.hid (HOG_4.out.below b)
  have HB_5 := Lib.hid (HB_4.out.trans (b.mono HB_4.out.size))
  clear b
  go_wp2_with fail
  refine (toIntS_any A0 n0 c0 xs0 w5 HR0_5.out (by omega)).mono ?_
  rintro e w6 ⟨v, rfl, o, b⟩
  have HZ_6 : Hid (w5.heap.size ≤ w6.heap.size) := b.size
  have HR0_6 := Lib.hid (HR0_5.out.below b)
  have HOW_6 := Lib.hid (HOW_5.out.below b)
  have HOx0_6 := Lib.hid (HOx0_5.out.below b)
  have HOG_6 := Lib.hid (HOG_5.out.below b)
  have HB_6 := Lib.hid (HB_5.out.trans (b.mono HB_5.out.size))
  clear b
  have HIt0 := Lib.hid (Own.lt o)
  obtain ⟨At0, ct0, rfl, -, -⟩ := o.form' HL0.out
  have HOt0_6 := Lib.hid o; clear o
  go_wp2_with fail
  refine (eqIntS_b Ax0 At0 n0 n0 cx0 ct0 xs0 xs0 w6 (HOx0_6.out.rd HL0.out) (HOt0_6.out.rd HL0.out) (by unfold maxLen; omega) (by unfold maxLen; omega)).mono ?_
  rintro e w7 ⟨rfl, b⟩
  have HZ_7 : Hid (w6.heap.size ≤ w7.heap.size) := b.size
  have HR0_7 := Lib.hid (HR0_6.out.below b)
  have HOW_7 := Lib.hid (HOW_6.out.below b)
  have HOx0_7 := Lib.hid (HOx0_6.out.below b)
  have HOG_7 := Lib.hid (HOG_6.out.below b)
  have HOt0_7 := Lib.hid (HOt0_6.out.below b)
  have HB_7 := Lib.hid (HB_6.out.trans (b.mono HB_6.out.size))
  clear b
  have hk1 : decide ((1 : Int) + (n0 : Int) < 0) = false := by simp; omega
  go_wp2_with fail
  refine (markIntS_any w2.heap.size Ax0 n0 cx0 xs0 1 w7 HOx0_7.out HL0.out (by omega) (by omega) (by omega)).mono ?_
  rintro e w8 ⟨rfl, o, hg⟩
  have HZ_8 : Hid (w7.heap.size ≤ w8.heap.size) := hg.size
  have HR0_8 := Lib.hid (HR0_7.out.grown HA0.out hg (fun k hk => Nat.le_trans HB_2.out.size (HIx0.out k hk).1))
  have HOW_8 := Lib.hid (HOW_7.out.grown hg (ne_of (m := w2.heap.size) (fun k hk => (HIW.out k hk).2) (fun k hk => Nat.le_trans (Nat.le_refl _) (HIx0.out k hk).1)))
  have HOG_8 := Lib.hid (HOG_7.out.grown hg (ne_of' (m := w3.heap.size) (fun k hk => Nat.le_trans (Nat.le_refl _) (HIG.out k hk).1) (fun k hk => (HIx0.out k hk).2)))
  have HOx0_8 := Lib.hid o; clear o
  have HB_8 := Lib.hid (HB_7.out.grown hg HB_7.out.size (fun k hk => Nat.le_trans HB_2.out.size (HIx0.out k hk).1)); clear hg
  go_wp2_with fail
  refine (eqIntS_b AG AW m m cG cW ys ys w8 (HOG_8.out.rd HMM.out) (HOW_8.out.rd HMM.out) (by unfold maxLen; omega) (by unfold maxLen; omega)).mono ?_
  rintro e w9 ⟨rfl, b⟩
  have HZ_9 : Hid (w8.heap.size ≤ w9.heap.size) := b.size
  have HR0_9 := Lib.hid (HR0_8.out.below b)
  have HOW_9 := Lib.hid (HOW_8.out.below b)
  have HOx0_9 := Lib.hid (HOx0_8.out.below b)
  have HOG_9 := Lib.hid (HOG_8.out.below b)
  have HB_9 := Lib.hid (HB_8.out.trans (b.mono HB_8.out.size))
  clear b
  go_wp2_with fail
  refine (markIntS_any w3.heap.size AG m cG ys 1 w9 HOG_9.out HMM.out (by omega) (by omega) (by omega)).mono ?_
  rintro e w10 ⟨rfl, o, hg⟩
  have HZ_10 : Hid (w9.heap.size ≤ w10.heap.size) := hg.size
  have HR0_10 := Lib.hid (HR0_9.out.grown HA0.out hg (fun k hk => Nat.le_trans HB_3.out.size (HIG.out k hk).1))
  have HOW_10 := Lib.hid (HOW_9.out.grown hg (ne_of (m := w2.heap.size) (fun k hk => (HIW.out k hk).2) (fun k hk => Nat.le_trans HS_2_3.out (HIG.out k hk).1)))
  have HOx0_10 := Lib.hid (HOx0_9.out.grown hg (ne_of (m := w3.heap.size) (fun k hk => (HIx0.out k hk).2) (fun k hk => Nat.le_trans (Nat.le_refl _) (HIG.out k hk).1)))
  have HOG_10 := Lib.hid o; clear o
  have HB_10 := Lib.hid (HB_9.out.grown hg HB_9.out.size (fun k hk => Nat.le_trans HB_3.out.size (HIG.out k hk).1)); clear hg
  have hk2 : decide ((1 : Int) + (m : Int) < 0) = false := by simp; omega
  have hk3 : ((1 : Int) + (m : Int) != 1 + (m : Int)) = false := by simp
  go_wp2_with fail
  refine (heldIntS_any AG m cG 1 w10 (HOG_10.out.rd (marks_len _ _)) (by omega) (by omega) (by omega)).mono ?_
  rintro e w' ⟨rfl, rfl⟩
  go_wp2_with fail
  refine (toIntS_any A0 n0 c0 xs0 w10 HR0_10.out (by omega)).mono ?_
  rintro e w11 ⟨v, rfl, o, b⟩
  have HZ_11 : Hid (w10.heap.size ≤ w11.heap.size) := b.size
  have HR0_11 := Lib.hid (HR0_10.out.below b)
  have HOW_11 := Lib.hid (HOW_10.out.below b)
  have HOG_11 := Lib.hid (HOG_10.out.below b)
  have HB_11 := Lib.hid (HB_10.out.trans (b.mono HB_10.out.size))
  clear b
  have HIu0 := Lib.hid (Own.lt o)
  obtain ⟨Au0, cu0, rfl, -, -⟩ := o.form' HL0.out
  have HOu0_11 := Lib.hid o; clear o
  go_wp2_with fail
  refine (impl_cfR w11 Au0 cu0 n0 xs0 (HOu0_11.out.rd HL0.out) (by omega) HRR.out).mono ?_
  rintro e w12 ⟨v, rfl, o, b⟩
  have HZ_12 : Hid (w11.heap.size ≤ w12.heap.size) := b.size
  have HR0_12 := Lib.hid (HR0_11.out.below b)
  have HOW_12 := Lib.hid (HOW_11.out.below b)
  have HOG_12 := Lib.hid (HOG_11.out.below b)
  have HOu0_12 := Lib.hid (HOu0_11.out.below b)
  have HB_12 := Lib.hid (HB_11.out.trans (b.mono HB_11.out.size))
  clear b
  have HIH := Lib.hid (Own.lt o)
  obtain ⟨AH, cH, rfl, -, -⟩ := o.form' HMM.out
  have HOH_12 := Lib.hid o; clear o
  go_wp2_with fail
  refine (eqIntS_b AH AW m m cH cW ys ys w12 (HOH_12.out.rd HMM.out) (HOW_12.out.rd HMM.out) (by unfold maxLen; omega) (by unfold maxLen; omega)).mono ?_
  rintro e w13 ⟨rfl, b⟩
  have HZ_13 : Hid (w12.heap.size ≤ w13.heap.size) := b.size
  have HR0_13 := Lib.hid (HR0_12.out.below b)
  have HOW_13 := Lib.hid (HOW_12.out.below b)
  have HOG_13 := Lib.hid (HOG_12.out.below b)
  have HOu0_13 := Lib.hid (HOu0_12.out.below b)
  have HOH_13 := Lib.hid (HOH_12.out.below b)
  have HB_13 := Lib.hid (HB_12.out.trans (b.mono HB_12.out.size))
  clear b
  go_wp2_with fail
  refine (heldIntS_any AG m cG 1 w13 (HOG_13.out.rd (marks_len _ _)) (by omega) (by omega) (by omega)).mono ?_
  rintro e w' ⟨rfl, rfl⟩
  go_wp2_with fail
  go_ret
  exact ⟨rfl, HB_13.out⟩

end Go.Proofs.Ytnhdlfpindlllaa
