/-
  FnExactPermOrbits: the walk of the law: the model and the program are called by their contracts.
-/
import Derived.Test.YtdbiegmekmfgdaaOrbR
namespace Go.Proofs.Ytdbiegmekmfgdaa
open Go.RowKit

set_option maxHeartbeats 1600000 in
theorem walk_FnExactPermOrbits (A0 : Option Addr) (n0 c0 : Nat) (xs0 : List Int) (A1 : Option Addr) (n1 c1 : Nat) (xs1 : List Int) (w : World) (hr0 : Rd w A0 n0 xs0) (_hm0 : n0 ≤ maxLen) (hr1 : Rd w A1 n1 xs1) (_hm1 : n1 ≤ maxLen) :
    Calls Try.prog 3 #[.slice A0 n0 c0, .slice A1 n1 c1] w fun e w' => e = .returned (.bool true) ∧ Below w.heap.size w w' := by
  have HR0_0 := Lib.hid hr0
  have HL0 := Lib.hid hr0.1
  have HA0 : Hid (∀ ad, A0 = some ad → 0 < n0 → ad.block < w.heap.size) := Rd.lt hr0
  clear hr0
  have HR1_0 := Lib.hid hr1
  have HL1 := Lib.hid hr1.1
  have HA1 : Hid (∀ ad, A1 = some ad → 0 < n1 → ad.block < w.heap.size) := Rd.lt hr1
  clear hr1
  by_cases hlt0 : 1048576 < n0
  · have hd0 : decide ((1048576 : Int) < n0) = true := by simp; omega
    go_enter Try.func3, Try.ntmps3
    go_wp2_with fail
    go_ret
    exact ⟨rfl, Below.refl _ _⟩
  have hd0 : decide ((1048576 : Int) < n0) = false := by simp; omega
  by_cases hlt1 : 1048576 < n1
  · have hd1 : decide ((1048576 : Int) < n1) = true := by simp; omega
    go_enter Try.func3, Try.ntmps3
    go_wp2_with fail
    go_ret
    exact ⟨rfl, Below.refl _ _⟩
  have hd1 : decide ((1048576 : Int) < n1) = false := by simp; omega
  obtain ⟨ok, ys, hR⟩ : ∃ ok ys, orbR xs0 xs1 = (ok, ys) := ⟨_, _, rfl⟩
  obtain ⟨m, hm⟩ : ∃ m, ys.length = m := ⟨_, rfl⟩
  have hm12 : m ≤ 12 := hm ▸ orbR_len hR
  have HRR := Lib.hid hR; have HMM := Lib.hid hm; clear hR hm
  have hok : (ok != ok) = false := by simp
  have hye := eqB_refl ys
  have hxe0 := eqB_refl xs0
  have hxe1 := eqB_refl xs1
  go_enter Try.func3, Try.ntmps3
  go_wp2_with fail
  refine (toIntS_any A0 n0 c0 xs0 w HR0_0.out (by omega)).mono ?_
  rintro e w1 ⟨v, rfl, o, b⟩
  have HZ_1 : Hid (w.heap.size ≤ w1.heap.size) := b.size
  have HR0_1 := Lib.hid (HR0_0.out.below b)
  have HR1_1 := Lib.hid (HR1_0.out.below b)
  have HB_1 := Lib.hid b
  clear b
  have HIs0 := Lib.hid (Own.lt o)
  obtain ⟨As0, cs0, rfl, -, -⟩ := o.form' HL0.out
  have HOs0_1 := Lib.hid o; clear o
  go_wp2_with fail
  refine (toIntS_any A1 n1 c1 xs1 w1 HR1_1.out (by omega)).mono ?_
  rintro e w2 ⟨v, rfl, o, b⟩
  have HZ_2 : Hid (w1.heap.size ≤ w2.heap.size) := b.size
  have HR0_2 := Lib.hid (HR0_1.out.below b)
  have HR1_2 := Lib.hid (HR1_1.out.below b)
  have HOs0_2 := Lib.hid (HOs0_1.out.below b)
  have HB_2 := Lib.hid (HB_1.out.trans (b.mono HB_1.out.size))
  clear b
  have HIs1 := Lib.hid (Own.lt o)
  obtain ⟨As1, cs1, rfl, -, -⟩ := o.form' HL1.out
  have HOs1_2 := Lib.hid o; clear o
  go_wp2_with fail
  refine (spec_orbR w2 As0 cs0 n0 xs0 (HOs0_2.out.rd HL0.out) (by omega) As1 cs1 n1 xs1 (HOs1_2.out.rd HL1.out) (by omega) HRR.out).mono ?_
  rintro e w3 ⟨v, rfl, o, b⟩
  have HZ_3 : Hid (w2.heap.size ≤ w3.heap.size) := b.size
  have HR0_3 := Lib.hid (HR0_2.out.below b)
  have HR1_3 := Lib.hid (HR1_2.out.below b)
  have HOs0_3 := Lib.hid (HOs0_2.out.below b)
  have HOs1_3 := Lib.hid (HOs1_2.out.below b)
  have HB_3 := Lib.hid (HB_2.out.trans (b.mono HB_2.out.size))
  clear b
  have HIW := Lib.hid (Own.lt o)
  obtain ⟨AW, cW, rfl, -, -⟩ := o.form' HMM.out
  have HOW_3 := Lib.hid o; clear o
  go_wp2_with fail
  refine (toIntS_any A0 n0 c0 xs0 w3 HR0_3.out (by omega)).mono ?_
  rintro e w4 ⟨v, rfl, o, b⟩
  have HZ_4 : Hid (w3.heap.size ≤ w4.heap.size) := b.size
  have HS_3_4 : Hid (w3.heap.size ≤ w4.heap.size) := HZ_4.out
  have HR0_4 := Lib.hid (HR0_3.out.below b)
  have HR1_4 := Lib.hid (HR1_3.out.below b)
  have HOW_4 := Lib.hid (HOW_3.out.below b)
  have HB_4 := Lib.hid (HB_3.out.trans (b.mono HB_3.out.size))
  clear b
  have HIx0 := Lib.hid (Own.lt o)
  obtain ⟨Ax0, cx0, rfl, -, -⟩ := o.form' HL0.out
  have HOx0_4 := Lib.hid o; clear o
  go_wp2_with fail
  refine (toIntS_any A1 n1 c1 xs1 w4 HR1_4.out (by omega)).mono ?_
  rintro e w5 ⟨v, rfl, o, b⟩
  have HZ_5 : Hid (w4.heap.size ≤ w5.heap.size) := b.size
  have HS_3_5 : Hid (w3.heap.size ≤ w5.heap.size) := (Nat.le_trans HZ_4.out HZ_5.out)
  have HS_4_5 : Hid (w4.heap.size ≤ w5.heap.size) := HZ_5.out
  have HR0_5 := Lib.hid (HR0_4.out.below b)
  have HR1_5 := Lib.hid (HR1_4.out.below b)
  have HOW_5 := Lib.hid (HOW_4.out.below b)
  have HOx0_5 := Lib.hid (HOx0_4.out.below b)
  have HB_5 := Lib.hid (HB_4.out.trans (b.mono HB_4.out.size))
  clear b
  have HIx1 := Lib.hid (Own.lt o)
  obtain ⟨Ax1, cx1, rfl, -, -⟩ := o.form' HL1.out
  have HOx1_5 := Lib.hid o; clear o
  go_wp2_with fail
  refine (impl_orbR w5 Ax0 cx0 n0 xs0 (HOx0_5.out.rd HL0.out) (by omega) Ax1 cx1 n1 xs1 (HOx1_5.out.rd HL1.out) (by omega) HRR.out).mono ?_
  rintro e w6 ⟨v, rfl, o, b⟩
  have HZ_6 : Hid (w5.heap.size ≤ w6.heap.size) := b.size
  have HR0_6 := Lib.hid (HR0_5.out.below b)
  have HR1_6 := Lib.hid (HR1_5.out.below b)
  have HOW_6 := Lib.hid (HOW_5.out.below b)
  have HOx0_6 := Lib.hid (HOx0_5.out.below b)
  have HOx1_6 := Lib.hid (HOx1_5.out.below b)
  have HB_6 := Lib.hid (HB_5.out.trans (b.mono HB_5.out.size))
  clear b
  have HIG := Lib.hid (Own.lt o)
  obtain ⟨AG, cG, rfl, -, -⟩ := o.form' HMM.out
  have HOG_6 := Lib.hid o; clear o
  go_wp2_with fail
  refine (eqIntS_b AG AW m m cG cW ys ys w6 (HOG_6.out.rd HMM.out) (HOW_6.out.rd HMM.out) (by unfold maxLen; omega) (by unfold maxLen; omega)).mono ?_
  rintro e w7 ⟨rfl, b⟩
  have HZ_7 : Hid (w6.heap.size ≤ w7.heap.size) := b.size
  have HR0_7 := Lib.hid (HR0_6.out.below b)
  have HR1_7 := Lib.hid (HR1_6.out.below b)
  have HOW_7 := Lib.hid (HOW_6.out.below b)
  have HOx0_7 := Lib.hid (HOx0_6.out.below b)
  have HOx1_7 := Lib.hid (HOx1_6.out.below b)
  have HOG_7 := Lib.hid (HOG_6.out.below b)
  have HB_7 := Lib.hid (HB_6.out.trans (b.mono HB_6.out.size))
  clear b
  go_wp2_with fail
  refine (toIntS_any A0 n0 c0 xs0 w7 HR0_7.out (by omega)).mono ?_
  rintro e w8 ⟨v, rfl, o, b⟩
  have HZ_8 : Hid (w7.heap.size ≤ w8.heap.size) := b.size
  have HR0_8 := Lib.hid (HR0_7.out.below b)
  have HR1_8 := Lib.hid (HR1_7.out.below b)
  have HOW_8 := Lib.hid (HOW_7.out.below b)
  have HOx0_8 := Lib.hid (HOx0_7.out.below b)
  have HOx1_8 := Lib.hid (HOx1_7.out.below b)
  have HOG_8 := Lib.hid (HOG_7.out.below b)
  have HB_8 := Lib.hid (HB_7.out.trans (b.mono HB_7.out.size))
  clear b
  have HIt0 := Lib.hid (Own.lt o)
  obtain ⟨At0, ct0, rfl, -, -⟩ := o.form' HL0.out
  have HOt0_8 := Lib.hid o; clear o
  go_wp2_with fail
  refine (eqIntS_b Ax0 At0 n0 n0 cx0 ct0 xs0 xs0 w8 (HOx0_8.out.rd HL0.out) (HOt0_8.out.rd HL0.out) (by unfold maxLen; omega) (by unfold maxLen; omega)).mono ?_
  rintro e w9 ⟨rfl, b⟩
  have HZ_9 : Hid (w8.heap.size ≤ w9.heap.size) := b.size
  have HR0_9 := Lib.hid (HR0_8.out.below b)
  have HR1_9 := Lib.hid (HR1_8.out.below b)
  have HOW_9 := Lib.hid (HOW_8.out.below b)
  have HOx0_9 := Lib.hid (HOx0_8.out.below b)
  have HOx1_9 := Lib.hid (HOx1_8.out.below b)
  have HOG_9 := Lib.hid (HOG_8.out.below b)
  have HOt0_9 := Lib.hid (HOt0_8.out.below b)
  have HB_9 := Lib.hid (HB_8.out.trans (b.mono HB_8.out.size))
  clear b
  go_wp2_with fail
  refine (toIntS_any A1 n1 c1 xs1 w9 HR1_9.out (by omega)).mono ?_
  rintro e w10 ⟨v, rfl, o, b⟩
  have HZ_10 : Hid (w9.heap.size ≤ w10.heap.size) := b.size
  have HR0_10 := Lib.hid (HR0_9.out.below b)
  have HR1_10 := Lib.hid (HR1_9.out.below b)
  have HOW_10 := Lib.hid (HOW_9.out.below b)
  have HOx0_10 := Lib.hid (HOx0_9.out.below b)
  have HOx1_10 := Lib.hid (HOx1_9.out.below b)
  have HOG_10 := Lib.hid (HOG_9.out.below b)
  have HB_10 := Lib.hid (HB_9.out.trans (b.mono HB_9.out.size))
  clear b
  have HIt1 := Lib.hid (Own.lt o)
  obtain ⟨At1, ct1, rfl, -, -⟩ := o.form' HL1.out
  have HOt1_10 := Lib.hid o; clear o
  go_wp2_with fail
  refine (eqIntS_b Ax1 At1 n1 n1 cx1 ct1 xs1 xs1 w10 (HOx1_10.out.rd HL1.out) (HOt1_10.out.rd HL1.out) (by unfold maxLen; omega) (by unfold maxLen; omega)).mono ?_
  rintro e w11 ⟨rfl, b⟩
  have HZ_11 : Hid (w10.heap.size ≤ w11.heap.size) := b.size
  have HR0_11 := Lib.hid (HR0_10.out.below b)
  have HR1_11 := Lib.hid (HR1_10.out.below b)
  have HOW_11 := Lib.hid (HOW_10.out.below b)
  have HOx0_11 := Lib.hid (HOx0_10.out.below b)
  have HOx1_11 := Lib.hid (HOx1_10.out.below b)
  have HOG_11 := Lib.hid (HOG_10.out.below b)
  have HOt1_11 := Lib.hid (HOt1_10.out.below b)
  have HB_11 := Lib.hid (HB_10.out.trans (b.mono HB_10.out.size))
  clear b
  have hk1 : decide ((1 : Int) + (n0 : Int) + (n1 : Int) < 0) = false := by simp; omega
  go_wp2_with fail
  refine (markIntS_any w3.heap.size Ax0 n0 cx0 xs0 1 w11 HOx0_11.out HL0.out (by omega) (by omega) (by omega)).mono ?_
  rintro e w12 ⟨rfl, o, hg⟩
  have HZ_12 : Hid (w11.heap.size ≤ w12.heap.size) := hg.size
  have HR0_12 := Lib.hid (HR0_11.out.grown HA0.out hg (fun k hk => Nat.le_trans HB_3.out.size (HIx0.out k hk).1))
  have HR1_12 := Lib.hid (HR1_11.out.grown HA1.out hg (fun k hk => Nat.le_trans HB_3.out.size (HIx0.out k hk).1))
  have HOW_12 := Lib.hid (HOW_11.out.grown hg (ne_of (m := w3.heap.size) (fun k hk => (HIW.out k hk).2) (fun k hk => Nat.le_trans (Nat.le_refl _) (HIx0.out k hk).1)))
  have HOx1_12 := Lib.hid (HOx1_11.out.grown hg (ne_of' (m := w4.heap.size) (fun k hk => Nat.le_trans (Nat.le_refl _) (HIx1.out k hk).1) (fun k hk => (HIx0.out k hk).2)))
  have HOG_12 := Lib.hid (HOG_11.out.grown hg (ne_of' (m := w4.heap.size) (fun k hk => Nat.le_trans HS_4_5.out (HIG.out k hk).1) (fun k hk => (HIx0.out k hk).2)))
  have HOx0_12 := Lib.hid o; clear o
  have HB_12 := Lib.hid (HB_11.out.grown hg HB_11.out.size (fun k hk => Nat.le_trans HB_3.out.size (HIx0.out k hk).1)); clear hg
  go_wp2_with fail
  refine (markIntS_any w4.heap.size Ax1 n1 cx1 xs1 (1 + (n0 : Int)) w12 HOx1_12.out HL1.out (by omega) (by omega) (by omega)).mono ?_
  rintro e w13 ⟨rfl, o, hg⟩
  have HZ_13 : Hid (w12.heap.size ≤ w13.heap.size) := hg.size
  have HR0_13 := Lib.hid (HR0_12.out.grown HA0.out hg (fun k hk => Nat.le_trans HB_4.out.size (HIx1.out k hk).1))
  have HR1_13 := Lib.hid (HR1_12.out.grown HA1.out hg (fun k hk => Nat.le_trans HB_4.out.size (HIx1.out k hk).1))
  have HOW_13 := Lib.hid (HOW_12.out.grown hg (ne_of (m := w3.heap.size) (fun k hk => (HIW.out k hk).2) (fun k hk => Nat.le_trans HS_3_4.out (HIx1.out k hk).1)))
  have HOx0_13 := Lib.hid (HOx0_12.out.grown hg (ne_of (m := w4.heap.size) (fun k hk => (HIx0.out k hk).2) (fun k hk => Nat.le_trans (Nat.le_refl _) (HIx1.out k hk).1)))
  have HOG_13 := Lib.hid (HOG_12.out.grown hg (ne_of' (m := w5.heap.size) (fun k hk => Nat.le_trans (Nat.le_refl _) (HIG.out k hk).1) (fun k hk => (HIx1.out k hk).2)))
  have HOx1_13 := Lib.hid o; clear o
  have HB_13 := Lib.hid (HB_12.out.grown hg HB_12.out.size (fun k hk => Nat.le_trans HB_4.out.size (HIx1.out k hk).1)); clear hg
  go_wp2_with fail
  refine (eqIntS_b AG AW m m cG cW ys ys w13 (HOG_13.out.rd HMM.out) (HOW_13.out.rd HMM.out) (by unfold maxLen; omega) (by unfold maxLen; omega)).mono ?_
  rintro e w14 ⟨rfl, b⟩
  have HZ_14 : Hid (w13.heap.size ≤ w14.heap.size) := b.size
  have HR0_14 := Lib.hid (HR0_13.out.below b)
  have HR1_14 := Lib.hid (HR1_13.out.below b)
  have HOW_14 := Lib.hid (HOW_13.out.below b)
  have HOx0_14 := Lib.hid (HOx0_13.out.below b)
  have HOx1_14 := Lib.hid (HOx1_13.out.below b)
  have HOG_14 := Lib.hid (HOG_13.out.below b)
  have HB_14 := Lib.hid (HB_13.out.trans (b.mono HB_13.out.size))
  clear b
  go_wp2_with fail
  refine (markIntS_any w5.heap.size AG m cG ys 1 w14 HOG_14.out HMM.out (by omega) (by omega) (by omega)).mono ?_
  rintro e w15 ⟨rfl, o, hg⟩
  have HZ_15 : Hid (w14.heap.size ≤ w15.heap.size) := hg.size
  have HR0_15 := Lib.hid (HR0_14.out.grown HA0.out hg (fun k hk => Nat.le_trans HB_5.out.size (HIG.out k hk).1))
  have HR1_15 := Lib.hid (HR1_14.out.grown HA1.out hg (fun k hk => Nat.le_trans HB_5.out.size (HIG.out k hk).1))
  have HOW_15 := Lib.hid (HOW_14.out.grown hg (ne_of (m := w3.heap.size) (fun k hk => (HIW.out k hk).2) (fun k hk => Nat.le_trans HS_3_5.out (HIG.out k hk).1)))
  have HOx0_15 := Lib.hid (HOx0_14.out.grown hg (ne_of (m := w4.heap.size) (fun k hk => (HIx0.out k hk).2) (fun k hk => Nat.le_trans HS_4_5.out (HIG.out k hk).1)))
  have HOx1_15 := Lib.hid (HOx1_14.out.grown hg (ne_of (m := w5.heap.size) (fun k hk => (HIx1.out k hk).2) (fun k hk => Nat.le_trans (Nat.le_refl _) (HIG.out k hk).1)))
  have HOG_15 := Lib.hid o; clear o
  have HB_15 := Lib.hid (HB_14.out.grown hg HB_14.out.size (fun k hk => Nat.le_trans HB_5.out.size (HIG.out k hk).1)); clear hg
  have hk2 : decide ((1 : Int) + (m : Int) < 0) = false := by simp; omega
  have hk3 : ((1 : Int) + (m : Int) != 1 + (m : Int)) = false := by simp
  go_wp2_with fail
  refine (heldIntS_any AG m cG 1 w15 (HOG_15.out.rd (marks_len _ _)) (by omega) (by omega) (by omega)).mono ?_
  rintro e w' ⟨rfl, rfl⟩
  go_wp2_with fail
  refine (toIntS_any A0 n0 c0 xs0 w15 HR0_15.out (by omega)).mono ?_
  rintro e w16 ⟨v, rfl, o, b⟩
  have HZ_16 : Hid (w15.heap.size ≤ w16.heap.size) := b.size
  have HR0_16 := Lib.hid (HR0_15.out.below b)
  have HR1_16 := Lib.hid (HR1_15.out.below b)
  have HOW_16 := Lib.hid (HOW_15.out.below b)
  have HOG_16 := Lib.hid (HOG_15.out.below b)
  have HB_16 := Lib.hid (HB_15.out.trans (b.mono HB_15.out.size))
  clear b
  have HIu0 := Lib.hid (Own.lt o)
  obtain ⟨Au0, cu0, rfl, -, -⟩ := o.form' HL0.out
  have HOu0_16 := Lib.hid o; clear o
  go_wp2_with fail
  refine (toIntS_any A1 n1 c1 xs1 w16 HR1_16.out (by omega)).mono ?_
  rintro e w17 ⟨v, rfl, o, b⟩
  have HZ_17 : Hid (w16.heap.size ≤ w17.heap.size) := b.size
  have HR0_17 := Lib.hid (HR0_16.out.below b)
  have HR1_17 := Lib.hid (HR1_16.out.below b)
  have HOW_17 := Lib.hid (HOW_16.out.below b)
  have HOG_17 := Lib.hid (HOG_16.out.below b)
  have HOu0_17 := Lib.hid (HOu0_16.out.below b)
  have HB_17 := Lib.hid (HB_16.out.trans (b.mono HB_16.out.size))
  clear b
  have HIu1 := Lib.hid (Own.lt o)
  obtain ⟨Au1, cu1, rfl, -, -⟩ := o.form' HL1.out
  have HOu1_17 := Lib.hid o; clear o
  go_wp2_with fail
  refine (impl_orbR w17 Au0 cu0 n0 xs0 (HOu0_17.out.rd HL0.out) (by omega) Au1 cu1 n1 xs1 (HOu1_17.out.rd HL1.out) (by omega) HRR.out).mono ?_
  rintro e w18 ⟨v, rfl, o, b⟩
  have HZ_18 : Hid (w17.heap.size ≤ w18.heap.size) := b.size
  have HR0_18 := Lib.hid (HR0_17.out.below b)
  have HR1_18 := Lib.hid (HR1_17.out.below b)
  have HOW_18 := Lib.hid (HOW_17.out.below b)
  have HOG_18 := Lib.hid (HOG_17.out.below b)
  have HOu0_18 := Lib.hid (HOu0_17.out.below b)
  have HOu1_18 := Lib.hid (HOu1_17.out.below b)
  have HB_18 := Lib.hid (HB_17.out.trans (b.mono HB_17.out.size))
  clear b
  have HIH := Lib.hid (Own.lt o)
  obtain ⟨AH, cH, rfl, -, -⟩ := o.form' HMM.out
  have HOH_18 := Lib.hid o; clear o
  go_wp2_with fail
  refine (eqIntS_b AH AW m m cH cW ys ys w18 (HOH_18.out.rd HMM.out) (HOW_18.out.rd HMM.out) (by unfold maxLen; omega) (by unfold maxLen; omega)).mono ?_
  rintro e w19 ⟨rfl, b⟩
  have HZ_19 : Hid (w18.heap.size ≤ w19.heap.size) := b.size
  have HR0_19 := Lib.hid (HR0_18.out.below b)
  have HR1_19 := Lib.hid (HR1_18.out.below b)
  have HOW_19 := Lib.hid (HOW_18.out.below b)
  have HOG_19 := Lib.hid (HOG_18.out.below b)
  have HOu0_19 := Lib.hid (HOu0_18.out.below b)
  have HOu1_19 := Lib.hid (HOu1_18.out.below b)
  have HOH_19 := Lib.hid (HOH_18.out.below b)
  have HB_19 := Lib.hid (HB_18.out.trans (b.mono HB_18.out.size))
  clear b
  go_wp2_with fail
  refine (heldIntS_any AG m cG 1 w19 (HOG_19.out.rd (marks_len _ _)) (by omega) (by omega) (by omega)).mono ?_
  rintro e w' ⟨rfl, rfl⟩
  go_wp2_with fail
  go_ret
  exact ⟨rfl, HB_19.out⟩

end Go.Proofs.Ytdbiegmekmfgdaa
