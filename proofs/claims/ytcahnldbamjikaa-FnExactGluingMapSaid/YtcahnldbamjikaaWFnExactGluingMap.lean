/-
  FnExactGluingMap: the walk of the law: the model and the program are called by their contracts.
-/
import Derived.Test.YtcahnldbamjikaaGluM
import Derived.Test.YtcahnldbamjikaaKitM
import Derived.Deep.RegionHeld3
namespace Go.Proofs.Ytcahnldbamjikaa
open Go.RowKit

set_option maxRecDepth 100000 in
set_option maxHeartbeats 3200000 in
theorem walk_FnExactGluingMap (A0 : Option Addr) (n0 c0 : Nat) (xs0 : List Int) (w : World) (hr0 : Rd w A0 n0 xs0) (_hm0 : n0 ≤ maxLen) :
    Calls Try.prog 9 #[.slice A0 n0 c0] w fun e w' => e = .returned (.bool true) ∧ Below w.heap.size w w' := by
  have HR0 := Lib.hid hr0; have HL0 := Lib.hid hr0.1; clear hr0
  have HB_0 : Hid (Below w.heap.size w w) := Below.refl _ _
  have HZ_0 : Hid (w.heap.size + 0 = w.heap.size) := rfl
  by_cases hlt0 : 1048576 < n0
  · have hd0 : decide ((1048576 : Int) < n0) = true := by simp; omega
    go_enter Try.func9, Try.ntmps9
    go_wp2_with fail
    go_ret
    exact ⟨rfl, HB_0.out⟩
  have hd0 : decide ((1048576 : Int) < n0) = false := by simp; omega
  obtain ⟨ok, yt, yf, hR⟩ : ∃ ok yt yf, gmapR xs0 = (ok, yt, yf) := ⟨_, _, _, rfl⟩
  obtain ⟨m, hm⟩ : ∃ m, yt.length = m := ⟨_, rfl⟩
  obtain ⟨m', hm'⟩ : ∃ m, yf.length = m := ⟨_, rfl⟩
  have hm12 : m ≤ 12 := hm ▸ (gmapR_len hR).1
  have hm12' : m' ≤ 12 := hm' ▸ (gmapR_len hR).2
  have HRR := Lib.hid hR; have HMM := Lib.hid hm; have HMM' := Lib.hid hm'; clear hR hm hm'
  have hok : (ok != ok) = false := by simp
  have hxe0 := eqB_refl xs0
  go_enter Try.func9, Try.ntmps9
  go_wp2_with fail
  refine (toIntS_any A0 n0 c0 xs0 w (HR0.out.below HB_0.out) (by omega)).mono ?_
  rintro e w1 ⟨v, rfl, o, b⟩
  have HIs0 := Lib.hid o.iv
  obtain ⟨As0, cs0, rfl, -, -⟩ := o.form' HL0.out
  have HOs0_1 := Lib.hid o; clear o
  have HB_1 := Lib.hid (HB_0.out.trans (b.mono HB_0.out.size)); have HZ_1 := Lib.hid b.size
  clear b
  go_wp2_with fail
  refine (spec_gmapR w1 As0 cs0 n0 xs0 (HOs0_1.out.rd HL0.out) (by omega) HRR.out).mono ?_
  rintro e w2 ⟨u, u', rfl, o, b⟩
  have HIW := Lib.hid o.turn.iv; have HIW' := Lib.hid o.flip.iv
  obtain ⟨AW, cW, AW', cW', rfl, rfl, -, -⟩ := o.form HMM.out HMM'.out
  have HOW_2 := Lib.hid o; clear o
  have HB_2 := Lib.hid (HB_1.out.trans (b.mono HB_1.out.size)); have HZ_2 := Lib.hid b.size
  have HOs0_2 := Lib.hid (HOs0_1.out.below b)
  clear b
  obtain ⟨w3, hW3, hx, b, hz⟩ := Box.local_ w2 31 (.slice AW m cW) (.slice AW' m' cW')
  have HXvW_3 := Lib.hid hx; have HZE_3 := Lib.hid hz; clear hx hz
  have HB_3 := Lib.hid (HB_2.out.trans (b.mono HB_2.out.size)); have HZ_3 := Lib.hid b.size
  have HOs0_3 := Lib.hid (HOs0_2.out.below b)
  have HOW_3 := Lib.hid (HOW_2.out.below b)
  clear b
  have cb_vW_0 := HXvW_3.out.cell0; have cb_vW_1 := HXvW_3.out.cell1
  go_wp2_with fail
  refine (toIntS_any A0 n0 c0 xs0 w3 (HR0.out.below HB_3.out) (by omega)).mono ?_
  rintro e w4 ⟨v, rfl, o, b⟩
  have HIx0 := Lib.hid o.iv
  obtain ⟨Ax0, cx0, rfl, -, -⟩ := o.form' HL0.out
  have HOx0_4 := Lib.hid o; clear o
  have HB_4 := Lib.hid (HB_3.out.trans (b.mono HB_3.out.size)); have HZ_4 := Lib.hid b.size
  have hx := HXvW_3.out.below b; clear cb_vW_0 cb_vW_1
  have cb_vW_0 := hx.cell0; have cb_vW_1 := hx.cell1
  have HXvW_4 := Lib.hid hx; clear hx
  have HOW_4 := Lib.hid (HOW_3.out.below b)
  clear b
  go_wp2_with fail
  refine (impl_gmapR w4 Ax0 cx0 n0 xs0 (HOx0_4.out.rd HL0.out) (by omega) HRR.out).mono ?_
  rintro e w5 ⟨u, u', rfl, o, b⟩
  have HIG := Lib.hid o.turn.iv; have HIG' := Lib.hid o.flip.iv
  obtain ⟨AG, cG, AG', cG', rfl, rfl, -, -⟩ := o.form HMM.out HMM'.out
  have HOG_5 := Lib.hid o; clear o
  have HB_5 := Lib.hid (HB_4.out.trans (b.mono HB_4.out.size)); have HZ_5 := Lib.hid b.size
  have hx := HXvW_4.out.below b; clear cb_vW_0 cb_vW_1
  have cb_vW_0 := hx.cell0; have cb_vW_1 := hx.cell1
  have HXvW_5 := Lib.hid hx; clear hx
  have HOW_5 := Lib.hid (HOW_4.out.below b)
  have HOx0_5 := Lib.hid (HOx0_4.out.below b)
  clear b
  obtain ⟨w6, hW6, hx, b, hz⟩ := Box.local_ w5 31 (.slice AG m cG) (.slice AG' m' cG')
  have HXvG_6 := Lib.hid hx; have HZE_6 := Lib.hid hz; clear hx hz
  have HB_6 := Lib.hid (HB_5.out.trans (b.mono HB_5.out.size)); have HZ_6 := Lib.hid b.size
  have hx := HXvW_5.out.below b; clear cb_vW_0 cb_vW_1
  have cb_vW_0 := hx.cell0; have cb_vW_1 := hx.cell1
  have HXvW_6 := Lib.hid hx; clear hx
  have HOW_6 := Lib.hid (HOW_5.out.below b)
  have HOx0_6 := Lib.hid (HOx0_5.out.below b)
  have HOG_6 := Lib.hid (HOG_5.out.below b)
  clear b
  have cb_vG_0 := HXvG_6.out.cell0; have cb_vG_1 := HXvG_6.out.cell1
  go_wp2_with fail
  refine (eqMap_same AG AG' AW AW' m m' cG cG' cW cW' yt yf w6 (HOG_6.out.turn.rd HMM.out) (HOG_6.out.flip.rd HMM'.out) (HOW_6.out.turn.rd HMM.out) (HOW_6.out.flip.rd HMM'.out) (by omega) (by omega)).mono ?_
  rintro e w7 ⟨rfl, b⟩
  have HB_7 := Lib.hid (HB_6.out.trans (b.mono HB_6.out.size)); have HZ_7 := Lib.hid b.size
  have hx := HXvW_6.out.below b; clear cb_vW_0 cb_vW_1
  have cb_vW_0 := hx.cell0; have cb_vW_1 := hx.cell1
  have HXvW_7 := Lib.hid hx; clear hx
  have hx := HXvG_6.out.below b; clear cb_vG_0 cb_vG_1
  have cb_vG_0 := hx.cell0; have cb_vG_1 := hx.cell1
  have HXvG_7 := Lib.hid hx; clear hx
  have HOW_7 := Lib.hid (HOW_6.out.below b)
  have HOx0_7 := Lib.hid (HOx0_6.out.below b)
  have HOG_7 := Lib.hid (HOG_6.out.below b)
  clear b
  go_wp2_with fail
  refine (toIntS_any A0 n0 c0 xs0 w7 (HR0.out.below HB_7.out) (by omega)).mono ?_
  rintro e w8 ⟨v, rfl, o, b⟩
  have HIt0 := Lib.hid o.iv
  obtain ⟨At0, ct0, rfl, -, -⟩ := o.form' HL0.out
  have HOt0_8 := Lib.hid o; clear o
  have HB_8 := Lib.hid (HB_7.out.trans (b.mono HB_7.out.size)); have HZ_8 := Lib.hid b.size
  have hx := HXvW_7.out.below b; clear cb_vW_0 cb_vW_1
  have cb_vW_0 := hx.cell0; have cb_vW_1 := hx.cell1
  have HXvW_8 := Lib.hid hx; clear hx
  have hx := HXvG_7.out.below b; clear cb_vG_0 cb_vG_1
  have cb_vG_0 := hx.cell0; have cb_vG_1 := hx.cell1
  have HXvG_8 := Lib.hid hx; clear hx
  have HOW_8 := Lib.hid (HOW_7.out.below b)
  have HOx0_8 := Lib.hid (HOx0_7.out.below b)
  have HOG_8 := Lib.hid (HOG_7.out.below b)
  clear b
  go_wp2_with fail
  refine (eqIntS_b Ax0 At0 n0 n0 cx0 ct0 xs0 xs0 w8 (HOx0_8.out.rd HL0.out) (HOt0_8.out.rd HL0.out) (by unfold maxLen; omega) (by unfold maxLen; omega)).mono ?_
  rintro e w9 ⟨rfl, b⟩
  have HB_9 := Lib.hid (HB_8.out.trans (b.mono HB_8.out.size)); have HZ_9 := Lib.hid b.size
  have hx := HXvW_8.out.below b; clear cb_vW_0 cb_vW_1
  have cb_vW_0 := hx.cell0; have cb_vW_1 := hx.cell1
  have HXvW_9 := Lib.hid hx; clear hx
  have hx := HXvG_8.out.below b; clear cb_vG_0 cb_vG_1
  have cb_vG_0 := hx.cell0; have cb_vG_1 := hx.cell1
  have HXvG_9 := Lib.hid hx; clear hx
  have HOW_9 := Lib.hid (HOW_8.out.below b)
  have HOx0_9 := Lib.hid (HOx0_8.out.below b)
  have HOG_9 := Lib.hid (HOG_8.out.below b)
  have HOt0_9 := Lib.hid (HOt0_8.out.below b)
  clear b
  have hk1 : decide ((1 : Int) + (n0 : Int) < 0) = false := by simp; omega
  go_wp2_with fail
  refine (markIntS_any w3.heap.size Ax0 n0 cx0 xs0 1 w9 HOx0_9.out HL0.out (by omega) (by omega) (by omega)).mono ?_
  rintro e w10 ⟨rfl, o, hg⟩
  have hc : Chg w3.heap.size w4.heap.size w9 w10 := Chg.of_grown hg (fun k hk => HIx0.out k hk); clear hg
  have HB_10 : Hid (Below w.heap.size w w10) := HB_9.out.trans (hc.below (by have := HZ_0.out; have := HZ_1.out; have := HZ_2.out; have := HZE_3.out; have := HZ_3.out; have := HZ_4.out; have := HZ_5.out; have := HZE_6.out; have := HZ_6.out; have := HZ_7.out; have := HZ_8.out; have := HZ_9.out; omega) HB_9.out.size); have HZ_10 := Lib.hid hc.size
  have hx := HXvW_9.out.chg hc (.inl (by have := HZ_0.out; have := HZ_1.out; have := HZ_2.out; have := HZE_3.out; have := HZ_3.out; have := HZ_4.out; have := HZ_5.out; have := HZE_6.out; have := HZ_6.out; have := HZ_7.out; have := HZ_8.out; have := HZ_9.out; have := HZ_10.out; omega)); clear cb_vW_0 cb_vW_1
  have cb_vW_0 := hx.cell0; have cb_vW_1 := hx.cell1
  have HXvW_10 := Lib.hid hx; clear hx
  have hx := HXvG_9.out.chg hc (.inr (by have := HZ_0.out; have := HZ_1.out; have := HZ_2.out; have := HZE_3.out; have := HZ_3.out; have := HZ_4.out; have := HZ_5.out; have := HZE_6.out; have := HZ_6.out; have := HZ_7.out; have := HZ_8.out; have := HZ_9.out; have := HZ_10.out; omega)); clear cb_vG_0 cb_vG_1
  have cb_vG_0 := hx.cell0; have cb_vG_1 := hx.cell1
  have HXvG_10 := Lib.hid hx; clear hx
  have HOW_10 := Lib.hid (HOW_9.out.chg hc (HIW.out.outside (.inl (by have := HZ_0.out; have := HZ_1.out; have := HZ_2.out; have := HZE_3.out; have := HZ_3.out; have := HZ_4.out; have := HZ_5.out; have := HZE_6.out; have := HZ_6.out; have := HZ_7.out; have := HZ_8.out; have := HZ_9.out; have := HZ_10.out; omega))) (HIW'.out.outside (.inl (by have := HZ_0.out; have := HZ_1.out; have := HZ_2.out; have := HZE_3.out; have := HZ_3.out; have := HZ_4.out; have := HZ_5.out; have := HZE_6.out; have := HZ_6.out; have := HZ_7.out; have := HZ_8.out; have := HZ_9.out; have := HZ_10.out; omega))))
  have HOG_10 := Lib.hid (HOG_9.out.chg hc (HIG.out.outside (.inr (by have := HZ_0.out; have := HZ_1.out; have := HZ_2.out; have := HZE_3.out; have := HZ_3.out; have := HZ_4.out; have := HZ_5.out; have := HZE_6.out; have := HZ_6.out; have := HZ_7.out; have := HZ_8.out; have := HZ_9.out; have := HZ_10.out; omega))) (HIG'.out.outside (.inr (by have := HZ_0.out; have := HZ_1.out; have := HZ_2.out; have := HZE_3.out; have := HZ_3.out; have := HZ_4.out; have := HZ_5.out; have := HZE_6.out; have := HZ_6.out; have := HZ_7.out; have := HZ_8.out; have := HZ_9.out; have := HZ_10.out; omega))))
  have HOx0_10 := Lib.hid o; clear hc o
  go_wp2_with fail
  refine (eqMap_same AG AG' AW AW' m m' cG cG' cW cW' yt yf w10 (HOG_10.out.turn.rd HMM.out) (HOG_10.out.flip.rd HMM'.out) (HOW_10.out.turn.rd HMM.out) (HOW_10.out.flip.rd HMM'.out) (by omega) (by omega)).mono ?_
  rintro e w11 ⟨rfl, b⟩
  have HB_11 := Lib.hid (HB_10.out.trans (b.mono HB_10.out.size)); have HZ_11 := Lib.hid b.size
  have hx := HXvW_10.out.below b; clear cb_vW_0 cb_vW_1
  have cb_vW_0 := hx.cell0; have cb_vW_1 := hx.cell1
  have HXvW_11 := Lib.hid hx; clear hx
  have hx := HXvG_10.out.below b; clear cb_vG_0 cb_vG_1
  have cb_vG_0 := hx.cell0; have cb_vG_1 := hx.cell1
  have HXvG_11 := Lib.hid hx; clear hx
  have HOW_11 := Lib.hid (HOW_10.out.below b)
  have HOx0_11 := Lib.hid (HOx0_10.out.below b)
  have HOG_11 := Lib.hid (HOG_10.out.below b)
  clear b
  go_wp2_with fail
  refine (markMap_any w4.heap.size w5.heap.size w4.heap.size AG AG' m m' cG cG' yt yf 1 w11 HOG_11.out HMM.out HMM'.out (by omega) (by omega) (by omega) (by omega) HIG.out HIG'.out (by have := HZ_0.out; have := HZ_1.out; have := HZ_2.out; have := HZE_3.out; have := HZ_3.out; have := HZ_4.out; have := HZ_5.out; have := HZE_6.out; have := HZ_6.out; have := HZ_7.out; have := HZ_8.out; have := HZ_9.out; have := HZ_10.out; have := HZ_11.out; omega)).mono ?_
  rintro e w12 ⟨rfl, o, hc⟩
  have HB_12 : Hid (Below w.heap.size w w12) := HB_11.out.trans (hc.below (by have := HZ_0.out; have := HZ_1.out; have := HZ_2.out; have := HZE_3.out; have := HZ_3.out; have := HZ_4.out; have := HZ_5.out; have := HZE_6.out; have := HZ_6.out; have := HZ_7.out; have := HZ_8.out; have := HZ_9.out; have := HZ_10.out; have := HZ_11.out; omega) HB_11.out.size); have HZ_12 := Lib.hid hc.size
  have hx := HXvW_11.out.chg hc (.inl (by have := HZ_0.out; have := HZ_1.out; have := HZ_2.out; have := HZE_3.out; have := HZ_3.out; have := HZ_4.out; have := HZ_5.out; have := HZE_6.out; have := HZ_6.out; have := HZ_7.out; have := HZ_8.out; have := HZ_9.out; have := HZ_10.out; have := HZ_11.out; have := HZ_12.out; omega)); clear cb_vW_0 cb_vW_1
  have cb_vW_0 := hx.cell0; have cb_vW_1 := hx.cell1
  have HXvW_12 := Lib.hid hx; clear hx
  have hx := HXvG_11.out.chg hc (.inr (by have := HZ_0.out; have := HZ_1.out; have := HZ_2.out; have := HZE_3.out; have := HZ_3.out; have := HZ_4.out; have := HZ_5.out; have := HZE_6.out; have := HZ_6.out; have := HZ_7.out; have := HZ_8.out; have := HZ_9.out; have := HZ_10.out; have := HZ_11.out; have := HZ_12.out; omega)); clear cb_vG_0 cb_vG_1
  have cb_vG_0 := hx.cell0; have cb_vG_1 := hx.cell1
  have HXvG_12 := Lib.hid hx; clear hx
  have HOW_12 := Lib.hid (HOW_11.out.chg hc (HIW.out.outside (.inl (by have := HZ_0.out; have := HZ_1.out; have := HZ_2.out; have := HZE_3.out; have := HZ_3.out; have := HZ_4.out; have := HZ_5.out; have := HZE_6.out; have := HZ_6.out; have := HZ_7.out; have := HZ_8.out; have := HZ_9.out; have := HZ_10.out; have := HZ_11.out; have := HZ_12.out; omega))) (HIW'.out.outside (.inl (by have := HZ_0.out; have := HZ_1.out; have := HZ_2.out; have := HZE_3.out; have := HZ_3.out; have := HZ_4.out; have := HZ_5.out; have := HZE_6.out; have := HZ_6.out; have := HZ_7.out; have := HZ_8.out; have := HZ_9.out; have := HZ_10.out; have := HZ_11.out; have := HZ_12.out; omega))))
  have HOx0_12 := Lib.hid (HOx0_11.out.chg hc (HIx0.out.outside (.inl (by have := HZ_0.out; have := HZ_1.out; have := HZ_2.out; have := HZE_3.out; have := HZ_3.out; have := HZ_4.out; have := HZ_5.out; have := HZE_6.out; have := HZ_6.out; have := HZ_7.out; have := HZ_8.out; have := HZ_9.out; have := HZ_10.out; have := HZ_11.out; have := HZ_12.out; omega))))
  have HOG_12 := Lib.hid o; clear hc o
  have hk2 : decide ((1 : Int) + (m : Int) + (m' : Int) < 0) = false := by simp; omega
  have hk3 : ((1 : Int) + (m : Int) + (m' : Int) != (1 : Int) + (m : Int) + (m' : Int)) = false := by simp
  go_wp2_with fail
  refine (heldMap_any AG AG' m m' cG cG' 1 w12 (HOG_12.out.turn.rd (marks_len _ _)) (HOG_12.out.flip.rd (marks_len _ _)) (by omega) (by omega) (by omega) (by omega)).mono ?_
  rintro e w13 ⟨rfl, b⟩
  have HB_13 := Lib.hid (HB_12.out.trans (b.mono HB_12.out.size)); have HZ_13 := Lib.hid b.size
  have hx := HXvW_12.out.below b; clear cb_vW_0 cb_vW_1
  have cb_vW_0 := hx.cell0; have cb_vW_1 := hx.cell1
  have HXvW_13 := Lib.hid hx; clear hx
  have hx := HXvG_12.out.below b; clear cb_vG_0 cb_vG_1
  have cb_vG_0 := hx.cell0; have cb_vG_1 := hx.cell1
  have HXvG_13 := Lib.hid hx; clear hx
  have HOW_13 := Lib.hid (HOW_12.out.below b)
  have HOx0_13 := Lib.hid (HOx0_12.out.below b)
  have HOG_13 := Lib.hid (HOG_12.out.below b)
  clear b
  go_wp2_with fail
  refine (toIntS_any A0 n0 c0 xs0 w13 (HR0.out.below HB_13.out) (by omega)).mono ?_
  rintro e w14 ⟨v, rfl, o, b⟩
  have HIu0 := Lib.hid o.iv
  obtain ⟨Au0, cu0, rfl, -, -⟩ := o.form' HL0.out
  have HOu0_14 := Lib.hid o; clear o
  have HB_14 := Lib.hid (HB_13.out.trans (b.mono HB_13.out.size)); have HZ_14 := Lib.hid b.size
  have hx := HXvW_13.out.below b; clear cb_vW_0 cb_vW_1
  have cb_vW_0 := hx.cell0; have cb_vW_1 := hx.cell1
  have HXvW_14 := Lib.hid hx; clear hx
  have hx := HXvG_13.out.below b; clear cb_vG_0 cb_vG_1
  have cb_vG_0 := hx.cell0; have cb_vG_1 := hx.cell1
  have HXvG_14 := Lib.hid hx; clear hx
  have HOW_14 := Lib.hid (HOW_13.out.below b)
  have HOG_14 := Lib.hid (HOG_13.out.below b)
  clear b
  go_wp2_with fail
  refine (impl_gmapR w14 Au0 cu0 n0 xs0 (HOu0_14.out.rd HL0.out) (by omega) HRR.out).mono ?_
  rintro e w15 ⟨u, u', rfl, o, b⟩
  have HIH := Lib.hid o.turn.iv; have HIH' := Lib.hid o.flip.iv
  obtain ⟨AH, cH, AH', cH', rfl, rfl, -, -⟩ := o.form HMM.out HMM'.out
  have HOH_15 := Lib.hid o; clear o
  have HB_15 := Lib.hid (HB_14.out.trans (b.mono HB_14.out.size)); have HZ_15 := Lib.hid b.size
  have hx := HXvW_14.out.below b; clear cb_vW_0 cb_vW_1
  have cb_vW_0 := hx.cell0; have cb_vW_1 := hx.cell1
  have HXvW_15 := Lib.hid hx; clear hx
  have hx := HXvG_14.out.below b; clear cb_vG_0 cb_vG_1
  have cb_vG_0 := hx.cell0; have cb_vG_1 := hx.cell1
  have HXvG_15 := Lib.hid hx; clear hx
  have HOW_15 := Lib.hid (HOW_14.out.below b)
  have HOG_15 := Lib.hid (HOG_14.out.below b)
  have HOu0_15 := Lib.hid (HOu0_14.out.below b)
  clear b
  obtain ⟨w16, hW16, hx, b, hz⟩ := Box.local_ w15 31 (.slice AH m cH) (.slice AH' m' cH')
  have HXvH_16 := Lib.hid hx; have HZE_16 := Lib.hid hz; clear hx hz
  have HB_16 := Lib.hid (HB_15.out.trans (b.mono HB_15.out.size)); have HZ_16 := Lib.hid b.size
  have hx := HXvW_15.out.below b; clear cb_vW_0 cb_vW_1
  have cb_vW_0 := hx.cell0; have cb_vW_1 := hx.cell1
  have HXvW_16 := Lib.hid hx; clear hx
  have hx := HXvG_15.out.below b; clear cb_vG_0 cb_vG_1
  have cb_vG_0 := hx.cell0; have cb_vG_1 := hx.cell1
  have HXvG_16 := Lib.hid hx; clear hx
  have HOW_16 := Lib.hid (HOW_15.out.below b)
  have HOG_16 := Lib.hid (HOG_15.out.below b)
  have HOu0_16 := Lib.hid (HOu0_15.out.below b)
  have HOH_16 := Lib.hid (HOH_15.out.below b)
  clear b
  have cb_vH_0 := HXvH_16.out.cell0; have cb_vH_1 := HXvH_16.out.cell1
  go_wp2_with fail
  refine (eqMap_same AH AH' AW AW' m m' cH cH' cW cW' yt yf w16 (HOH_16.out.turn.rd HMM.out) (HOH_16.out.flip.rd HMM'.out) (HOW_16.out.turn.rd HMM.out) (HOW_16.out.flip.rd HMM'.out) (by omega) (by omega)).mono ?_
  rintro e w17 ⟨rfl, b⟩
  have HB_17 := Lib.hid (HB_16.out.trans (b.mono HB_16.out.size)); have HZ_17 := Lib.hid b.size
  have hx := HXvW_16.out.below b; clear cb_vW_0 cb_vW_1
  have cb_vW_0 := hx.cell0; have cb_vW_1 := hx.cell1
  have HXvW_17 := Lib.hid hx; clear hx
  have hx := HXvG_16.out.below b; clear cb_vG_0 cb_vG_1
  have cb_vG_0 := hx.cell0; have cb_vG_1 := hx.cell1
  have HXvG_17 := Lib.hid hx; clear hx
  have hx := HXvH_16.out.below b; clear cb_vH_0 cb_vH_1
  have cb_vH_0 := hx.cell0; have cb_vH_1 := hx.cell1
  have HXvH_17 := Lib.hid hx; clear hx
  have HOW_17 := Lib.hid (HOW_16.out.below b)
  have HOG_17 := Lib.hid (HOG_16.out.below b)
  have HOu0_17 := Lib.hid (HOu0_16.out.below b)
  have HOH_17 := Lib.hid (HOH_16.out.below b)
  clear b
  go_wp2_with fail
  refine (heldMap_any AG AG' m m' cG cG' 1 w17 (HOG_17.out.turn.rd (marks_len _ _)) (HOG_17.out.flip.rd (marks_len _ _)) (by omega) (by omega) (by omega) (by omega)).mono ?_
  rintro e w18 ⟨rfl, b⟩
  have HB_18 := Lib.hid (HB_17.out.trans (b.mono HB_17.out.size)); have HZ_18 := Lib.hid b.size
  have hx := HXvW_17.out.below b; clear cb_vW_0 cb_vW_1
  have cb_vW_0 := hx.cell0; have cb_vW_1 := hx.cell1
  have HXvW_18 := Lib.hid hx; clear hx
  have hx := HXvG_17.out.below b; clear cb_vG_0 cb_vG_1
  have cb_vG_0 := hx.cell0; have cb_vG_1 := hx.cell1
  have HXvG_18 := Lib.hid hx; clear hx
  have hx := HXvH_17.out.below b; clear cb_vH_0 cb_vH_1
  have cb_vH_0 := hx.cell0; have cb_vH_1 := hx.cell1
  have HXvH_18 := Lib.hid hx; clear hx
  have HOW_18 := Lib.hid (HOW_17.out.below b)
  have HOG_18 := Lib.hid (HOG_17.out.below b)
  have HOu0_18 := Lib.hid (HOu0_17.out.below b)
  have HOH_18 := Lib.hid (HOH_17.out.below b)
  clear b
  go_wp2_with fail
  go_ret
  exact ⟨rfl, HB_18.out⟩

end Go.Proofs.Ytcahnldbamjikaa
