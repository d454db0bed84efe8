/-
  FnExactChoiceCounts: the walk of the law: the model and the program are called by their contracts.
-/
import Derived.Test.YtpaohaodnchfkaaRibC
import Derived.Test.YtpaohaodnchfkaaKitM
import Derived.Deep.RegionHeld3
namespace Go.Proofs.Ytpaohaodnchfkaa
open Go.RowKit

set_option maxRecDepth 100000 in
set_option maxHeartbeats 3200000 in
theorem walk_FnExactChoiceCounts (A0 A0' : Option Addr) (n0 n0' c0 c0' : Nat) (t0 f0 : List Int) (A1 : Option Addr) (n1 c1 : Nat) (xs1 : List Int) (w : World) (hr0 : Rd w A0 n0 t0) (hr0' : Rd w A0' n0' f0) (hm0 : n0 ≤ maxLen) (hm0' : n0' ≤ maxLen) (hr1 : Rd w A1 n1 xs1) (_hm1 : n1 ≤ maxLen) :
    Calls Try.prog 3 #[.agg #[.slice A0 n0 c0, .slice A0' n0' c0'], .slice A1 n1 c1] w fun e w' => e = .returned (.bool true) ∧ Below w.heap.size w w' := by
  have HR0 := Lib.hid hr0; have HR0' := Lib.hid hr0'; have HL0 := Lib.hid hr0.1; have HL0' := Lib.hid hr0'.1; clear hr0 hr0'
  have HR1 := Lib.hid hr1; have HL1 := Lib.hid hr1.1; clear hr1
  obtain ⟨w0, hW0⟩ : ∃ w0, (w.alloc (.cells #[.slice A0 n0 c0, .slice A0' n0' c0'] 24)) = w0 := ⟨_, rfl⟩
  have hx : Box w0 (w.heap.size) 24 (.slice A0 n0 c0) (.slice A0' n0' c0') := by rw [← hW0]; have h := Box.new w 24 (.slice A0 n0 c0) (.slice A0' n0' c0'); exact h
  have cb_p0_0 := hx.cell0; have cb_p0_1 := hx.cell1
  have HXp0_0 := Lib.hid hx; clear hx
  have HB_0 : Hid (Below w.heap.size w w0) := by rw [← hW0]; exact (Below.refl _ _).alloc (by simp) _
  have HZ_0 : Hid (w.heap.size + 1 = w0.heap.size) := by rw [Hid, ← hW0]; simp
  by_cases hlt1 : 1048576 < n1
  · have hd1 : decide ((1048576 : Int) < n1) = true := by simp; omega
    go_enter Try.func3, Try.ntmps3
    go_wp2_with fail
    go_ret
    exact ⟨rfl, HB_0.out⟩
  have hd1 : decide ((1048576 : Int) < n1) = false := by simp; omega
  obtain ⟨r0, hr⟩ : ∃ r, szOf (1048576) n0 n0' = r := ⟨_, rfl⟩
  by_cases hs0 : r0 < 0
  · have E0 := Lib.hid hr; clear hr
    have hsd0 : decide (r0 < 0) = true := by simp [hs0]
    go_enter Try.func3, Try.ntmps3
    go_wp2_with fail
    refine (szMap_any A0 A0' n0 n0' c0 c0' (1048576) w0 hm0 hm0' (by omega) (by omega) E0.out).mono ?_
    rintro e w1 ⟨rfl, b⟩
    have HB_1 := Lib.hid (HB_0.out.trans (b.mono HB_0.out.size)); clear b
    go_wp2_with fail
    go_ret
    exact ⟨rfl, HB_1.out⟩
  obtain ⟨hq0, hv0⟩ := szOf_fits (m := 1048576) (n := n0) (n' := n0') (by omega) (by rw [hr]; exact hs0)
  rw [hv0] at hr; clear hv0
  have E0' := Lib.hid hr
  have hsd0 : decide (r0 < 0) = false := by simp; omega
  have E0 : Hid (szOf (1048576) n0 n0' = r0) := by rw [Hid, szOf_eq (by omega)]; exact hr
  clear hr
  obtain ⟨ok, ys, hR⟩ : ∃ ok ys, ccR t0 f0 xs1 = (ok, ys) := ⟨_, _, rfl⟩
  obtain ⟨m, hm⟩ : ∃ m, ys.length = m := ⟨_, rfl⟩
  have hm12 : m ≤ 12 := hm ▸ ccR_len hR
  have HRR := Lib.hid hR; have HMM := Lib.hid hm; clear hR hm
  have hok : (ok != ok) = false := by simp
  have hye := eqB_refl ys
  have hxe1 := eqB_refl xs1
  go_enter Try.func3, Try.ntmps3
  go_wp2_with fail
  refine (szMap_any A0 A0' n0 n0' c0 c0' (1048576) w0 hm0 hm0' (by omega) (by omega) E0.out).mono ?_
  rintro e w1 ⟨rfl, b⟩
  have HB_1 := Lib.hid (HB_0.out.trans (b.mono HB_0.out.size)); have HZ_1 := Lib.hid b.size
  have hx := HXp0_0.out.below b; clear cb_p0_0 cb_p0_1
  have cb_p0_0 := hx.cell0; have cb_p0_1 := hx.cell1
  have HXp0_1 := Lib.hid hx; clear hx
  clear b
  go_wp2_with fail
  refine (toMap_any A0 A0' n0 n0' c0 c0' t0 f0 w1 (HR0.out.below HB_1.out) (HR0'.out.below HB_1.out) (by omega) (by omega)).mono ?_
  rintro e w2 ⟨u, u', rfl, o, b⟩
  have HIs0 := Lib.hid o.turn.iv; have HIs0' := Lib.hid o.flip.iv
  obtain ⟨As0, cs0, As0', cs0', rfl, rfl, -, -⟩ := o.form HL0.out HL0'.out
  have HOs0_2 := Lib.hid o; clear o
  have HB_2 := Lib.hid (HB_1.out.trans (b.mono HB_1.out.size)); have HZ_2 := Lib.hid b.size
  have hx := HXp0_1.out.below b; clear cb_p0_0 cb_p0_1
  have cb_p0_0 := hx.cell0; have cb_p0_1 := hx.cell1
  have HXp0_2 := Lib.hid hx; clear hx
  clear b
  go_wp2_with fail
  refine (toIntS_any A1 n1 c1 xs1 w2 (HR1.out.below HB_2.out) (by omega)).mono ?_
  rintro e w3 ⟨v, rfl, o, b⟩
  have HIs1 := Lib.hid o.iv
  obtain ⟨As1, cs1, rfl, -, -⟩ := o.form' HL1.out
  have HOs1_3 := Lib.hid o; clear o
  have HB_3 := Lib.hid (HB_2.out.trans (b.mono HB_2.out.size)); have HZ_3 := Lib.hid b.size
  have hx := HXp0_2.out.below b; clear cb_p0_0 cb_p0_1
  have cb_p0_0 := hx.cell0; have cb_p0_1 := hx.cell1
  have HXp0_3 := Lib.hid hx; clear hx
  have HOs0_3 := Lib.hid (HOs0_2.out.below b)
  clear b
  go_wp2_with fail
  refine (spec_ccR w3 As0 As0' n0 n0' cs0 cs0' t0 f0 (HOs0_3.out.turn.rd HL0.out) (HOs0_3.out.flip.rd HL0'.out) (by omega) (by omega) As1 cs1 n1 xs1 (HOs1_3.out.rd HL1.out) (by omega) HRR.out).mono ?_
  rintro e w4 ⟨v, rfl, o, b⟩
  have HIW := Lib.hid o.iv
  obtain ⟨AW, cW, rfl, -, -⟩ := o.form' HMM.out
  have HOW_4 := Lib.hid o; clear o
  have HB_4 := Lib.hid (HB_3.out.trans (b.mono HB_3.out.size)); have HZ_4 := Lib.hid b.size
  have hx := HXp0_3.out.below b; clear cb_p0_0 cb_p0_1
  have cb_p0_0 := hx.cell0; have cb_p0_1 := hx.cell1
  have HXp0_4 := Lib.hid hx; clear hx
  have HOs0_4 := Lib.hid (HOs0_3.out.below b)
  have HOs1_4 := Lib.hid (HOs1_3.out.below b)
  clear b
  go_wp2_with fail
  refine (toMap_any A0 A0' n0 n0' c0 c0' t0 f0 w4 (HR0.out.below HB_4.out) (HR0'.out.below HB_4.out) (by omega) (by omega)).mono ?_
  rintro e w5 ⟨u, u', rfl, o, b⟩
  have HIx0 := Lib.hid o.turn.iv; have HIx0' := Lib.hid o.flip.iv
  obtain ⟨Ax0, cx0, Ax0', cx0', rfl, rfl, -, -⟩ := o.form HL0.out HL0'.out
  have HOx0_5 := Lib.hid o; clear o
  have HB_5 := Lib.hid (HB_4.out.trans (b.mono HB_4.out.size)); have HZ_5 := Lib.hid b.size
  have hx := HXp0_4.out.below b; clear cb_p0_0 cb_p0_1
  have cb_p0_0 := hx.cell0; have cb_p0_1 := hx.cell1
  have HXp0_5 := Lib.hid hx; clear hx
  have HOW_5 := Lib.hid (HOW_4.out.below b)
  clear b
  obtain ⟨w6, hW6, hx, b, hz⟩ := Box.local_ w5 28 (.slice Ax0 n0 cx0) (.slice Ax0' n0' cx0')
  have HXvx0_6 := Lib.hid hx; have HZE_6 := Lib.hid hz; clear hx hz
  have HB_6 := Lib.hid (HB_5.out.trans (b.mono HB_5.out.size)); have HZ_6 := Lib.hid b.size
  have hx := HXp0_5.out.below b; clear cb_p0_0 cb_p0_1
  have cb_p0_0 := hx.cell0; have cb_p0_1 := hx.cell1
  have HXp0_6 := Lib.hid hx; clear hx
  have HOW_6 := Lib.hid (HOW_5.out.below b)
  have HOx0_6 := Lib.hid (HOx0_5.out.below b)
  clear b
  have cb_vx0_0 := HXvx0_6.out.cell0; have cb_vx0_1 := HXvx0_6.out.cell1
  go_wp2_with fail
  refine (toIntS_any A1 n1 c1 xs1 w6 (HR1.out.below HB_6.out) (by omega)).mono ?_
  rintro e w7 ⟨v, rfl, o, b⟩
  have HIx1 := Lib.hid o.iv
  obtain ⟨Ax1, cx1, rfl, -, -⟩ := o.form' HL1.out
  have HOx1_7 := Lib.hid o; clear o
  have HB_7 := Lib.hid (HB_6.out.trans (b.mono HB_6.out.size)); have HZ_7 := Lib.hid b.size
  have hx := HXp0_6.out.below b; clear cb_p0_0 cb_p0_1
  have cb_p0_0 := hx.cell0; have cb_p0_1 := hx.cell1
  have HXp0_7 := Lib.hid hx; clear hx
  have hx := HXvx0_6.out.below b; clear cb_vx0_0 cb_vx0_1
  have cb_vx0_0 := hx.cell0; have cb_vx0_1 := hx.cell1
  have HXvx0_7 := Lib.hid hx; clear hx
  have HOW_7 := Lib.hid (HOW_6.out.below b)
  have HOx0_7 := Lib.hid (HOx0_6.out.below b)
  clear b
  go_wp2_with fail
  refine (impl_ccR w7 Ax0 Ax0' n0 n0' cx0 cx0' t0 f0 (HOx0_7.out.turn.rd HL0.out) (HOx0_7.out.flip.rd HL0'.out) (by omega) (by omega) Ax1 cx1 n1 xs1 (HOx1_7.out.rd HL1.out) (by omega) HRR.out).mono ?_
  rintro e w8 ⟨v, rfl, o, b⟩
  have HIG := Lib.hid o.iv
  obtain ⟨AG, cG, rfl, -, -⟩ := o.form' HMM.out
  have HOG_8 := Lib.hid o; clear o
  have HB_8 := Lib.hid (HB_7.out.trans (b.mono HB_7.out.size)); have HZ_8 := Lib.hid b.size
  have hx := HXp0_7.out.below b; clear cb_p0_0 cb_p0_1
  have cb_p0_0 := hx.cell0; have cb_p0_1 := hx.cell1
  have HXp0_8 := Lib.hid hx; clear hx
  have hx := HXvx0_7.out.below b; clear cb_vx0_0 cb_vx0_1
  have cb_vx0_0 := hx.cell0; have cb_vx0_1 := hx.cell1
  have HXvx0_8 := Lib.hid hx; clear hx
  have HOW_8 := Lib.hid (HOW_7.out.below b)
  have HOx0_8 := Lib.hid (HOx0_7.out.below b)
  have HOx1_8 := Lib.hid (HOx1_7.out.below b)
  clear b
  go_wp2_with fail
  refine (eqIntS_b AG AW m m cG cW ys ys w8 (HOG_8.out.rd HMM.out) (HOW_8.out.rd HMM.out) (by unfold maxLen; omega) (by unfold maxLen; omega)).mono ?_
  rintro e w9 ⟨rfl, b⟩
  have HB_9 := Lib.hid (HB_8.out.trans (b.mono HB_8.out.size)); have HZ_9 := Lib.hid b.size
  have hx := HXp0_8.out.below b; clear cb_p0_0 cb_p0_1
  have cb_p0_0 := hx.cell0; have cb_p0_1 := hx.cell1
  have HXp0_9 := Lib.hid hx; clear hx
  have hx := HXvx0_8.out.below b; clear cb_vx0_0 cb_vx0_1
  have cb_vx0_0 := hx.cell0; have cb_vx0_1 := hx.cell1
  have HXvx0_9 := Lib.hid hx; clear hx
  have HOW_9 := Lib.hid (HOW_8.out.below b)
  have HOx0_9 := Lib.hid (HOx0_8.out.below b)
  have HOx1_9 := Lib.hid (HOx1_8.out.below b)
  have HOG_9 := Lib.hid (HOG_8.out.below b)
  clear b
  go_wp2_with fail
  go_region_held3 (fun w' => w'.cell? ⟨w5.heap.size, 0, none⟩ = some (.slice Ax0 n0 cx0) ∧ w'.cell? ⟨w5.heap.size, 1, none⟩ = some (.slice Ax0' n0' cx0') ∧ w'.cell? ⟨w.heap.size, 0, none⟩ = some (.slice A0 n0 c0) ∧ w'.cell? ⟨w.heap.size, 1, none⟩ = some (.slice A0' n0' c0')) (first | go_keep | exact ⟨(HXvx0_9.out.below BT.out).cell0, (HXvx0_9.out.below BT.out).cell1, (HXp0_9.out.below BT.out).cell0, (HXp0_9.out.below BT.out).cell1⟩ | exact ⟨((HXvx0_9.out.below BT.out).below BE.out).cell0, ((HXvx0_9.out.below BT.out).below BE.out).cell1, ((HXp0_9.out.below BT.out).below BE.out).cell0, ((HXp0_9.out.below BT.out).below BE.out).cell1⟩) (first
    | (go_at_call 14; refine (toMap_any A0 A0' n0 n0' c0 c0' t0 f0 _ ((HR0.out.below HB_9.out).drewN _) ((HR0'.out.below HB_9.out).drewN _) (by omega) (by omega)).mono ?_; rintro e w10 ⟨u, u', rfl, o, b⟩; have BT := Lib.hid (Below.of_drewN b); clear b; have HIt0 := Lib.hid o.turn.iv; have HIt0' := Lib.hid o.flip.iv; obtain ⟨At0, ct0, At0', ct0', rfl, rfl, -, -⟩ := o.form HL0.out HL0'.out; have HOt0_10 := Lib.hid o; clear o)
    | (go_at_call 18; refine (eqMap_same Ax0 Ax0' At0 At0' n0 n0' cx0 cx0' ct0 ct0' t0 f0 _ ((HOx0_9.out.below BT.out).turn.rd HL0.out) ((HOx0_9.out.below BT.out).flip.rd HL0'.out) (HOt0_10.out.turn.rd HL0.out) (HOt0_10.out.flip.rd HL0'.out) (by omega) (by omega)).mono ?_; rintro e w11 ⟨rfl, b⟩; have BE := Lib.hid b; clear b))
  have b := BT.out
  have HB_10 := Lib.hid (HB_9.out.trans (b.mono HB_9.out.size)); have HZ_10 := Lib.hid b.size
  have hx := HXp0_9.out.below b; clear cb_p0_0 cb_p0_1
  have cb_p0_0 := hx.cell0; have cb_p0_1 := hx.cell1
  have HXp0_10 := Lib.hid hx; clear hx
  have hx := HXvx0_9.out.below b; clear cb_vx0_0 cb_vx0_1
  have cb_vx0_0 := hx.cell0; have cb_vx0_1 := hx.cell1
  have HXvx0_10 := Lib.hid hx; clear hx
  have HOW_10 := Lib.hid (HOW_9.out.below b)
  have HOx0_10 := Lib.hid (HOx0_9.out.below b)
  have HOx1_10 := Lib.hid (HOx1_9.out.below b)
  have HOG_10 := Lib.hid (HOG_9.out.below b)
  clear b
  have b := BE.out
  have HB_11 := Lib.hid (HB_10.out.trans (b.mono HB_10.out.size)); have HZ_11 := Lib.hid b.size
  have hx := HXp0_10.out.below b; clear cb_p0_0 cb_p0_1
  have cb_p0_0 := hx.cell0; have cb_p0_1 := hx.cell1
  have HXp0_11 := Lib.hid hx; clear hx
  have hx := HXvx0_10.out.below b; clear cb_vx0_0 cb_vx0_1
  have cb_vx0_0 := hx.cell0; have cb_vx0_1 := hx.cell1
  have HXvx0_11 := Lib.hid hx; clear hx
  have HOW_11 := Lib.hid (HOW_10.out.below b)
  have HOx0_11 := Lib.hid (HOx0_10.out.below b)
  have HOx1_11 := Lib.hid (HOx1_10.out.below b)
  have HOG_11 := Lib.hid (HOG_10.out.below b)
  clear b
  go_wp2_with fail
  refine (toIntS_any A1 n1 c1 xs1 w11 (HR1.out.below HB_11.out) (by omega)).mono ?_
  rintro e w12 ⟨v, rfl, o, b⟩
  have HIt1 := Lib.hid o.iv
  obtain ⟨At1, ct1, rfl, -, -⟩ := o.form' HL1.out
  have HOt1_12 := Lib.hid o; clear o
  have HB_12 := Lib.hid (HB_11.out.trans (b.mono HB_11.out.size)); have HZ_12 := Lib.hid b.size
  have hx := HXp0_11.out.below b; clear cb_p0_0 cb_p0_1
  have cb_p0_0 := hx.cell0; have cb_p0_1 := hx.cell1
  have HXp0_12 := Lib.hid hx; clear hx
  have hx := HXvx0_11.out.below b; clear cb_vx0_0 cb_vx0_1
  have cb_vx0_0 := hx.cell0; have cb_vx0_1 := hx.cell1
  have HXvx0_12 := Lib.hid hx; clear hx
  have HOW_12 := Lib.hid (HOW_11.out.below b)
  have HOx0_12 := Lib.hid (HOx0_11.out.below b)
  have HOx1_12 := Lib.hid (HOx1_11.out.below b)
  have HOG_12 := Lib.hid (HOG_11.out.below b)
  clear b
  go_wp2_with fail
  refine (eqIntS_b Ax1 At1 n1 n1 cx1 ct1 xs1 xs1 w12 (HOx1_12.out.rd HL1.out) (HOt1_12.out.rd HL1.out) (by unfold maxLen; omega) (by unfold maxLen; omega)).mono ?_
  rintro e w13 ⟨rfl, b⟩
  have HB_13 := Lib.hid (HB_12.out.trans (b.mono HB_12.out.size)); have HZ_13 := Lib.hid b.size
  have hx := HXp0_12.out.below b; clear cb_p0_0 cb_p0_1
  have cb_p0_0 := hx.cell0; have cb_p0_1 := hx.cell1
  have HXp0_13 := Lib.hid hx; clear hx
  have hx := HXvx0_12.out.below b; clear cb_vx0_0 cb_vx0_1
  have cb_vx0_0 := hx.cell0; have cb_vx0_1 := hx.cell1
  have HXvx0_13 := Lib.hid hx; clear hx
  have HOW_13 := Lib.hid (HOW_12.out.below b)
  have HOx0_13 := Lib.hid (HOx0_12.out.below b)
  have HOx1_13 := Lib.hid (HOx1_12.out.below b)
  have HOG_13 := Lib.hid (HOG_12.out.below b)
  have HOt1_13 := Lib.hid (HOt1_12.out.below b)
  clear b
  have hk1 : decide ((1 : Int) + (n0 : Int) + (n0' : Int) + (n1 : Int) < 0) = false := by simp; omega
  go_wp2_with fail
  refine (markMap_any w4.heap.size w5.heap.size w4.heap.size Ax0 Ax0' n0 n0' cx0 cx0' t0 f0 1 w13 HOx0_13.out HL0.out HL0'.out (by omega) (by omega) (by omega) (by omega) HIx0.out HIx0'.out (by have := HZ_0.out; have := HZ_1.out; have := HZ_2.out; have := HZ_3.out; have := HZ_4.out; have := HZ_5.out; have := HZE_6.out; have := HZ_6.out; have := HZ_7.out; have := HZ_8.out; have := HZ_9.out; have := HZ_10.out; have := HZ_11.out; have := HZ_12.out; have := HZ_13.out; omega)).mono ?_
  rintro e w14 ⟨rfl, o, hc⟩
  have HB_14 : Hid (Below w.heap.size w w14) := HB_13.out.trans (hc.below (by have := HZ_0.out; have := HZ_1.out; have := HZ_2.out; have := HZ_3.out; have := HZ_4.out; have := HZ_5.out; have := HZE_6.out; have := HZ_6.out; have := HZ_7.out; have := HZ_8.out; have := HZ_9.out; have := HZ_10.out; have := HZ_11.out; have := HZ_12.out; have := HZ_13.out; omega) HB_13.out.size); have HZ_14 := Lib.hid hc.size
  have hx := HXp0_13.out.chg hc (.inl (by have := HZ_0.out; have := HZ_1.out; have := HZ_2.out; have := HZ_3.out; have := HZ_4.out; have := HZ_5.out; have := HZE_6.out; have := HZ_6.out; have := HZ_7.out; have := HZ_8.out; have := HZ_9.out; have := HZ_10.out; have := HZ_11.out; have := HZ_12.out; have := HZ_13.out; have := HZ_14.out; omega)); clear cb_p0_0 cb_p0_1
  have cb_p0_0 := hx.cell0; have cb_p0_1 := hx.cell1
  have HXp0_14 := Lib.hid hx; clear hx
  have hx := HXvx0_13.out.chg hc (.inr (by have := HZ_0.out; have := HZ_1.out; have := HZ_2.out; have := HZ_3.out; have := HZ_4.out; have := HZ_5.out; have := HZE_6.out; have := HZ_6.out; have := HZ_7.out; have := HZ_8.out; have := HZ_9.out; have := HZ_10.out; have := HZ_11.out; have := HZ_12.out; have := HZ_13.out; have := HZ_14.out; omega)); clear cb_vx0_0 cb_vx0_1
  have cb_vx0_0 := hx.cell0; have cb_vx0_1 := hx.cell1
  have HXvx0_14 := Lib.hid hx; clear hx
  have HOW_14 := Lib.hid (HOW_13.out.chg hc (HIW.out.outside (.inl (by have := HZ_0.out; have := HZ_1.out; have := HZ_2.out; have := HZ_3.out; have := HZ_4.out; have := HZ_5.out; have := HZE_6.out; have := HZ_6.out; have := HZ_7.out; have := HZ_8.out; have := HZ_9.out; have := HZ_10.out; have := HZ_11.out; have := HZ_12.out; have := HZ_13.out; have := HZ_14.out; omega))))
  have HOx1_14 := Lib.hid (HOx1_13.out.chg hc (HIx1.out.outside (.inr (by have := HZ_0.out; have := HZ_1.out; have := HZ_2.out; have := HZ_3.out; have := HZ_4.out; have := HZ_5.out; have := HZE_6.out; have := HZ_6.out; have := HZ_7.out; have := HZ_8.out; have := HZ_9.out; have := HZ_10.out; have := HZ_11.out; have := HZ_12.out; have := HZ_13.out; have := HZ_14.out; omega))))
  have HOG_14 := Lib.hid (HOG_13.out.chg hc (HIG.out.outside (.inr (by have := HZ_0.out; have := HZ_1.out; have := HZ_2.out; have := HZ_3.out; have := HZ_4.out; have := HZ_5.out; have := HZE_6.out; have := HZ_6.out; have := HZ_7.out; have := HZ_8.out; have := HZ_9.out; have := HZ_10.out; have := HZ_11.out; have := HZ_12.out; have := HZ_13.out; have := HZ_14.out; omega))))
  have HOx0_14 := Lib.hid o; clear hc o
  go_wp2_with fail
  refine (markIntS_any w6.heap.size Ax1 n1 cx1 xs1 (1 + (n0 : Int) + (n0' : Int)) w14 HOx1_14.out HL1.out (by omega) (by omega) (by omega)).mono ?_
  rintro e w15 ⟨rfl, o, hg⟩
  have hc : Chg w6.heap.size w7.heap.size w14 w15 := Chg.of_grown hg (fun k hk => HIx1.out k hk); clear hg
  have HB_15 : Hid (Below w.heap.size w w15) := HB_14.out.trans (hc.below (by have := HZ_0.out; have := HZ_1.out; have := HZ_2.out; have := HZ_3.out; have := HZ_4.out; have := HZ_5.out; have := HZE_6.out; have := HZ_6.out; have := HZ_7.out; have := HZ_8.out; have := HZ_9.out; have := HZ_10.out; have := HZ_11.out; have := HZ_12.out; have := HZ_13.out; have := HZ_14.out; omega) HB_14.out.size); have HZ_15 := Lib.hid hc.size
  have hx := HXp0_14.out.chg hc (.inl (by have := HZ_0.out; have := HZ_1.out; have := HZ_2.out; have := HZ_3.out; have := HZ_4.out; have := HZ_5.out; have := HZE_6.out; have := HZ_6.out; have := HZ_7.out; have := HZ_8.out; have := HZ_9.out; have := HZ_10.out; have := HZ_11.out; have := HZ_12.out; have := HZ_13.out; have := HZ_14.out; have := HZ_15.out; omega)); clear cb_p0_0 cb_p0_1
  have cb_p0_0 := hx.cell0; have cb_p0_1 := hx.cell1
  have HXp0_15 := Lib.hid hx; clear hx
  have hx := HXvx0_14.out.chg hc (.inl (by have := HZ_0.out; have := HZ_1.out; have := HZ_2.out; have := HZ_3.out; have := HZ_4.out; have := HZ_5.out; have := HZE_6.out; have := HZ_6.out; have := HZ_7.out; have := HZ_8.out; have := HZ_9.out; have := HZ_10.out; have := HZ_11.out; have := HZ_12.out; have := HZ_13.out; have := HZ_14.out; have := HZ_15.out; omega)); clear cb_vx0_0 cb_vx0_1
  have cb_vx0_0 := hx.cell0; have cb_vx0_1 := hx.cell1
  have HXvx0_15 := Lib.hid hx; clear hx
  have HOW_15 := Lib.hid (HOW_14.out.chg hc (HIW.out.outside (.inl (by have := HZ_0.out; have := HZ_1.out; have := HZ_2.out; have := HZ_3.out; have := HZ_4.out; have := HZ_5.out; have := HZE_6.out; have := HZ_6.out; have := HZ_7.out; have := HZ_8.out; have := HZ_9.out; have := HZ_10.out; have := HZ_11.out; have := HZ_12.out; have := HZ_13.out; have := HZ_14.out; have := HZ_15.out; omega))))
  have HOx0_15 := Lib.hid (HOx0_14.out.chg hc (HIx0.out.outside (.inl (by have := HZ_0.out; have := HZ_1.out; have := HZ_2.out; have := HZ_3.out; have := HZ_4.out; have := HZ_5.out; have := HZE_6.out; have := HZ_6.out; have := HZ_7.out; have := HZ_8.out; have := HZ_9.out; have := HZ_10.out; have := HZ_11.out; have := HZ_12.out; have := HZ_13.out; have := HZ_14.out; have := HZ_15.out; omega))) (HIx0'.out.outside (.inl (by have := HZ_0.out; have := HZ_1.out; have := HZ_2.out; have := HZ_3.out; have := HZ_4.out; have := HZ_5.out; have := HZE_6.out; have := HZ_6.out; have := HZ_7.out; have := HZ_8.out; have := HZ_9.out; have := HZ_10.out; have := HZ_11.out; have := HZ_12.out; have := HZ_13.out; have := HZ_14.out; have := HZ_15.out; omega))))
  have HOG_15 := Lib.hid (HOG_14.out.chg hc (HIG.out.outside (.inr (by have := HZ_0.out; have := HZ_1.out; have := HZ_2.out; have := HZ_3.out; have := HZ_4.out; have := HZ_5.out; have := HZE_6.out; have := HZ_6.out; have := HZ_7.out; have := HZ_8.out; have := HZ_9.out; have := HZ_10.out; have := HZ_11.out; have := HZ_12.out; have := HZ_13.out; have := HZ_14.out; have := HZ_15.out; omega))))
  have HOx1_15 := Lib.hid o; clear hc o
  go_wp2_with fail
  refine (eqIntS_b AG AW m m cG cW ys ys w15 (HOG_15.out.rd HMM.out) (HOW_15.out.rd HMM.out) (by unfold maxLen; omega) (by unfold maxLen; omega)).mono ?_
  rintro e w16 ⟨rfl, b⟩
  have HB_16 := Lib.hid (HB_15.out.trans (b.mono HB_15.out.size)); have HZ_16 := Lib.hid b.size
  have hx := HXp0_15.out.below b; clear cb_p0_0 cb_p0_1
  have cb_p0_0 := hx.cell0; have cb_p0_1 := hx.cell1
  have HXp0_16 := Lib.hid hx; clear hx
  have hx := HXvx0_15.out.below b; clear cb_vx0_0 cb_vx0_1
  have cb_vx0_0 := hx.cell0; have cb_vx0_1 := hx.cell1
  have HXvx0_16 := Lib.hid hx; clear hx
  have HOW_16 := Lib.hid (HOW_15.out.below b)
  have HOx0_16 := Lib.hid (HOx0_15.out.below b)
  have HOx1_16 := Lib.hid (HOx1_15.out.below b)
  have HOG_16 := Lib.hid (HOG_15.out.below b)
  clear b
  go_wp2_with fail
  refine (markIntS_any w7.heap.size AG m cG ys 1 w16 HOG_16.out HMM.out (by omega) (by omega) (by omega)).mono ?_
  rintro e w17 ⟨rfl, o, hg⟩
  have hc : Chg w7.heap.size w8.heap.size w16 w17 := Chg.of_grown hg (fun k hk => HIG.out k hk); clear hg
  have HB_17 : Hid (Below w.heap.size w w17) := HB_16.out.trans (hc.below (by have := HZ_0.out; have := HZ_1.out; have := HZ_2.out; have := HZ_3.out; have := HZ_4.out; have := HZ_5.out; have := HZE_6.out; have := HZ_6.out; have := HZ_7.out; have := HZ_8.out; have := HZ_9.out; have := HZ_10.out; have := HZ_11.out; have := HZ_12.out; have := HZ_13.out; have := HZ_14.out; have := HZ_15.out; have := HZ_16.out; omega) HB_16.out.size); have HZ_17 := Lib.hid hc.size
  have hx := HXp0_16.out.chg hc (.inl (by have := HZ_0.out; have := HZ_1.out; have := HZ_2.out; have := HZ_3.out; have := HZ_4.out; have := HZ_5.out; have := HZE_6.out; have := HZ_6.out; have := HZ_7.out; have := HZ_8.out; have := HZ_9.out; have := HZ_10.out; have := HZ_11.out; have := HZ_12.out; have := HZ_13.out; have := HZ_14.out; have := HZ_15.out; have := HZ_16.out; have := HZ_17.out; omega)); clear cb_p0_0 cb_p0_1
  have cb_p0_0 := hx.cell0; have cb_p0_1 := hx.cell1
  have HXp0_17 := Lib.hid hx; clear hx
  have hx := HXvx0_16.out.chg hc (.inl (by have := HZ_0.out; have := HZ_1.out; have := HZ_2.out; have := HZ_3.out; have := HZ_4.out; have := HZ_5.out; have := HZE_6.out; have := HZ_6.out; have := HZ_7.out; have := HZ_8.out; have := HZ_9.out; have := HZ_10.out; have := HZ_11.out; have := HZ_12.out; have := HZ_13.out; have := HZ_14.out; have := HZ_15.out; have := HZ_16.out; have := HZ_17.out; omega)); clear cb_vx0_0 cb_vx0_1
  have cb_vx0_0 := hx.cell0; have cb_vx0_1 := hx.cell1
  have HXvx0_17 := Lib.hid hx; clear hx
  have HOW_17 := Lib.hid (HOW_16.out.chg hc (HIW.out.outside (.inl (by have := HZ_0.out; have := HZ_1.out; have := HZ_2.out; have := HZ_3.out; have := HZ_4.out; have := HZ_5.out; have := HZE_6.out; have := HZ_6.out; have := HZ_7.out; have := HZ_8.out; have := HZ_9.out; have := HZ_10.out; have := HZ_11.out; have := HZ_12.out; have := HZ_13.out; have := HZ_14.out; have := HZ_15.out; have := HZ_16.out; have := HZ_17.out; omega))))
  have HOx0_17 := Lib.hid (HOx0_16.out.chg hc (HIx0.out.outside (.inl (by have := HZ_0.out; have := HZ_1.out; have := HZ_2.out; have := HZ_3.out; have := HZ_4.out; have := HZ_5.out; have := HZE_6.out; have := HZ_6.out; have := HZ_7.out; have := HZ_8.out; have := HZ_9.out; have := HZ_10.out; have := HZ_11.out; have := HZ_12.out; have := HZ_13.out; have := HZ_14.out; have := HZ_15.out; have := HZ_16.out; have := HZ_17.out; omega))) (HIx0'.out.outside (.inl (by have := HZ_0.out; have := HZ_1.out; have := HZ_2.out; have := HZ_3.out; have := HZ_4.out; have := HZ_5.out; have := HZE_6.out; have := HZ_6.out; have := HZ_7.out; have := HZ_8.out; have := HZ_9.out; have := HZ_10.out; have := HZ_11.out; have := HZ_12.out; have := HZ_13.out; have := HZ_14.out; have := HZ_15.out; have := HZ_16.out; have := HZ_17.out; omega))))
  have HOx1_17 := Lib.hid (HOx1_16.out.chg hc (HIx1.out.outside (.inl (by have := HZ_0.out; have := HZ_1.out; have := HZ_2.out; have := HZ_3.out; have := HZ_4.out; have := HZ_5.out; have := HZE_6.out; have := HZ_6.out; have := HZ_7.out; have := HZ_8.out; have := HZ_9.out; have := HZ_10.out; have := HZ_11.out; have := HZ_12.out; have := HZ_13.out; have := HZ_14.out; have := HZ_15.out; have := HZ_16.out; have := HZ_17.out; omega))))
  have HOG_17 := Lib.hid o; clear hc o
  have hk2 : decide ((1 : Int) + (m : Int) < 0) = false := by simp; omega
  have hk3 : ((1 : Int) + (m : Int) != (1 : Int) + (m : Int)) = false := by simp
  go_wp2_with fail
  refine (heldIntS_any AG m cG 1 w17 (HOG_17.out.rd (marks_len _ _)) (by omega) (by omega) (by omega)).mono ?_
  rintro e w' ⟨rfl, rfl⟩
  go_wp2_with fail
  refine (toMap_any A0 A0' n0 n0' c0 c0' t0 f0 w17 (HR0.out.below HB_17.out) (HR0'.out.below HB_17.out) (by omega) (by omega)).mono ?_
  rintro e w18 ⟨u, u', rfl, o, b⟩
  have HIu0 := Lib.hid o.turn.iv; have HIu0' := Lib.hid o.flip.iv
  obtain ⟨Au0, cu0, Au0', cu0', rfl, rfl, -, -⟩ := o.form HL0.out HL0'.out
  have HOu0_18 := Lib.hid o; clear o
  have HB_18 := Lib.hid (HB_17.out.trans (b.mono HB_17.out.size)); have HZ_18 := Lib.hid b.size
  have hx := HXp0_17.out.below b; clear cb_p0_0 cb_p0_1
  have cb_p0_0 := hx.cell0; have cb_p0_1 := hx.cell1
  have HXp0_18 := Lib.hid hx; clear hx
  have hx := HXvx0_17.out.below b; clear cb_vx0_0 cb_vx0_1
  have cb_vx0_0 := hx.cell0; have cb_vx0_1 := hx.cell1
  have HXvx0_18 := Lib.hid hx; clear hx
  have HOW_18 := Lib.hid (HOW_17.out.below b)
  have HOG_18 := Lib.hid (HOG_17.out.below b)
  clear b
  go_wp2_with fail
  refine (toIntS_any A1 n1 c1 xs1 w18 (HR1.out.below HB_18.out) (by omega)).mono ?_
  rintro e w19 ⟨v, rfl, o, b⟩
  have HIu1 := Lib.hid o.iv
  obtain ⟨Au1, cu1, rfl, -, -⟩ := o.form' HL1.out
  have HOu1_19 := Lib.hid o; clear o
  have HB_19 := Lib.hid (HB_18.out.trans (b.mono HB_18.out.size)); have HZ_19 := Lib.hid b.size
  have hx := HXp0_18.out.below b; clear cb_p0_0 cb_p0_1
  have cb_p0_0 := hx.cell0; have cb_p0_1 := hx.cell1
  have HXp0_19 := Lib.hid hx; clear hx
  have hx := HXvx0_18.out.below b; clear cb_vx0_0 cb_vx0_1
  have cb_vx0_0 := hx.cell0; have cb_vx0_1 := hx.cell1
  have HXvx0_19 := Lib.hid hx; clear hx
  have HOW_19 := Lib.hid (HOW_18.out.below b)
  have HOG_19 := Lib.hid (HOG_18.out.below b)
  have HOu0_19 := Lib.hid (HOu0_18.out.below b)
  clear b
  go_wp2_with fail
  refine (impl_ccR w19 Au0 Au0' n0 n0' cu0 cu0' t0 f0 (HOu0_19.out.turn.rd HL0.out) (HOu0_19.out.flip.rd HL0'.out) (by omega) (by omega) Au1 cu1 n1 xs1 (HOu1_19.out.rd HL1.out) (by omega) HRR.out).mono ?_
  rintro e w20 ⟨v, rfl, o, b⟩
  have HIH := Lib.hid o.iv
  obtain ⟨AH, cH, rfl, -, -⟩ := o.form' HMM.out
  have HOH_20 := Lib.hid o; clear o
  have HB_20 := Lib.hid (HB_19.out.trans (b.mono HB_19.out.size)); have HZ_20 := Lib.hid b.size
  have hx := HXp0_19.out.below b; clear cb_p0_0 cb_p0_1
  have cb_p0_0 := hx.cell0; have cb_p0_1 := hx.cell1
  have HXp0_20 := Lib.hid hx; clear hx
  have hx := HXvx0_19.out.below b; clear cb_vx0_0 cb_vx0_1
  have cb_vx0_0 := hx.cell0; have cb_vx0_1 := hx.cell1
  have HXvx0_20 := Lib.hid hx; clear hx
  have HOW_20 := Lib.hid (HOW_19.out.below b)
  have HOG_20 := Lib.hid (HOG_19.out.below b)
  have HOu0_20 := Lib.hid (HOu0_19.out.below b)
  have HOu1_20 := Lib.hid (HOu1_19.out.below b)
  clear b
  go_wp2_with fail
  refine (eqIntS_b AH AW m m cH cW ys ys w20 (HOH_20.out.rd HMM.out) (HOW_20.out.rd HMM.out) (by unfold maxLen; omega) (by unfold maxLen; omega)).mono ?_
  rintro e w21 ⟨rfl, b⟩
  have HB_21 := Lib.hid (HB_20.out.trans (b.mono HB_20.out.size)); have HZ_21 := Lib.hid b.size
  have hx := HXp0_20.out.below b; clear cb_p0_0 cb_p0_1
  have cb_p0_0 := hx.cell0; have cb_p0_1 := hx.cell1
  have HXp0_21 := Lib.hid hx; clear hx
  have hx := HXvx0_20.out.below b; clear cb_vx0_0 cb_vx0_1
  have cb_vx0_0 := hx.cell0; have cb_vx0_1 := hx.cell1
  have HXvx0_21 := Lib.hid hx; clear hx
  have HOW_21 := Lib.hid (HOW_20.out.below b)
  have HOG_21 := Lib.hid (HOG_20.out.below b)
  have HOu0_21 := Lib.hid (HOu0_20.out.below b)
  have HOu1_21 := Lib.hid (HOu1_20.out.below b)
  have HOH_21 := Lib.hid (HOH_20.out.below b)
  clear b
  go_wp2_with fail
  refine (heldIntS_any AG m cG 1 w21 (HOG_21.out.rd (marks_len _ _)) (by omega) (by omega) (by omega)).mono ?_
  rintro e w' ⟨rfl, rfl⟩
  go_wp2_with fail
  go_ret
  exact ⟨rfl, HB_21.out⟩

end Go.Proofs.Ytpaohaodnchfkaa
