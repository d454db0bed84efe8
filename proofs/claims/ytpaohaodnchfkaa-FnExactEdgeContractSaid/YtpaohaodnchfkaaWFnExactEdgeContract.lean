/-
  FnExactEdgeContract: the walk of the law: the model and the program are called by their contracts.
-/
import Derived.Test.YtpaohaodnchfkaaDelW
import Derived.Test.YtpaohaodnchfkaaKitM
import Derived.Deep.RegionHeld3
namespace Go.Proofs.Ytpaohaodnchfkaa
open Go.RowKit

set_option maxRecDepth 100000 in
set_option maxHeartbeats 3200000 in
theorem walk_FnExactEdgeContract (A0 A0' : Option Addr) (n0 n0' c0 c0' : Nat) (t0 f0 : List Int) (x1 : Int) (w : World) (hr0 : Rd w A0 n0 t0) (hr0' : Rd w A0' n0' f0) (hm0 : n0 ≤ maxLen) (hm0' : n0' ≤ maxLen) (hw1 : (Lit.int .i64 x1).wf = true) :
    Calls Try.prog 11 #[.agg #[.slice A0 n0 c0, .slice A0' n0' c0'], .int .i64 x1] w fun e w' => e = .returned (.bool true) ∧ Below w.heap.size w w' := by
  have HR0 := Lib.hid hr0; have HR0' := Lib.hid hr0'; have HL0 := Lib.hid hr0.1; have HL0' := Lib.hid hr0'.1; clear hr0 hr0'
  have HW1 := Lib.hid hw1; clear hw1
  obtain ⟨w0, hW0⟩ : ∃ w0, (w.alloc (.cells #[.slice A0 n0 c0, .slice A0' n0' c0'] 24)) = w0 := ⟨_, rfl⟩
  have hx : Box w0 (w.heap.size) 24 (.slice A0 n0 c0) (.slice A0' n0' c0') := by rw [← hW0]; have h := Box.new w 24 (.slice A0 n0 c0) (.slice A0' n0' c0'); exact h
  have cb_p0_0 := hx.cell0; have cb_p0_1 := hx.cell1
  have HXp0_0 := Lib.hid hx; clear hx
  have HB_0 : Hid (Below w.heap.size w w0) := by rw [← hW0]; exact (Below.refl _ _).alloc (by simp) _
  have HZ_0 : Hid (w.heap.size + 1 = w0.heap.size) := by rw [Hid, ← hW0]; simp
  obtain ⟨r0, hr⟩ : ∃ r, szOf (1048576) n0 n0' = r := ⟨_, rfl⟩
  by_cases hs0 : r0 < 0
  · have E0 := Lib.hid hr; clear hr
    have hsd0 : decide (r0 < 0) = true := by simp [hs0]
    go_enter Try.func11, Try.ntmps11
    go_wp2_with fail
    refine (szMap_any A0 A0' n0 n0' c0 c0' (1048576) w0 hm0 hm0' (by omega) (by omega) E0.out).mono ?_
    rintro e w1 ⟨rfl, b⟩
    have HB_1 := Lib.hid (HB_0.out.trans (b.mono HB_0.out.size)); clear b
    go_wp2_with fail
    go_ret
    exact ⟨rfl, HB_1.out⟩
  obtain ⟨hq0, hv0⟩ := szOf_fits (m := 1048576) (n := n0) (n' := n0') (by omega) (by rw [hr]; exact hs0)
  rw [hv0] at hr; clear hv0
  have E0' := Lib.hid hr
  have hsd0 : decide (r0 < 0) = false := by simp; omega
  have E0 : Hid (szOf (1048576) n0 n0' = r0) := by rw [Hid, szOf_eq (by omega)]; exact hr
  clear hr
  obtain ⟨ok, yt, yf, hR⟩ : ∃ ok yt yf, cnR t0 f0 x1 = (ok, yt, yf) := ⟨_, _, _, rfl⟩
  obtain ⟨m, hm⟩ : ∃ m, yt.length = m := ⟨_, rfl⟩
  obtain ⟨m', hm'⟩ : ∃ m, yf.length = m := ⟨_, rfl⟩
  have hm12 : m ≤ 12 := hm ▸ (cnR_len hR).1
  have hm12' : m' ≤ 12 := hm' ▸ (cnR_len hR).2
  have HRR := Lib.hid hR; have HMM := Lib.hid hm; have HMM' := Lib.hid hm'; clear hR hm hm'
  have hok : (ok != ok) = false := by simp
  go_enter Try.func11, Try.ntmps11
  go_wp2_with fail
  refine (szMap_any A0 A0' n0 n0' c0 c0' (1048576) w0 hm0 hm0' (by omega) (by omega) E0.out).mono ?_
  rintro e w1 ⟨rfl, b⟩
  have HB_1 := Lib.hid (HB_0.out.trans (b.mono HB_0.out.size)); have HZ_1 := Lib.hid b.size
  have hx := HXp0_0.out.below b; clear cb_p0_0 cb_p0_1
  have cb_p0_0 := hx.cell0; have cb_p0_1 := hx.cell1
  have HXp0_1 := Lib.hid hx; clear hx
  clear b
  go_wp2_with fail
  refine (toMap_any A0 A0' n0 n0' c0 c0' t0 f0 w1 (HR0.out.below HB_1.out) (HR0'.out.below HB_1.out) (by omega) (by omega)).mono ?_
  rintro e w2 ⟨u, u', rfl, o, b⟩
  have HIs0 := Lib.hid o.turn.iv; have HIs0' := Lib.hid o.flip.iv
  obtain ⟨As0, cs0, As0', cs0', rfl, rfl, -, -⟩ := o.form HL0.out HL0'.out
  have HOs0_2 := Lib.hid o; clear o
  have HB_2 := Lib.hid (HB_1.out.trans (b.mono HB_1.out.size)); have HZ_2 := Lib.hid b.size
  have hx := HXp0_1.out.below b; clear cb_p0_0 cb_p0_1
  have cb_p0_0 := hx.cell0; have cb_p0_1 := hx.cell1
  have HXp0_2 := Lib.hid hx; clear hx
  clear b
  go_wp2_with fail
  refine (spec_cnR w2 As0 As0' n0 n0' cs0 cs0' t0 f0 (HOs0_2.out.turn.rd HL0.out) (HOs0_2.out.flip.rd HL0'.out) (by omega) (by omega) x1 HW1.out HRR.out).mono ?_
  rintro e w3 ⟨u, u', rfl, o, b⟩
  have HIW := Lib.hid o.turn.iv; have HIW' := Lib.hid o.flip.iv
  obtain ⟨AW, cW, AW', cW', rfl, rfl, -, -⟩ := o.form HMM.out HMM'.out
  have HOW_3 := Lib.hid o; clear o
  have HB_3 := Lib.hid (HB_2.out.trans (b.mono HB_2.out.size)); have HZ_3 := Lib.hid b.size
  have hx := HXp0_2.out.below b; clear cb_p0_0 cb_p0_1
  have cb_p0_0 := hx.cell0; have cb_p0_1 := hx.cell1
  have HXp0_3 := Lib.hid hx; clear hx
  have HOs0_3 := Lib.hid (HOs0_2.out.below b)
  clear b
  obtain ⟨w4, hW4, hx, b, hz⟩ := Box.local_ w3 28 (.slice AW m cW) (.slice AW' m' cW')
  have HXvW_4 := Lib.hid hx; have HZE_4 := Lib.hid hz; clear hx hz
  have HB_4 := Lib.hid (HB_3.out.trans (b.mono HB_3.out.size)); have HZ_4 := Lib.hid b.size
  have hx := HXp0_3.out.below b; clear cb_p0_0 cb_p0_1
  have cb_p0_0 := hx.cell0; have cb_p0_1 := hx.cell1
  have HXp0_4 := Lib.hid hx; clear hx
  have HOs0_4 := Lib.hid (HOs0_3.out.below b)
  have HOW_4 := Lib.hid (HOW_3.out.below b)
  clear b
  have cb_vW_0 := HXvW_4.out.cell0; have cb_vW_1 := HXvW_4.out.cell1
  go_wp2_with fail
  refine (toMap_any A0 A0' n0 n0' c0 c0' t0 f0 w4 (HR0.out.below HB_4.out) (HR0'.out.below HB_4.out) (by omega) (by omega)).mono ?_
  rintro e w5 ⟨u, u', rfl, o, b⟩
  have HIx0 := Lib.hid o.turn.iv; have HIx0' := Lib.hid o.flip.iv
  obtain ⟨Ax0, cx0, Ax0', cx0', rfl, rfl, -, -⟩ := o.form HL0.out HL0'.out
  have HOx0_5 := Lib.hid o; clear o
  have HB_5 := Lib.hid (HB_4.out.trans (b.mono HB_4.out.size)); have HZ_5 := Lib.hid b.size
  have hx := HXp0_4.out.below b; clear cb_p0_0 cb_p0_1
  have cb_p0_0 := hx.cell0; have cb_p0_1 := hx.cell1
  have HXp0_5 := Lib.hid hx; clear hx
  have hx := HXvW_4.out.below b; clear cb_vW_0 cb_vW_1
  have cb_vW_0 := hx.cell0; have cb_vW_1 := hx.cell1
  have HXvW_5 := Lib.hid hx; clear hx
  have HOW_5 := Lib.hid (HOW_4.out.below b)
  clear b
  obtain ⟨w6, hW6, hx, b, hz⟩ := Box.local_ w5 28 (.slice Ax0 n0 cx0) (.slice Ax0' n0' cx0')
  have HXvx0_6 := Lib.hid hx; have HZE_6 := Lib.hid hz; clear hx hz
  have HB_6 := Lib.hid (HB_5.out.trans (b.mono HB_5.out.size)); have HZ_6 := Lib.hid b.size
  have hx := HXp0_5.out.below b; clear cb_p0_0 cb_p0_1
  have cb_p0_0 := hx.cell0; have cb_p0_1 := hx.cell1
  have HXp0_6 := Lib.hid hx; clear hx
  have hx := HXvW_5.out.below b; clear cb_vW_0 cb_vW_1
  have cb_vW_0 := hx.cell0; have cb_vW_1 := hx.cell1
  have HXvW_6 := Lib.hid hx; clear hx
  have HOW_6 := Lib.hid (HOW_5.out.below b)
  have HOx0_6 := Lib.hid (HOx0_5.out.below b)
  clear b
  have cb_vx0_0 := HXvx0_6.out.cell0; have cb_vx0_1 := HXvx0_6.out.cell1
  go_wp2_with fail
  refine (impl_cnR w6 Ax0 Ax0' n0 n0' cx0 cx0' t0 f0 (HOx0_6.out.turn.rd HL0.out) (HOx0_6.out.flip.rd HL0'.out) (by omega) (by omega) x1 HW1.out HRR.out).mono ?_
  rintro e w7 ⟨u, u', rfl, o, b⟩
  have HIG := Lib.hid o.turn.iv; have HIG' := Lib.hid o.flip.iv
  obtain ⟨AG, cG, AG', cG', rfl, rfl, -, -⟩ := o.form HMM.out HMM'.out
  have HOG_7 := Lib.hid o; clear o
  have HB_7 := Lib.hid (HB_6.out.trans (b.mono HB_6.out.size)); have HZ_7 := Lib.hid b.size
  have hx := HXp0_6.out.below b; clear cb_p0_0 cb_p0_1
  have cb_p0_0 := hx.cell0; have cb_p0_1 := hx.cell1
  have HXp0_7 := Lib.hid hx; clear hx
  have hx := HXvW_6.out.below b; clear cb_vW_0 cb_vW_1
  have cb_vW_0 := hx.cell0; have cb_vW_1 := hx.cell1
  have HXvW_7 := Lib.hid hx; clear hx
  have hx := HXvx0_6.out.below b; clear cb_vx0_0 cb_vx0_1
  have cb_vx0_0 := hx.cell0; have cb_vx0_1 := hx.cell1
  have HXvx0_7 := Lib.hid hx; clear hx
  have HOW_7 := Lib.hid (HOW_6.out.below b)
  have HOx0_7 := Lib.hid (HOx0_6.out.below b)
  clear b
  obtain ⟨w8, hW8, hx, b, hz⟩ := Box.local_ w7 28 (.slice AG m cG) (.slice AG' m' cG')
  have HXvG_8 := Lib.hid hx; have HZE_8 := Lib.hid hz; clear hx hz
  have HB_8 := Lib.hid (HB_7.out.trans (b.mono HB_7.out.size)); have HZ_8 := Lib.hid b.size
  have hx := HXp0_7.out.below b; clear cb_p0_0 cb_p0_1
  have cb_p0_0 := hx.cell0; have cb_p0_1 := hx.cell1
  have HXp0_8 := Lib.hid hx; clear hx
  have hx := HXvW_7.out.below b; clear cb_vW_0 cb_vW_1
  have cb_vW_0 := hx.cell0; have cb_vW_1 := hx.cell1
  have HXvW_8 := Lib.hid hx; clear hx
  have hx := HXvx0_7.out.below b; clear cb_vx0_0 cb_vx0_1
  have cb_vx0_0 := hx.cell0; have cb_vx0_1 := hx.cell1
  have HXvx0_8 := Lib.hid hx; clear hx
  have HOW_8 := Lib.hid (HOW_7.out.below b)
  have HOx0_8 := Lib.hid (HOx0_7.out.below b)
  have HOG_8 := Lib.hid (HOG_7.out.below b)
  clear b
  have cb_vG_0 := HXvG_8.out.cell0; have cb_vG_1 := HXvG_8.out.cell1
  go_wp2_with fail
  refine (eqMap_same AG AG' AW AW' m m' cG cG' cW cW' yt yf w8 (HOG_8.out.turn.rd HMM.out) (HOG_8.out.flip.rd HMM'.out) (HOW_8.out.turn.rd HMM.out) (HOW_8.out.flip.rd HMM'.out) (by omega) (by omega)).mono ?_
  rintro e w9 ⟨rfl, b⟩
  have HB_9 := Lib.hid (HB_8.out.trans (b.mono HB_8.out.size)); have HZ_9 := Lib.hid b.size
  have hx := HXp0_8.out.below b; clear cb_p0_0 cb_p0_1
  have cb_p0_0 := hx.cell0; have cb_p0_1 := hx.cell1
  have HXp0_9 := Lib.hid hx; clear hx
  have hx := HXvW_8.out.below b; clear cb_vW_0 cb_vW_1
  have cb_vW_0 := hx.cell0; have cb_vW_1 := hx.cell1
  have HXvW_9 := Lib.hid hx; clear hx
  have hx := HXvx0_8.out.below b; clear cb_vx0_0 cb_vx0_1
  have cb_vx0_0 := hx.cell0; have cb_vx0_1 := hx.cell1
  have HXvx0_9 := Lib.hid hx; clear hx
  have hx := HXvG_8.out.below b; clear cb_vG_0 cb_vG_1
  have cb_vG_0 := hx.cell0; have cb_vG_1 := hx.cell1
  have HXvG_9 := Lib.hid hx; clear hx
  have HOW_9 := Lib.hid (HOW_8.out.below b)
  have HOx0_9 := Lib.hid (HOx0_8.out.below b)
  have HOG_9 := Lib.hid (HOG_8.out.below b)
  clear b
  go_wp2_with fail
  go_region_held3 (fun w' => w'.cell? ⟨w5.heap.size, 0, none⟩ = some (.slice Ax0 n0 cx0) ∧ w'.cell? ⟨w5.heap.size, 1, none⟩ = some (.slice Ax0' n0' cx0') ∧ w'.cell? ⟨w.heap.size, 0, none⟩ = some (.slice A0 n0 c0) ∧ w'.cell? ⟨w.heap.size, 1, none⟩ = some (.slice A0' n0' c0')) (first | go_keep | exact ⟨(HXvx0_9.out.below BT.out).cell0, (HXvx0_9.out.below BT.out).cell1, (HXp0_9.out.below BT.out).cell0, (HXp0_9.out.below BT.out).cell1⟩ | exact ⟨((HXvx0_9.out.below BT.out).below BE.out).cell0, ((HXvx0_9.out.below BT.out).below BE.out).cell1, ((HXp0_9.out.below BT.out).below BE.out).cell0, ((HXp0_9.out.below BT.out).below BE.out).cell1⟩) (first
    | (go_at_call 14; refine (toMap_any A0 A0' n0 n0' c0 c0' t0 f0 _ ((HR0.out.below HB_9.out).drewN _) ((HR0'.out.below HB_9.out).drewN _) (by omega) (by omega)).mono ?_; rintro e w10 ⟨u, u', rfl, o, b⟩; have BT := Lib.hid (Below.of_drewN b); clear b; have HIt0 := Lib.hid o.turn.iv; have HIt0' := Lib.hid o.flip.iv; obtain ⟨At0, ct0, At0', ct0', rfl, rfl, -, -⟩ := o.form HL0.out HL0'.out; have HOt0_10 := Lib.hid o; clear o)
    | (go_at_call 18; refine (eqMap_same Ax0 Ax0' At0 At0' n0 n0' cx0 cx0' ct0 ct0' t0 f0 _ ((HOx0_9.out.below BT.out).turn.rd HL0.out) ((HOx0_9.out.below BT.out).flip.rd HL0'.out) (HOt0_10.out.turn.rd HL0.out) (HOt0_10.out.flip.rd HL0'.out) (by omega) (by omega)).mono ?_; rintro e w11 ⟨rfl, b⟩; have BE := Lib.hid b; clear b))
  have b := BT.out
  have HB_10 := Lib.hid (HB_9.out.trans (b.mono HB_9.out.size)); have HZ_10 := Lib.hid b.size
  have hx := HXp0_9.out.below b; clear cb_p0_0 cb_p0_1
  have cb_p0_0 := hx.cell0; have cb_p0_1 := hx.cell1
  have HXp0_10 := Lib.hid hx; clear hx
  have hx := HXvW_9.out.below b; clear cb_vW_0 cb_vW_1
  have cb_vW_0 := hx.cell0; have cb_vW_1 := hx.cell1
  have HXvW_10 := Lib.hid hx; clear hx
  have hx := HXvx0_9.out.below b; clear cb_vx0_0 cb_vx0_1
  have cb_vx0_0 := hx.cell0; have cb_vx0_1 := hx.cell1
  have HXvx0_10 := Lib.hid hx; clear hx
  have hx := HXvG_9.out.below b; clear cb_vG_0 cb_vG_1
  have cb_vG_0 := hx.cell0; have cb_vG_1 := hx.cell1
  have HXvG_10 := Lib.hid hx; clear hx
  have HOW_10 := Lib.hid (HOW_9.out.below b)
  have HOx0_10 := Lib.hid (HOx0_9.out.below b)
  have HOG_10 := Lib.hid (HOG_9.out.below b)
  clear b
  have b := BE.out
  have HB_11 := Lib.hid (HB_10.out.trans (b.mono HB_10.out.size)); have HZ_11 := Lib.hid b.size
  have hx := HXp0_10.out.below b; clear cb_p0_0 cb_p0_1
  have cb_p0_0 := hx.cell0; have cb_p0_1 := hx.cell1
  have HXp0_11 := Lib.hid hx; clear hx
  have hx := HXvW_10.out.below b; clear cb_vW_0 cb_vW_1
  have cb_vW_0 := hx.cell0; have cb_vW_1 := hx.cell1
  have HXvW_11 := Lib.hid hx; clear hx
  have hx := HXvx0_10.out.below b; clear cb_vx0_0 cb_vx0_1
  have cb_vx0_0 := hx.cell0; have cb_vx0_1 := hx.cell1
  have HXvx0_11 := Lib.hid hx; clear hx
  have hx := HXvG_10.out.below b; clear cb_vG_0 cb_vG_1
  have cb_vG_0 := hx.cell0; have cb_vG_1 := hx.cell1
  have HXvG_11 := Lib.hid hx; clear hx
  have HOW_11 := Lib.hid (HOW_10.out.below b)
  have HOx0_11 := Lib.hid (HOx0_10.out.below b)
  have HOG_11 := Lib.hid (HOG_10.out.below b)
  clear b
  have hk1 : decide ((1 : Int) + (n0 : Int) + (n0' : Int) < 0) = false := by simp; omega
  go_wp2_with fail
  refine (markMap_any w4.heap.size w5.heap.size w4.heap.size Ax0 Ax0' n0 n0' cx0 cx0' t0 f0 1 w11 HOx0_11.out HL0.out HL0'.out (by omega) (by omega) (by omega) (by omega) HIx0.out HIx0'.out (by have := HZ_0.out; have := HZ_1.out; have := HZ_2.out; have := HZ_3.out; have := HZE_4.out; have := HZ_4.out; have := HZ_5.out; have := HZE_6.out; have := HZ_6.out; have := HZ_7.out; have := HZE_8.out; have := HZ_8.out; have := HZ_9.out; have := HZ_10.out; have := HZ_11.out; omega)).mono ?_
  rintro e w12 ⟨rfl, o, hc⟩
  have HB_12 : Hid (Below w.heap.size w w12) := HB_11.out.trans (hc.below (by have := HZ_0.out; have := HZ_1.out; have := HZ_2.out; have := HZ_3.out; have := HZE_4.out; have := HZ_4.out; have := HZ_5.out; have := HZE_6.out; have := HZ_6.out; have := HZ_7.out; have := HZE_8.out; have := HZ_8.out; have := HZ_9.out; have := HZ_10.out; have := HZ_11.out; omega) HB_11.out.size); have HZ_12 := Lib.hid hc.size
  have hx := HXp0_11.out.chg hc (.inl (by have := HZ_0.out; have := HZ_1.out; have := HZ_2.out; have := HZ_3.out; have := HZE_4.out; have := HZ_4.out; have := HZ_5.out; have := HZE_6.out; have := HZ_6.out; have := HZ_7.out; have := HZE_8.out; have := HZ_8.out; have := HZ_9.out; have := HZ_10.out; have := HZ_11.out; have := HZ_12.out; omega)); clear cb_p0_0 cb_p0_1
  have cb_p0_0 := hx.cell0; have cb_p0_1 := hx.cell1
  have HXp0_12 := Lib.hid hx; clear hx
  have hx := HXvW_11.out.chg hc (.inl (by have := HZ_0.out; have := HZ_1.out; have := HZ_2.out; have := HZ_3.out; have := HZE_4.out; have := HZ_4.out; have := HZ_5.out; have := HZE_6.out; have := HZ_6.out; have := HZ_7.out; have := HZE_8.out; have := HZ_8.out; have := HZ_9.out; have := HZ_10.out; have := HZ_11.out; have := HZ_12.out; omega)); clear cb_vW_0 cb_vW_1
  have cb_vW_0 := hx.cell0; have cb_vW_1 := hx.cell1
  have HXvW_12 := Lib.hid hx; clear hx
  have hx := HXvx0_11.out.chg hc (.inr (by have := HZ_0.out; have := HZ_1.out; have := HZ_2.out; have := HZ_3.out; have := HZE_4.out; have := HZ_4.out; have := HZ_5.out; have := HZE_6.out; have := HZ_6.out; have := HZ_7.out; have := HZE_8.out; have := HZ_8.out; have := HZ_9.out; have := HZ_10.out; have := HZ_11.out; have := HZ_12.out; omega)); clear cb_vx0_0 cb_vx0_1
  have cb_vx0_0 := hx.cell0; have cb_vx0_1 := hx.cell1
  have HXvx0_12 := Lib.hid hx; clear hx
  have hx := HXvG_11.out.chg hc (.inr (by have := HZ_0.out; have := HZ_1.out; have := HZ_2.out; have := HZ_3.out; have := HZE_4.out; have := HZ_4.out; have := HZ_5.out; have := HZE_6.out; have := HZ_6.out; have := HZ_7.out; have := HZE_8.out; have := HZ_8.out; have := HZ_9.out; have := HZ_10.out; have := HZ_11.out; have := HZ_12.out; omega)); clear cb_vG_0 cb_vG_1
  have cb_vG_0 := hx.cell0; have cb_vG_1 := hx.cell1
  have HXvG_12 := Lib.hid hx; clear hx
  have HOW_12 := Lib.hid (HOW_11.out.chg hc (HIW.out.outside (.inl (by have := HZ_0.out; have := HZ_1.out; have := HZ_2.out; have := HZ_3.out; have := HZE_4.out; have := HZ_4.out; have := HZ_5.out; have := HZE_6.out; have := HZ_6.out; have := HZ_7.out; have := HZE_8.out; have := HZ_8.out; have := HZ_9.out; have := HZ_10.out; have := HZ_11.out; have := HZ_12.out; omega))) (HIW'.out.outside (.inl (by have := HZ_0.out; have := HZ_1.out; have := HZ_2.out; have := HZ_3.out; have := HZE_4.out; have := HZ_4.out; have := HZ_5.out; have := HZE_6.out; have := HZ_6.out; have := HZ_7.out; have := HZE_8.out; have := HZ_8.out; have := HZ_9.out; have := HZ_10.out; have := HZ_11.out; have := HZ_12.out; omega))))
  have HOG_12 := Lib.hid (HOG_11.out.chg hc (HIG.out.outside (.inr (by have := HZ_0.out; have := HZ_1.out; have := HZ_2.out; have := HZ_3.out; have := HZE_4.out; have := HZ_4.out; have := HZ_5.out; have := HZE_6.out; have := HZ_6.out; have := HZ_7.out; have := HZE_8.out; have := HZ_8.out; have := HZ_9.out; have := HZ_10.out; have := HZ_11.out; have := HZ_12.out; omega))) (HIG'.out.outside (.inr (by have := HZ_0.out; have := HZ_1.out; have := HZ_2.out; have := HZ_3.out; have := HZE_4.out; have := HZ_4.out; have := HZ_5.out; have := HZE_6.out; have := HZ_6.out; have := HZ_7.out; have := HZE_8.out; have := HZ_8.out; have := HZ_9.out; have := HZ_10.out; have := HZ_11.out; have := HZ_12.out; omega))))
  have HOx0_12 := Lib.hid o; clear hc o
  go_wp2_with fail
  refine (eqMap_same AG AG' AW AW' m m' cG cG' cW cW' yt yf w12 (HOG_12.out.turn.rd HMM.out) (HOG_12.out.flip.rd HMM'.out) (HOW_12.out.turn.rd HMM.out) (HOW_12.out.flip.rd HMM'.out) (by omega) (by omega)).mono ?_
  rintro e w13 ⟨rfl, b⟩
  have HB_13 := Lib.hid (HB_12.out.trans (b.mono HB_12.out.size)); have HZ_13 := Lib.hid b.size
  have hx := HXp0_12.out.below b; clear cb_p0_0 cb_p0_1
  have cb_p0_0 := hx.cell0; have cb_p0_1 := hx.cell1
  have HXp0_13 := Lib.hid hx; clear hx
  have hx := HXvW_12.out.below b; clear cb_vW_0 cb_vW_1
  have cb_vW_0 := hx.cell0; have cb_vW_1 := hx.cell1
  have HXvW_13 := Lib.hid hx; clear hx
  have hx := HXvx0_12.out.below b; clear cb_vx0_0 cb_vx0_1
  have cb_vx0_0 := hx.cell0; have cb_vx0_1 := hx.cell1
  have HXvx0_13 := Lib.hid hx; clear hx
  have hx := HXvG_12.out.below b; clear cb_vG_0 cb_vG_1
  have cb_vG_0 := hx.cell0; have cb_vG_1 := hx.cell1
  have HXvG_13 := Lib.hid hx; clear hx
  have HOW_13 := Lib.hid (HOW_12.out.below b)
  have HOx0_13 := Lib.hid (HOx0_12.out.below b)
  have HOG_13 := Lib.hid (HOG_12.out.below b)
  clear b
  go_wp2_with fail
  refine (markMap_any w6.heap.size w7.heap.size w6.heap.size AG AG' m m' cG cG' yt yf 1 w13 HOG_13.out HMM.out HMM'.out (by omega) (by omega) (by omega) (by omega) HIG.out HIG'.out (by have := HZ_0.out; have := HZ_1.out; have := HZ_2.out; have := HZ_3.out; have := HZE_4.out; have := HZ_4.out; have := HZ_5.out; have := HZE_6.out; have := HZ_6.out; have := HZ_7.out; have := HZE_8.out; have := HZ_8.out; have := HZ_9.out; have := HZ_10.out; have := HZ_11.out; have := HZ_12.out; have := HZ_13.out; omega)).mono ?_
  rintro e w14 ⟨rfl, o, hc⟩
  have HB_14 : Hid (Below w.heap.size w w14) := HB_13.out.trans (hc.below (by have := HZ_0.out; have := HZ_1.out; have := HZ_2.out; have := HZ_3.out; have := HZE_4.out; have := HZ_4.out; have := HZ_5.out; have := HZE_6.out; have := HZ_6.out; have := HZ_7.out; have := HZE_8.out; have := HZ_8.out; have := HZ_9.out; have := HZ_10.out; have := HZ_11.out; have := HZ_12.out; have := HZ_13.out; omega) HB_13.out.size); have HZ_14 := Lib.hid hc.size
  have hx := HXp0_13.out.chg hc (.inl (by have := HZ_0.out; have := HZ_1.out; have := HZ_2.out; have := HZ_3.out; have := HZE_4.out; have := HZ_4.out; have := HZ_5.out; have := HZE_6.out; have := HZ_6.out; have := HZ_7.out; have := HZE_8.out; have := HZ_8.out; have := HZ_9.out; have := HZ_10.out; have := HZ_11.out; have := HZ_12.out; have := HZ_13.out; have := HZ_14.out; omega)); clear cb_p0_0 cb_p0_1
  have cb_p0_0 := hx.cell0; have cb_p0_1 := hx.cell1
  have HXp0_14 := Lib.hid hx; clear hx
  have hx := HXvW_13.out.chg hc (.inl (by have := HZ_0.out; have := HZ_1.out; have := HZ_2.out; have := HZ_3.out; have := HZE_4.out; have := HZ_4.out; have := HZ_5.out; have := HZE_6.out; have := HZ_6.out; have := HZ_7.out; have := HZE_8.out; have := HZ_8.out; have := HZ_9.out; have := HZ_10.out; have := HZ_11.out; have := HZ_12.out; have := HZ_13.out; have := HZ_14.out; omega)); clear cb_vW_0 cb_vW_1
  have cb_vW_0 := hx.cell0; have cb_vW_1 := hx.cell1
  have HXvW_14 := Lib.hid hx; clear hx
  have hx := HXvx0_13.out.chg hc (.inl (by have := HZ_0.out; have := HZ_1.out; have := HZ_2.out; have := HZ_3.out; have := HZE_4.out; have := HZ_4.out; have := HZ_5.out; have := HZE_6.out; have := HZ_6.out; have := HZ_7.out; have := HZE_8.out; have := HZ_8.out; have := HZ_9.out; have := HZ_10.out; have := HZ_11.out; have := HZ_12.out; have := HZ_13.out; have := HZ_14.out; omega)); clear cb_vx0_0 cb_vx0_1
  have cb_vx0_0 := hx.cell0; have cb_vx0_1 := hx.cell1
  have HXvx0_14 := Lib.hid hx; clear hx
  have hx := HXvG_13.out.chg hc (.inr (by have := HZ_0.out; have := HZ_1.out; have := HZ_2.out; have := HZ_3.out; have := HZE_4.out; have := HZ_4.out; have := HZ_5.out; have := HZE_6.out; have := HZ_6.out; have := HZ_7.out; have := HZE_8.out; have := HZ_8.out; have := HZ_9.out; have := HZ_10.out; have := HZ_11.out; have := HZ_12.out; have := HZ_13.out; have := HZ_14.out; omega)); clear cb_vG_0 cb_vG_1
  have cb_vG_0 := hx.cell0; have cb_vG_1 := hx.cell1
  have HXvG_14 := Lib.hid hx; clear hx
  have HOW_14 := Lib.hid (HOW_13.out.chg hc (HIW.out.outside (.inl (by have := HZ_0.out; have := HZ_1.out; have := HZ_2.out; have := HZ_3.out; have := HZE_4.out; have := HZ_4.out; have := HZ_5.out; have := HZE_6.out; have := HZ_6.out; have := HZ_7.out; have := HZE_8.out; have := HZ_8.out; have := HZ_9.out; have := HZ_10.out; have := HZ_11.out; have := HZ_12.out; have := HZ_13.out; have := HZ_14.out; omega))) (HIW'.out.outside (.inl (by have := HZ_0.out; have := HZ_1.out; have := HZ_2.out; have := HZ_3.out; have := HZE_4.out; have := HZ_4.out; have := HZ_5.out; have := HZE_6.out; have := HZ_6.out; have := HZ_7.out; have := HZE_8.out; have := HZ_8.out; have := HZ_9.out; have := HZ_10.out; have := HZ_11.out; have := HZ_12.out; have := HZ_13.out; have := HZ_14.out; omega))))
  have HOx0_14 := Lib.hid (HOx0_13.out.chg hc (HIx0.out.outside (.inl (by have := HZ_0.out; have := HZ_1.out; have := HZ_2.out; have := HZ_3.out; have := HZE_4.out; have := HZ_4.out; have := HZ_5.out; have := HZE_6.out; have := HZ_6.out; have := HZ_7.out; have := HZE_8.out; have := HZ_8.out; have := HZ_9.out; have := HZ_10.out; have := HZ_11.out; have := HZ_12.out; have := HZ_13.out; have := HZ_14.out; omega))) (HIx0'.out.outside (.inl (by have := HZ_0.out; have := HZ_1.out; have := HZ_2.out; have := HZ_3.out; have := HZE_4.out; have := HZ_4.out; have := HZ_5.out; have := HZE_6.out; have := HZ_6.out; have := HZ_7.out; have := HZE_8.out; have := HZ_8.out; have := HZ_9.out; have := HZ_10.out; have := HZ_11.out; have := HZ_12.out; have := HZ_13.out; have := HZ_14.out; omega))))
  have HOG_14 := Lib.hid o; clear hc o
  have hk2 : decide ((1 : Int) + (m : Int) + (m' : Int) < 0) = false := by simp; omega
  have hk3 : ((1 : Int) + (m : Int) + (m' : Int) != (1 : Int) + (m : Int) + (m' : Int)) = false := by simp
  go_wp2_with fail
  refine (heldMap_any AG AG' m m' cG cG' 1 w14 (HOG_14.out.turn.rd (marks_len _ _)) (HOG_14.out.flip.rd (marks_len _ _)) (by omega) (by omega) (by omega) (by omega)).mono ?_
  rintro e w15 ⟨rfl, b⟩
  have HB_15 := Lib.hid (HB_14.out.trans (b.mono HB_14.out.size)); have HZ_15 := Lib.hid b.size
  have hx := HXp0_14.out.below b; clear cb_p0_0 cb_p0_1
  have cb_p0_0 := hx.cell0; have cb_p0_1 := hx.cell1
  have HXp0_15 := Lib.hid hx; clear hx
  have hx := HXvW_14.out.below b; clear cb_vW_0 cb_vW_1
  have cb_vW_0 := hx.cell0; have cb_vW_1 := hx.cell1
  have HXvW_15 := Lib.hid hx; clear hx
  have hx := HXvx0_14.out.below b; clear cb_vx0_0 cb_vx0_1
  have cb_vx0_0 := hx.cell0; have cb_vx0_1 := hx.cell1
  have HXvx0_15 := Lib.hid hx; clear hx
  have hx := HXvG_14.out.below b; clear cb_vG_0 cb_vG_1
  have cb_vG_0 := hx.cell0; have cb_vG_1 := hx.cell1
  have HXvG_15 := Lib.hid hx; clear hx
  have HOW_15 := Lib.hid (HOW_14.out.below b)
  have HOx0_15 := Lib.hid (HOx0_14.out.below b)
  have HOG_15 := Lib.hid (HOG_14.out.below b)
  clear b
  go_wp2_with fail
  refine (toMap_any A0 A0' n0 n0' c0 c0' t0 f0 w15 (HR0.out.below HB_15.out) (HR0'.out.below HB_15.out) (by omega) (by omega)).mono ?_
  rintro e w16 ⟨u, u', rfl, o, b⟩
  have HIu0 := Lib.hid o.turn.iv; have HIu0' := Lib.hid o.flip.iv
  obtain ⟨Au0, cu0, Au0', cu0', rfl, rfl, -, -⟩ := o.form HL0.out HL0'.out
  have HOu0_16 := Lib.hid o; clear o
  have HB_16 := Lib.hid (HB_15.out.trans (b.mono HB_15.out.size)); have HZ_16 := Lib.hid b.size
  have hx := HXp0_15.out.below b; clear cb_p0_0 cb_p0_1
  have cb_p0_0 := hx.cell0; have cb_p0_1 := hx.cell1
  have HXp0_16 := Lib.hid hx; clear hx
  have hx := HXvW_15.out.below b; clear cb_vW_0 cb_vW_1
  have cb_vW_0 := hx.cell0; have cb_vW_1 := hx.cell1
  have HXvW_16 := Lib.hid hx; clear hx
  have hx := HXvx0_15.out.below b; clear cb_vx0_0 cb_vx0_1
  have cb_vx0_0 := hx.cell0; have cb_vx0_1 := hx.cell1
  have HXvx0_16 := Lib.hid hx; clear hx
  have hx := HXvG_15.out.below b; clear cb_vG_0 cb_vG_1
  have cb_vG_0 := hx.cell0; have cb_vG_1 := hx.cell1
  have HXvG_16 := Lib.hid hx; clear hx
  have HOW_16 := Lib.hid (HOW_15.out.below b)
  have HOG_16 := Lib.hid (HOG_15.out.below b)
  clear b
  go_wp2_with fail
  refine (impl_cnR w16 Au0 Au0' n0 n0' cu0 cu0' t0 f0 (HOu0_16.out.turn.rd HL0.out) (HOu0_16.out.flip.rd HL0'.out) (by omega) (by omega) x1 HW1.out HRR.out).mono ?_
  rintro e w17 ⟨u, u', rfl, o, b⟩
  have HIH := Lib.hid o.turn.iv; have HIH' := Lib.hid o.flip.iv
  obtain ⟨AH, cH, AH', cH', rfl, rfl, -, -⟩ := o.form HMM.out HMM'.out
  have HOH_17 := Lib.hid o; clear o
  have HB_17 := Lib.hid (HB_16.out.trans (b.mono HB_16.out.size)); have HZ_17 := Lib.hid b.size
  have hx := HXp0_16.out.below b; clear cb_p0_0 cb_p0_1
  have cb_p0_0 := hx.cell0; have cb_p0_1 := hx.cell1
  have HXp0_17 := Lib.hid hx; clear hx
  have hx := HXvW_16.out.below b; clear cb_vW_0 cb_vW_1
  have cb_vW_0 := hx.cell0; have cb_vW_1 := hx.cell1
  have HXvW_17 := Lib.hid hx; clear hx
  have hx := HXvx0_16.out.below b; clear cb_vx0_0 cb_vx0_1
  have cb_vx0_0 := hx.cell0; have cb_vx0_1 := hx.cell1
  have HXvx0_17 := Lib.hid hx; clear hx
  have hx := HXvG_16.out.below b; clear cb_vG_0 cb_vG_1
  have cb_vG_0 := hx.cell0; have cb_vG_1 := hx.cell1
  have HXvG_17 := Lib.hid hx; clear hx
  have HOW_17 := Lib.hid (HOW_16.out.below b)
  have HOG_17 := Lib.hid (HOG_16.out.below b)
  have HOu0_17 := Lib.hid (HOu0_16.out.below b)
  clear b
  obtain ⟨w18, hW18, hx, b, hz⟩ := Box.local_ w17 28 (.slice AH m cH) (.slice AH' m' cH')
  have HXvH_18 := Lib.hid hx; have HZE_18 := Lib.hid hz; clear hx hz
  have HB_18 := Lib.hid (HB_17.out.trans (b.mono HB_17.out.size)); have HZ_18 := Lib.hid b.size
  have hx := HXp0_17.out.below b; clear cb_p0_0 cb_p0_1
  have cb_p0_0 := hx.cell0; have cb_p0_1 := hx.cell1
  have HXp0_18 := Lib.hid hx; clear hx
  have hx := HXvW_17.out.below b; clear cb_vW_0 cb_vW_1
  have cb_vW_0 := hx.cell0; have cb_vW_1 := hx.cell1
  have HXvW_18 := Lib.hid hx; clear hx
  have hx := HXvx0_17.out.below b; clear cb_vx0_0 cb_vx0_1
  have cb_vx0_0 := hx.cell0; have cb_vx0_1 := hx.cell1
  have HXvx0_18 := Lib.hid hx; clear hx
  have hx := HXvG_17.out.below b; clear cb_vG_0 cb_vG_1
  have cb_vG_0 := hx.cell0; have cb_vG_1 := hx.cell1
  have HXvG_18 := Lib.hid hx; clear hx
  have HOW_18 := Lib.hid (HOW_17.out.below b)
  have HOG_18 := Lib.hid (HOG_17.out.below b)
  have HOu0_18 := Lib.hid (HOu0_17.out.below b)
  have HOH_18 := Lib.hid (HOH_17.out.below b)
  clear b
  have cb_vH_0 := HXvH_18.out.cell0; have cb_vH_1 := HXvH_18.out.cell1
  go_wp2_with fail
  refine (eqMap_same AH AH' AW AW' m m' cH cH' cW cW' yt yf w18 (HOH_18.out.turn.rd HMM.out) (HOH_18.out.flip.rd HMM'.out) (HOW_18.out.turn.rd HMM.out) (HOW_18.out.flip.rd HMM'.out) (by omega) (by omega)).mono ?_
  rintro e w19 ⟨rfl, b⟩
  have HB_19 := Lib.hid (HB_18.out.trans (b.mono HB_18.out.size)); have HZ_19 := Lib.hid b.size
  have hx := HXp0_18.out.below b; clear cb_p0_0 cb_p0_1
  have cb_p0_0 := hx.cell0; have cb_p0_1 := hx.cell1
  have HXp0_19 := Lib.hid hx; clear hx
  have hx := HXvW_18.out.below b; clear cb_vW_0 cb_vW_1
  have cb_vW_0 := hx.cell0; have cb_vW_1 := hx.cell1
  have HXvW_19 := Lib.hid hx; clear hx
  have hx := HXvx0_18.out.below b; clear cb_vx0_0 cb_vx0_1
  have cb_vx0_0 := hx.cell0; have cb_vx0_1 := hx.cell1
  have HXvx0_19 := Lib.hid hx; clear hx
  have hx := HXvG_18.out.below b; clear cb_vG_0 cb_vG_1
  have cb_vG_0 := hx.cell0; have cb_vG_1 := hx.cell1
  have HXvG_19 := Lib.hid hx; clear hx
  have hx := HXvH_18.out.below b; clear cb_vH_0 cb_vH_1
  have cb_vH_0 := hx.cell0; have cb_vH_1 := hx.cell1
  have HXvH_19 := Lib.hid hx; clear hx
  have HOW_19 := Lib.hid (HOW_18.out.below b)
  have HOG_19 := Lib.hid (HOG_18.out.below b)
  have HOu0_19 := Lib.hid (HOu0_18.out.below b)
  have HOH_19 := Lib.hid (HOH_18.out.below b)
  clear b
  go_wp2_with fail
  refine (heldMap_any AG AG' m m' cG cG' 1 w19 (HOG_19.out.turn.rd (marks_len _ _)) (HOG_19.out.flip.rd (marks_len _ _)) (by omega) (by omega) (by omega) (by omega)).mono ?_
  rintro e w20 ⟨rfl, b⟩
  have HB_20 := Lib.hid (HB_19.out.trans (b.mono HB_19.out.size)); have HZ_20 := Lib.hid b.size
  have hx := HXp0_19.out.below b; clear cb_p0_0 cb_p0_1
  have cb_p0_0 := hx.cell0; have cb_p0_1 := hx.cell1
  have HXp0_20 := Lib.hid hx; clear hx
  have hx := HXvW_19.out.below b; clear cb_vW_0 cb_vW_1
  have cb_vW_0 := hx.cell0; have cb_vW_1 := hx.cell1
  have HXvW_20 := Lib.hid hx; clear hx
  have hx := HXvx0_19.out.below b; clear cb_vx0_0 cb_vx0_1
  have cb_vx0_0 := hx.cell0; have cb_vx0_1 := hx.cell1
  have HXvx0_20 := Lib.hid hx; clear hx
  have hx := HXvG_19.out.below b; clear cb_vG_0 cb_vG_1
  have cb_vG_0 := hx.cell0; have cb_vG_1 := hx.cell1
  have HXvG_20 := Lib.hid hx; clear hx
  have hx := HXvH_19.out.below b; clear cb_vH_0 cb_vH_1
  have cb_vH_0 := hx.cell0; have cb_vH_1 := hx.cell1
  have HXvH_20 := Lib.hid hx; clear hx
  have HOW_20 := Lib.hid (HOW_19.out.below b)
  have HOG_20 := Lib.hid (HOG_19.out.below b)
  have HOu0_20 := Lib.hid (HOu0_19.out.below b)
  have HOH_20 := Lib.hid (HOH_19.out.below b)
  clear b
  go_wp2_with fail
  go_ret
  exact ⟨rfl, HB_20.out⟩

end Go.Proofs.Ytpaohaodnchfkaa
