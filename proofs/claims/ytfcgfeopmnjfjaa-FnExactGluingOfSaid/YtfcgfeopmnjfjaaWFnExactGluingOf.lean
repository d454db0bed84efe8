/-
  FnExactGluingOf: the walk of the law: the model and the program are called by their contracts.
-/
import Derived.Test.YtfcgfeopmnjfjaaGluOI
import Derived.Test.YtfcgfeopmnjfjaaKitM
import Derived.Deep.RegionHeld3
namespace Go.Proofs.Ytfcgfeopmnjfjaa
open Go.RowKit

set_option maxRecDepth 100000 in
set_option maxHeartbeats 3200000 in
theorem walk_FnExactGluingOf (A0 A0' : Option Addr) (n0 n0' c0 c0' : Nat) (t0 f0 : List Int) (x1 : Int) (w : World) (hr0 : Rd w A0 n0 t0) (hr0' : Rd w A0' n0' f0) (hm0 : n0 ≤ maxLen) (hm0' : n0' ≤ maxLen) (hw1 : (Lit.int .i64 x1).wf = true) :
    Calls Try.prog 8 #[.agg #[.slice A0 n0 c0, .slice A0' n0' c0'], .int .i64 x1] w fun e w' => e = .returned (.bool true) ∧ Below w.heap.size w w' := by
  have HR0 := Lib.hid hr0; have HR0' := Lib.hid hr0'; have HL0 := Lib.hid hr0.1; have HL0' := Lib.hid hr0'.1; clear hr0 hr0'
  have HW1 := Lib.hid hw1; clear hw1
  obtain ⟨w0, hW0⟩ : ∃ w0, (w.alloc (.cells #[.slice A0 n0 c0, .slice A0' n0' c0'] 32)) = w0 := ⟨_, rfl⟩
  have hx : Box w0 (w.heap.size) 32 (.slice A0 n0 c0) (.slice A0' n0' c0') := by rw [← hW0]; have h := Box.new w 32 (.slice A0 n0 c0) (.slice A0' n0' c0'); exact h
  have cb_p0_0 := hx.cell0; have cb_p0_1 := hx.cell1
  have HXp0_0 := Lib.hid hx; clear hx
  have HB_0 : Hid (Below w.heap.size w w0) := by rw [← hW0]; exact (Below.refl _ _).alloc (by simp) _
  have HZ_0 : Hid (w.heap.size + 1 = w0.heap.size) := by rw [Hid, ← hW0]; simp
  obtain ⟨r0, hr⟩ : ∃ r, szOf (1048576) n0 n0' = r := ⟨_, rfl⟩
  by_cases hs0 : r0 < 0
  · have E0 := Lib.hid hr; clear hr
    have hsd0 : decide (r0 < 0) = true := by simp [hs0]
    go_enter Try.func8, Try.ntmps8
    go_wp2_with fail
    refine (szMap_any A0 A0' n0 n0' c0 c0' (1048576) w0 hm0 hm0' (by omega) (by omega) E0.out).mono ?_
    rintro e w1 ⟨rfl, b⟩
    have HB_1 := Lib.hid (HB_0.out.trans (b.mono HB_0.out.size)); clear b
    go_wp2_with fail
    go_ret
    exact ⟨rfl, HB_1.out⟩
  obtain ⟨hq0, hv0⟩ := szOf_fits (m := 1048576) (n := n0) (n' := n0') (by omega) (by rw [hr]; exact hs0)
  rw [hv0] at hr; clear hv0
  have E0' := Lib.hid hr
  have hsd0 : decide (r0 < 0) = false := by simp; omega
  have E0 : Hid (szOf (1048576) n0 n0' = r0) := by rw [Hid, szOf_eq (by omega)]; exact hr
  clear hr
  obtain ⟨ok, ys, hR⟩ : ∃ ok ys, gofR t0 f0 x1 = (ok, ys) := ⟨_, _, rfl⟩
  obtain ⟨m, hm⟩ : ∃ m, ys.length = m := ⟨_, rfl⟩
  have hm12 : m ≤ 12 := hm ▸ gofR_len hR
  have HRR := Lib.hid hR; have HMM := Lib.hid hm; clear hR hm
  have hok : (ok != ok) = false := by simp
  have hye := eqB_refl ys
  go_enter Try.func8, Try.ntmps8
  go_wp2_with fail
  refine (szMap_any A0 A0' n0 n0' c0 c0' (1048576) w0 hm0 hm0' (by omega) (by omega) E0.out).mono ?_
  rintro e w1 ⟨rfl, b⟩
  have HB_1 := Lib.hid (HB_0.out.trans (b.mono HB_0.out.size)); have HZ_1 := Lib.hid b.size
  have hx := HXp0_0.out.below b; clear cb_p0_0 cb_p0_1
  have cb_p0_0 := hx.cell0; have cb_p0_1 := hx.cell1
  have HXp0_1 := Lib.hid hx; clear hx
  clear b
  go_wp2_with fail
  refine (toMap_any A0 A0' n0 n0' c0 c0' t0 f0 w1 (HR0.out.below HB_1.out) (HR0'.out.below HB_1.out) (by omega) (by omega)).mono ?_
  rintro e w2 ⟨u, u', rfl, o, b⟩
  have HIs0 := Lib.hid o.turn.iv; have HIs0' := Lib.hid o.flip.iv
  obtain ⟨As0, cs0, As0', cs0', rfl, rfl, -, -⟩ := o.form HL0.out HL0'.out
  have HOs0_2 := Lib.hid o; clear o
  have HB_2 := Lib.hid (HB_1.out.trans (b.mono HB_1.out.size)); have HZ_2 := Lib.hid b.size
  have hx := HXp0_1.out.below b; clear cb_p0_0 cb_p0_1
  have cb_p0_0 := hx.cell0; have cb_p0_1 := hx.cell1
  have HXp0_2 := Lib.hid hx; clear hx
  clear b
  go_wp2_with fail
  refine (spec_gofR w2 As0 As0' n0 n0' cs0 cs0' t0 f0 (HOs0_2.out.turn.rd HL0.out) (HOs0_2.out.flip.rd HL0'.out) (by omega) (by omega) x1 HW1.out HRR.out).mono ?_
  rintro e w3 ⟨v, rfl, o, b⟩
  have HIW := Lib.hid o.iv
  obtain ⟨AW, cW, rfl, -, -⟩ := o.form' HMM.out
  have HOW_3 := Lib.hid o; clear o
  have HB_3 := Lib.hid (HB_2.out.trans (b.mono HB_2.out.size)); have HZ_3 := Lib.hid b.size
  have hx := HXp0_2.out.below b; clear cb_p0_0 cb_p0_1
  have cb_p0_0 := hx.cell0; have cb_p0_1 := hx.cell1
  have HXp0_3 := Lib.hid hx; clear hx
  have HOs0_3 := Lib.hid (HOs0_2.out.below b)
  clear b
  go_wp2_with fail
  refine (toMap_any A0 A0' n0 n0' c0 c0' t0 f0 w3 (HR0.out.below HB_3.out) (HR0'.out.below HB_3.out) (by omega) (by omega)).mono ?_
  rintro e w4 ⟨u, u', rfl, o, b⟩
  have HIx0 := Lib.hid o.turn.iv; have HIx0' := Lib.hid o.flip.iv
  obtain ⟨Ax0, cx0, Ax0', cx0', rfl, rfl, -, -⟩ := o.form HL0.out HL0'.out
  have HOx0_4 := Lib.hid o; clear o
  have HB_4 := Lib.hid (HB_3.out.trans (b.mono HB_3.out.size)); have HZ_4 := Lib.hid b.size
  have hx := HXp0_3.out.below b; clear cb_p0_0 cb_p0_1
  have cb_p0_0 := hx.cell0; have cb_p0_1 := hx.cell1
  have HXp0_4 := Lib.hid hx; clear hx
  have HOW_4 := Lib.hid (HOW_3.out.below b)
  clear b
  obtain ⟨w5, hW5, hx, b, hz⟩ := Box.local_ w4 36 (.slice Ax0 n0 cx0) (.slice Ax0' n0' cx0')
  have HXvx0_5 := Lib.hid hx; have HZE_5 := Lib.hid hz; clear hx hz
  have HB_5 := Lib.hid (HB_4.out.trans (b.mono HB_4.out.size)); have HZ_5 := Lib.hid b.size
  have hx := HXp0_4.out.below b; clear cb_p0_0 cb_p0_1
  have cb_p0_0 := hx.cell0; have cb_p0_1 := hx.cell1
  have HXp0_5 := Lib.hid hx; clear hx
  have HOW_5 := Lib.hid (HOW_4.out.below b)
  have HOx0_5 := Lib.hid (HOx0_4.out.below b)
  clear b
  have cb_vx0_0 := HXvx0_5.out.cell0; have cb_vx0_1 := HXvx0_5.out.cell1
  go_wp2_with fail
  refine (impl_gofR w5 Ax0 Ax0' n0 n0' cx0 cx0' t0 f0 (HOx0_5.out.turn.rd HL0.out) (HOx0_5.out.flip.rd HL0'.out) (by omega) (by omega) x1 HW1.out HRR.out).mono ?_
  rintro e w6 ⟨v, rfl, o, b⟩
  have HIG := Lib.hid o.iv
  obtain ⟨AG, cG, rfl, -, -⟩ := o.form' HMM.out
  have HOG_6 := Lib.hid o; clear o
  have HB_6 := Lib.hid (HB_5.out.trans (b.mono HB_5.out.size)); have HZ_6 := Lib.hid b.size
  have hx := HXp0_5.out.below b; clear cb_p0_0 cb_p0_1
  have cb_p0_0 := hx.cell0; have cb_p0_1 := hx.cell1
  have HXp0_6 := Lib.hid hx; clear hx
  have hx := HXvx0_5.out.below b; clear cb_vx0_0 cb_vx0_1
  have cb_vx0_0 := hx.cell0; have cb_vx0_1 := hx.cell1
  have HXvx0_6 := Lib.hid hx; clear hx
  have HOW_6 := Lib.hid (HOW_5.out.below b)
  have HOx0_6 := Lib.hid (HOx0_5.out.below b)
  clear b
  go_wp2_with fail
  refine (eqIntS_b AG AW m m cG cW ys ys w6 (HOG_6.out.rd HMM.out) (HOW_6.out.rd HMM.out) (by unfold maxLen; omega) (by unfold maxLen; omega)).mono ?_
  rintro e w7 ⟨rfl, b⟩
  have HB_7 := Lib.hid (HB_6.out.trans (b.mono HB_6.out.size)); have HZ_7 := Lib.hid b.size
  have hx := HXp0_6.out.below b; clear cb_p0_0 cb_p0_1
  have cb_p0_0 := hx.cell0; have cb_p0_1 := hx.cell1
  have HXp0_7 := Lib.hid hx; clear hx
  have hx := HXvx0_6.out.below b; clear cb_vx0_0 cb_vx0_1
  have cb_vx0_0 := hx.cell0; have cb_vx0_1 := hx.cell1
  have HXvx0_7 := Lib.hid hx; clear hx
  have HOW_7 := Lib.hid (HOW_6.out.below b)
  have HOx0_7 := Lib.hid (HOx0_6.out.below b)
  have HOG_7 := Lib.hid (HOG_6.out.below b)
  clear b
  go_wp2_with fail
  go_region_held3 (fun w' => w'.cell? ⟨w4.heap.size, 0, none⟩ = some (.slice Ax0 n0 cx0) ∧ w'.cell? ⟨w4.heap.size, 1, none⟩ = some (.slice Ax0' n0' cx0') ∧ w'.cell? ⟨w.heap.size, 0, none⟩ = some (.slice A0 n0 c0) ∧ w'.cell? ⟨w.heap.size, 1, none⟩ = some (.slice A0' n0' c0')) (first | go_keep | exact ⟨(HXvx0_7.out.below BT.out).cell0, (HXvx0_7.out.below BT.out).cell1, (HXp0_7.out.below BT.out).cell0, (HXp0_7.out.below BT.out).cell1⟩ | exact ⟨((HXvx0_7.out.below BT.out).below BE.out).cell0, ((HXvx0_7.out.below BT.out).below BE.out).cell1, ((HXp0_7.out.below BT.out).below BE.out).cell0, ((HXp0_7.out.below BT.out).below BE.out).cell1⟩) (first
    | (go_at_call 32; refine (toMap_any A0 A0' n0 n0' c0 c0' t0 f0 _ ((HR0.out.below HB_7.out).drewN _) ((HR0'.out.below HB_7.out).drewN _) (by omega) (by omega)).mono ?_; rintro e w8 ⟨u, u', rfl, o, b⟩; have BT := Lib.hid (Below.of_drewN b); clear b; have HIt0 := Lib.hid o.turn.iv; have HIt0' := Lib.hid o.flip.iv; obtain ⟨At0, ct0, At0', ct0', rfl, rfl, -, -⟩ := o.form HL0.out HL0'.out; have HOt0_8 := Lib.hid o; clear o)
    | (go_at_call 35; refine (eqMap_same Ax0 Ax0' At0 At0' n0 n0' cx0 cx0' ct0 ct0' t0 f0 _ ((HOx0_7.out.below BT.out).turn.rd HL0.out) ((HOx0_7.out.below BT.out).flip.rd HL0'.out) (HOt0_8.out.turn.rd HL0.out) (HOt0_8.out.flip.rd HL0'.out) (by omega) (by omega)).mono ?_; rintro e w9 ⟨rfl, b⟩; have BE := Lib.hid b; clear b))
  have b := BT.out
  have HB_8 := Lib.hid (HB_7.out.trans (b.mono HB_7.out.size)); have HZ_8 := Lib.hid b.size
  have hx := HXp0_7.out.below b; clear cb_p0_0 cb_p0_1
  have cb_p0_0 := hx.cell0; have cb_p0_1 := hx.cell1
  have HXp0_8 := Lib.hid hx; clear hx
  have hx := HXvx0_7.out.below b; clear cb_vx0_0 cb_vx0_1
  have cb_vx0_0 := hx.cell0; have cb_vx0_1 := hx.cell1
  have HXvx0_8 := Lib.hid hx; clear hx
  have HOW_8 := Lib.hid (HOW_7.out.below b)
  have HOx0_8 := Lib.hid (HOx0_7.out.below b)
  have HOG_8 := Lib.hid (HOG_7.out.below b)
  clear b
  have b := BE.out
  have HB_9 := Lib.hid (HB_8.out.trans (b.mono HB_8.out.size)); have HZ_9 := Lib.hid b.size
  have hx := HXp0_8.out.below b; clear cb_p0_0 cb_p0_1
  have cb_p0_0 := hx.cell0; have cb_p0_1 := hx.cell1
  have HXp0_9 := Lib.hid hx; clear hx
  have hx := HXvx0_8.out.below b; clear cb_vx0_0 cb_vx0_1
  have cb_vx0_0 := hx.cell0; have cb_vx0_1 := hx.cell1
  have HXvx0_9 := Lib.hid hx; clear hx
  have HOW_9 := Lib.hid (HOW_8.out.below b)
  have HOx0_9 := Lib.hid (HOx0_8.out.below b)
  have HOG_9 := Lib.hid (HOG_8.out.below b)
  clear b
  have hk1 : decide ((1 : Int) + (n0 : Int) + (n0' : Int) < 0) = false := by simp; omega
  go_wp2_with fail
  refine (markMap_any w3.heap.size w4.heap.size w3.heap.size Ax0 Ax0' n0 n0' cx0 cx0' t0 f0 1 w9 HOx0_9.out HL0.out HL0'.out (by omega) (by omega) (by omega) (by omega) HIx0.out HIx0'.out (by have := HZ_0.out; have := HZ_1.out; have := HZ_2.out; have := HZ_3.out; have := HZ_4.out; have := HZE_5.out; have := HZ_5.out; have := HZ_6.out; have := HZ_7.out; have := HZ_8.out; have := HZ_9.out; omega)).mono ?_
  rintro e w10 ⟨rfl, o, hc⟩
  have HB_10 : Hid (Below w.heap.size w w10) := HB_9.out.trans (hc.below (by have := HZ_0.out; have := HZ_1.out; have := HZ_2.out; have := HZ_3.out; have := HZ_4.out; have := HZE_5.out; have := HZ_5.out; have := HZ_6.out; have := HZ_7.out; have := HZ_8.out; have := HZ_9.out; omega) HB_9.out.size); have HZ_10 := Lib.hid hc.size
  have hx := HXp0_9.out.chg hc (.inl (by have := HZ_0.out; have := HZ_1.out; have := HZ_2.out; have := HZ_3.out; have := HZ_4.out; have := HZE_5.out; have := HZ_5.out; have := HZ_6.out; have := HZ_7.out; have := HZ_8.out; have := HZ_9.out; have := HZ_10.out; omega)); clear cb_p0_0 cb_p0_1
  have cb_p0_0 := hx.cell0; have cb_p0_1 := hx.cell1
  have HXp0_10 := Lib.hid hx; clear hx
  have hx := HXvx0_9.out.chg hc (.inr (by have := HZ_0.out; have := HZ_1.out; have := HZ_2.out; have := HZ_3.out; have := HZ_4.out; have := HZE_5.out; have := HZ_5.out; have := HZ_6.out; have := HZ_7.out; have := HZ_8.out; have := HZ_9.out; have := HZ_10.out; omega)); clear cb_vx0_0 cb_vx0_1
  have cb_vx0_0 := hx.cell0; have cb_vx0_1 := hx.cell1
  have HXvx0_10 := Lib.hid hx; clear hx
  have HOW_10 := Lib.hid (HOW_9.out.chg hc (HIW.out.outside (.inl (by have := HZ_0.out; have := HZ_1.out; have := HZ_2.out; have := HZ_3.out; have := HZ_4.out; have := HZE_5.out; have := HZ_5.out; have := HZ_6.out; have := HZ_7.out; have := HZ_8.out; have := HZ_9.out; have := HZ_10.out; omega))))
  have HOG_10 := Lib.hid (HOG_9.out.chg hc (HIG.out.outside (.inr (by have := HZ_0.out; have := HZ_1.out; have := HZ_2.out; have := HZ_3.out; have := HZ_4.out; have := HZE_5.out; have := HZ_5.out; have := HZ_6.out; have := HZ_7.out; have := HZ_8.out; have := HZ_9.out; have := HZ_10.out; omega))))
  have HOx0_10 := Lib.hid o; clear hc o
  go_wp2_with fail
  refine (eqIntS_b AG AW m m cG cW ys ys w10 (HOG_10.out.rd HMM.out) (HOW_10.out.rd HMM.out) (by unfold maxLen; omega) (by unfold maxLen; omega)).mono ?_
  rintro e w11 ⟨rfl, b⟩
  have HB_11 := Lib.hid (HB_10.out.trans (b.mono HB_10.out.size)); have HZ_11 := Lib.hid b.size
  have hx := HXp0_10.out.below b; clear cb_p0_0 cb_p0_1
  have cb_p0_0 := hx.cell0; have cb_p0_1 := hx.cell1
  have HXp0_11 := Lib.hid hx; clear hx
  have hx := HXvx0_10.out.below b; clear cb_vx0_0 cb_vx0_1
  have cb_vx0_0 := hx.cell0; have cb_vx0_1 := hx.cell1
  have HXvx0_11 := Lib.hid hx; clear hx
  have HOW_11 := Lib.hid (HOW_10.out.below b)
  have HOx0_11 := Lib.hid (HOx0_10.out.below b)
  have HOG_11 := Lib.hid (HOG_10.out.below b)
  clear b
  go_wp2_with fail
  refine (markIntS_any w5.heap.size AG m cG ys 1 w11 HOG_11.out HMM.out (by omega) (by omega) (by omega)).mono ?_
  rintro e w12 ⟨rfl, o, hg⟩
  have hc : Chg w5.heap.size w6.heap.size w11 w12 := Chg.of_grown hg (fun k hk => HIG.out k hk); clear hg
  have HB_12 : Hid (Below w.heap.size w w12) := HB_11.out.trans (hc.below (by have := HZ_0.out; have := HZ_1.out; have := HZ_2.out; have := HZ_3.out; have := HZ_4.out; have := HZE_5.out; have := HZ_5.out; have := HZ_6.out; have := HZ_7.out; have := HZ_8.out; have := HZ_9.out; have := HZ_10.out; have := HZ_11.out; omega) HB_11.out.size); have HZ_12 := Lib.hid hc.size
  have hx := HXp0_11.out.chg hc (.inl (by have := HZ_0.out; have := HZ_1.out; have := HZ_2.out; have := HZ_3.out; have := HZ_4.out; have := HZE_5.out; have := HZ_5.out; have := HZ_6.out; have := HZ_7.out; have := HZ_8.out; have := HZ_9.out; have := HZ_10.out; have := HZ_11.out; have := HZ_12.out; omega)); clear cb_p0_0 cb_p0_1
  have cb_p0_0 := hx.cell0; have cb_p0_1 := hx.cell1
  have HXp0_12 := Lib.hid hx; clear hx
  have hx := HXvx0_11.out.chg hc (.inl (by have := HZ_0.out; have := HZ_1.out; have := HZ_2.out; have := HZ_3.out; have := HZ_4.out; have := HZE_5.out; have := HZ_5.out; have := HZ_6.out; have := HZ_7.out; have := HZ_8.out; have := HZ_9.out; have := HZ_10.out; have := HZ_11.out; have := HZ_12.out; omega)); clear cb_vx0_0 cb_vx0_1
  have cb_vx0_0 := hx.cell0; have cb_vx0_1 := hx.cell1
  have HXvx0_12 := Lib.hid hx; clear hx
  have HOW_12 := Lib.hid (HOW_11.out.chg hc (HIW.out.outside (.inl (by have := HZ_0.out; have := HZ_1.out; have := HZ_2.out; have := HZ_3.out; have := HZ_4.out; have := HZE_5.out; have := HZ_5.out; have := HZ_6.out; have := HZ_7.out; have := HZ_8.out; have := HZ_9.out; have := HZ_10.out; have := HZ_11.out; have := HZ_12.out; omega))))
  have HOx0_12 := Lib.hid (HOx0_11.out.chg hc (HIx0.out.outside (.inl (by have := HZ_0.out; have := HZ_1.out; have := HZ_2.out; have := HZ_3.out; have := HZ_4.out; have := HZE_5.out; have := HZ_5.out; have := HZ_6.out; have := HZ_7.out; have := HZ_8.out; have := HZ_9.out; have := HZ_10.out; have := HZ_11.out; have := HZ_12.out; omega))) (HIx0'.out.outside (.inl (by have := HZ_0.out; have := HZ_1.out; have := HZ_2.out; have := HZ_3.out; have := HZ_4.out; have := HZE_5.out; have := HZ_5.out; have := HZ_6.out; have := HZ_7.out; have := HZ_8.out; have := HZ_9.out; have := HZ_10.out; have := HZ_11.out; have := HZ_12.out; omega))))
  have HOG_12 := Lib.hid o; clear hc o
  have hk2 : decide ((1 : Int) + (m : Int) < 0) = false := by simp; omega
  have hk3 : ((1 : Int) + (m : Int) != (1 : Int) + (m : Int)) = false := by simp
  go_wp2_with fail
  refine (heldIntS_any AG m cG 1 w12 (HOG_12.out.rd (marks_len _ _)) (by omega) (by omega) (by omega)).mono ?_
  rintro e w' ⟨rfl, rfl⟩
  go_wp2_with fail
  refine (toMap_any A0 A0' n0 n0' c0 c0' t0 f0 w12 (HR0.out.below HB_12.out) (HR0'.out.below HB_12.out) (by omega) (by omega)).mono ?_
  rintro e w13 ⟨u, u', rfl, o, b⟩
  have HIu0 := Lib.hid o.turn.iv; have HIu0' := Lib.hid o.flip.iv
  obtain ⟨Au0, cu0, Au0', cu0', rfl, rfl, -, -⟩ := o.form HL0.out HL0'.out
  have HOu0_13 := Lib.hid o; clear o
  have HB_13 := Lib.hid (HB_12.out.trans (b.mono HB_12.out.size)); have HZ_13 := Lib.hid b.size
  have hx := HXp0_12.out.below b; clear cb_p0_0 cb_p0_1
  have cb_p0_0 := hx.cell0; have cb_p0_1 := hx.cell1
  have HXp0_13 := Lib.hid hx; clear hx
  have hx := HXvx0_12.out.below b; clear cb_vx0_0 cb_vx0_1
  have cb_vx0_0 := hx.cell0; have cb_vx0_1 := hx.cell1
  have HXvx0_13 := Lib.hid hx; clear hx
  have HOW_13 := Lib.hid (HOW_12.out.below b)
  have HOG_13 := Lib.hid (HOG_12.out.below b)
  clear b
  go_wp2_with fail
  refine (impl_gofR w13 Au0 Au0' n0 n0' cu0 cu0' t0 f0 (HOu0_13.out.turn.rd HL0.out) (HOu0_13.out.flip.rd HL0'.out) (by omega) (by omega) x1 HW1.out HRR.out).mono ?_
  rintro e w14 ⟨v, rfl, o, b⟩
  have HIH := Lib.hid o.iv
  obtain ⟨AH, cH, rfl, -, -⟩ := o.form' HMM.out
  have HOH_14 := Lib.hid o; clear o
  have HB_14 := Lib.hid (HB_13.out.trans (b.mono HB_13.out.size)); have HZ_14 := Lib.hid b.size
  have hx := HXp0_13.out.below b; clear cb_p0_0 cb_p0_1
  have cb_p0_0 := hx.cell0; have cb_p0_1 := hx.cell1
  have HXp0_14 := Lib.hid hx; clear hx
  have hx := HXvx0_13.out.below b; clear cb_vx0_0 cb_vx0_1
  have cb_vx0_0 := hx.cell0; have cb_vx0_1 := hx.cell1
  have HXvx0_14 := Lib.hid hx; clear hx
  have HOW_14 := Lib.hid (HOW_13.out.below b)
  have HOG_14 := Lib.hid (HOG_13.out.below b)
  have HOu0_14 := Lib.hid (HOu0_13.out.below b)
  clear b
  go_wp2_with fail
  refine (eqIntS_b AH AW m m cH cW ys ys w14 (HOH_14.out.rd HMM.out) (HOW_14.out.rd HMM.out) (by unfold maxLen; omega) (by unfold maxLen; omega)).mono ?_
  rintro e w15 ⟨rfl, b⟩
  have HB_15 := Lib.hid (HB_14.out.trans (b.mono HB_14.out.size)); have HZ_15 := Lib.hid b.size
  have hx := HXp0_14.out.below b; clear cb_p0_0 cb_p0_1
  have cb_p0_0 := hx.cell0; have cb_p0_1 := hx.cell1
  have HXp0_15 := Lib.hid hx; clear hx
  have hx := HXvx0_14.out.below b; clear cb_vx0_0 cb_vx0_1
  have cb_vx0_0 := hx.cell0; have cb_vx0_1 := hx.cell1
  have HXvx0_15 := Lib.hid hx; clear hx
  have HOW_15 := Lib.hid (HOW_14.out.below b)
  have HOG_15 := Lib.hid (HOG_14.out.below b)
  have HOu0_15 := Lib.hid (HOu0_14.out.below b)
  have HOH_15 := Lib.hid (HOH_14.out.below b)
  clear b
  go_wp2_with fail
  refine (heldIntS_any AG m cG 1 w15 (HOG_15.out.rd (marks_len _ _)) (by omega) (by omega) (by omega)).mono ?_
  rintro e w' ⟨rfl, rfl⟩
  go_wp2_with fail
  go_ret
  exact ⟨rfl, HB_15.out⟩

end Go.Proofs.Ytfcgfeopmnjfjaa
