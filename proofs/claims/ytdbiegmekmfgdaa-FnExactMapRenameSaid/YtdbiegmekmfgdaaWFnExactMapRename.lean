/-
  FnExactMapRename: the walk of the law: the model and the program are called by their contracts.
-/
import Derived.Test.YtdbiegmekmfgdaaRename
import Derived.Test.YtdbiegmekmfgdaaKitM
import Derived.Deep.RegionHeld3
namespace Go.Proofs.Ytdbiegmekmfgdaa
open Go.RowKit

set_option maxRecDepth 100000 in
set_option maxHeartbeats 3200000 in
theorem walk_FnExactMapRename (A0 A0' : Option Addr) (n0 n0' c0 c0' : Nat) (t0 f0 : List Int) (A1 : Option Addr) (n1 c1 : Nat) (xs1 : List Int) (w : World) (hr0 : Rd w A0 n0 t0) (hr0' : Rd w A0' n0' f0) (hm0 : n0 ≤ maxLen) (hm0' : n0' ≤ maxLen) (hr1 : Rd w A1 n1 xs1) (_hm1 : n1 ≤ maxLen) :
    Calls Try.prog 10 #[.agg #[.slice A0 n0 c0, .slice A0' n0' c0'], .slice A1 n1 c1] w fun e w' => e = .returned (.bool true) ∧ Below w.heap.size w w' := by
  have HR0 := Lib.hid hr0; have HR0' := Lib.hid hr0'; have HL0 := Lib.hid hr0.1; have HL0' := Lib.hid hr0'.1; clear hr0 hr0'
  have HR1 := Lib.hid hr1; have HL1 := Lib.hid hr1.1; clear hr1
  obtain ⟨w0, hW0⟩ : ∃ w0, (w.alloc (.cells #[.slice A0 n0 c0, .slice A0' n0' c0'] 29)) = w0 := ⟨_, rfl⟩
  have hx : Box w0 (w.heap.size) 29 (.slice A0 n0 c0) (.slice A0' n0' c0') := by rw [← hW0]; have h := Box.new w 29 (.slice A0 n0 c0) (.slice A0' n0' c0'); exact h
  have cb_p0_0 := hx.cell0; have cb_p0_1 := hx.cell1
  have HXp0_0 := Lib.hid hx; clear hx
  have HB_0 : Hid (Below w.heap.size w w0) := by rw [← hW0]; exact (Below.refl _ _).alloc (by simp) _
  have HZ_0 : Hid (w.heap.size + 1 = w0.heap.size) := by rw [Hid, ← hW0]; simp
  by_cases hlt1 : 1048576 < n1
  · have hd1 : decide ((1048576 : Int) < n1) = true := by simp; omega
    go_enter Try.func10, Try.ntmps10
    go_wp2_with fail
    go_ret
    exact ⟨rfl, HB_0.out⟩
  have hd1 : decide ((1048576 : Int) < n1) = false := by simp; omega
  obtain ⟨r0, hr⟩ : ∃ r, szOf (1048576) n0 n0' = r := ⟨_, rfl⟩
  by_cases hs0 : r0 < 0
  · have E0 := Lib.hid hr; clear hr
    have hsd0 : decide (r0 < 0) = true := by simp [hs0]
    go_enter Try.func10, Try.ntmps10
    go_wp2_with fail
    refine (szMap_any A0 A0' n0 n0' c0 c0' (1048576) w0 hm0 hm0' (by omega) (by omega) E0.out).mono ?_
    rintro e w1 ⟨rfl, b⟩
    have HB_1 := Lib.hid (HB_0.out.trans (b.mono HB_0.out.size)); clear b
    go_wp2_with fail
    go_ret
    exact ⟨rfl, HB_1.out⟩
  obtain ⟨hq0, hv0⟩ := szOf_fits (m := 1048576) (n := n0) (n' := n0') (by omega) (by rw [hr]; exact hs0)
  rw [hv0] at hr; clear hv0
  have E0' := Lib.hid hr
  have hsd0 : decide (r0 < 0) = false := by simp; omega
  have E0 : Hid (szOf (1048576) n0 n0' = r0) := by rw [Hid, szOf_eq (by omega)]; exact hr
  clear hr
  obtain ⟨ok, yt, yf, hR⟩ : ∃ ok yt yf, renameR t0 f0 xs1 = (ok, yt, yf) := ⟨_, _, _, rfl⟩
  obtain ⟨m, hm⟩ : ∃ m, yt.length = m := ⟨_, rfl⟩
  obtain ⟨m', hm'⟩ : ∃ m, yf.length = m := ⟨_, rfl⟩
  have hm12 : m ≤ 12 := hm ▸ (renameR_len hR).1
  have hm12' : m' ≤ 12 := hm' ▸ (renameR_len hR).2
  have HRR := Lib.hid hR; have HMM := Lib.hid hm; have HMM' := Lib.hid hm'; clear hR hm hm'
  have hok : (ok != ok) = false := by simp
  have hxe1 := eqB_refl xs1
  go_enter Try.func10, Try.ntmps10
  go_wp2_with fail
  refine (szMap_any A0 A0' n0 n0' c0 c0' (1048576) w0 hm0 hm0' (by omega) (by omega) E0.out).mono ?_
  rintro e w1 ⟨rfl, b⟩
  have HB_1 := Lib.hid (HB_0.out.trans (b.mono HB_0.out.size)); have HZ_1 := Lib.hid b.size
  have hx := HXp0_0.out.below b; clear cb_p0_0 cb_p0_1
  have cb_p0_0 := hx.cell0; have cb_p0_1 := hx.cell1
  have HXp0_1 := Lib.hid hx; clear hx
  clear b
  go_wp2_with fail
  refine (toMap_any A0 A0' n0 n0' c0 c0' t0 f0 w1 (HR0.out.below HB_1.out) (HR0'.out.below HB_1.out) (by omega) (by omega)).mono ?_
  rintro e w2 ⟨u, u', rfl, o, b⟩
  have HIs0 := Lib.hid o.turn.iv; have HIs0' := Lib.hid o.flip.iv
  obtain ⟨As0, cs0, As0', cs0', rfl, rfl, -, -⟩ := o.form HL0.out HL0'.out
  have HOs0_2 := Lib.hid o; clear o
  have HB_2 := Lib.hid (HB_1.out.trans (b.mono HB_1.out.size)); have HZ_2 := Lib.hid b.size
  have hx := HXp0_1.out.below b; clear cb_p0_0 cb_p0_1
  have cb_p0_0 := hx.cell0; have cb_p0_1 := hx.cell1
  have HXp0_2 := Lib.hid hx; clear hx
  clear b
  go_wp2_with fail
  refine (toIntS_any A1 n1 c1 xs1 w2 (HR1.out.below HB_2.out) (by omega)).mono ?_
  rintro e w3 ⟨v, rfl, o, b⟩
  have HIs1 := Lib.hid o.iv
  obtain ⟨As1, cs1, rfl, -, -⟩ := o.form' HL1.out
  have HOs1_3 := Lib.hid o; clear o
  have HB_3 := Lib.hid (HB_2.out.trans (b.mono HB_2.out.size)); have HZ_3 := Lib.hid b.size
  have hx := HXp0_2.out.below b; clear cb_p0_0 cb_p0_1
  have cb_p0_0 := hx.cell0; have cb_p0_1 := hx.cell1
  have HXp0_3 := Lib.hid hx; clear hx
  have HOs0_3 := Lib.hid (HOs0_2.out.below b)
  clear b
  go_wp2_with fail
  refine (spec_renameR w3 As0 As0' n0 n0' cs0 cs0' t0 f0 (HOs0_3.out.turn.rd HL0.out) (HOs0_3.out.flip.rd HL0'.out) (by omega) (by omega) As1 cs1 n1 xs1 (HOs1_3.out.rd HL1.out) (by omega) HRR.out).mono ?_
  rintro e w4 ⟨u, u', rfl, o, b⟩
  have HIW := Lib.hid o.turn.iv; have HIW' := Lib.hid o.flip.iv
  obtain ⟨AW, cW, AW', cW', rfl, rfl, -, -⟩ := o.form HMM.out HMM'.out
  have HOW_4 := Lib.hid o; clear o
  have HB_4 := Lib.hid (HB_3.out.trans (b.mono HB_3.out.size)); have HZ_4 := Lib.hid b.size
  have hx := HXp0_3.out.below b; clear cb_p0_0 cb_p0_1
  have cb_p0_0 := hx.cell0; have cb_p0_1 := hx.cell1
  have HXp0_4 := Lib.hid hx; clear hx
  have HOs0_4 := Lib.hid (HOs0_3.out.below b)
  have HOs1_4 := Lib.hid (HOs1_3.out.below b)
  clear b
  obtain ⟨w5, hW5, hx, b, hz⟩ := Box.local_ w4 32 (.slice AW m cW) (.slice AW' m' cW')
  have HXvW_5 := Lib.hid hx; have HZE_5 := Lib.hid hz; clear hx hz
  have HB_5 := Lib.hid (HB_4.out.trans (b.mono HB_4.out.size)); have HZ_5 := Lib.hid b.size
  have hx := HXp0_4.out.below b; clear cb_p0_0 cb_p0_1
  have cb_p0_0 := hx.cell0; have cb_p0_1 := hx.cell1
  have HXp0_5 := Lib.hid hx; clear hx
  have HOs0_5 := Lib.hid (HOs0_4.out.below b)
  have HOs1_5 := Lib.hid (HOs1_4.out.below b)
  have HOW_5 := Lib.hid (HOW_4.out.below b)
  clear b
  have cb_vW_0 := HXvW_5.out.cell0; have cb_vW_1 := HXvW_5.out.cell1
  go_wp2_with fail
  refine (toMap_any A0 A0' n0 n0' c0 c0' t0 f0 w5 (HR0.out.below HB_5.out) (HR0'.out.below HB_5.out) (by omega) (by omega)).mono ?_
  rintro e w6 ⟨u, u', rfl, o, b⟩
  have HIx0 := Lib.hid o.turn.iv; have HIx0' := Lib.hid o.flip.iv
  obtain ⟨Ax0, cx0, Ax0', cx0', rfl, rfl, -, -⟩ := o.form HL0.out HL0'.out
  have HOx0_6 := Lib.hid o; clear o
  have HB_6 := Lib.hid (HB_5.out.trans (b.mono HB_5.out.size)); have HZ_6 := Lib.hid b.size
  have hx := HXp0_5.out.below b; clear cb_p0_0 cb_p0_1
  have cb_p0_0 := hx.cell0; have cb_p0_1 := hx.cell1
  have HXp0_6 := Lib.hid hx; clear hx
  have hx := HXvW_5.out.below b; clear cb_vW_0 cb_vW_1
  have cb_vW_0 := hx.cell0; have cb_vW_1 := hx.cell1
  have HXvW_6 := Lib.hid hx; clear hx
  have HOW_6 := Lib.hid (HOW_5.out.below b)
  clear b
  obtain ⟨w7, hW7, hx, b, hz⟩ := Box.local_ w6 32 (.slice Ax0 n0 cx0) (.slice Ax0' n0' cx0')
  have HXvx0_7 := Lib.hid hx; have HZE_7 := Lib.hid hz; clear hx hz
  have HB_7 := Lib.hid (HB_6.out.trans (b.mono HB_6.out.size)); have HZ_7 := Lib.hid b.size
  have hx := HXp0_6.out.below b; clear cb_p0_0 cb_p0_1
  have cb_p0_0 := hx.cell0; have cb_p0_1 := hx.cell1
  have HXp0_7 := Lib.hid hx; clear hx
  have hx := HXvW_6.out.below b; clear cb_vW_0 cb_vW_1
  have cb_vW_0 := hx.cell0; have cb_vW_1 := hx.cell1
  have HXvW_7 := Lib.hid hx; clear hx
  have HOW_7 := Lib.hid (HOW_6.out.below b)
  have HOx0_7 := Lib.hid (HOx0_6.out.below b)
  clear b
  have cb_vx0_0 := HXvx0_7.out.cell0; have cb_vx0_1 := HXvx0_7.out.cell1
  go_wp2_with fail
  refine (toIntS_any A1 n1 c1 xs1 w7 (HR1.out.below HB_7.out) (by omega)).mono ?_
  rintro e w8 ⟨v, rfl, o, b⟩
  have HIx1 := Lib.hid o.iv
  obtain ⟨Ax1, cx1, rfl, -, -⟩ := o.form' HL1.out
  have HOx1_8 := Lib.hid o; clear o
  have HB_8 := Lib.hid (HB_7.out.trans (b.mono HB_7.out.size)); have HZ_8 := Lib.hid b.size
  have hx := HXp0_7.out.below b; clear cb_p0_0 cb_p0_1
  have cb_p0_0 := hx.cell0; have cb_p0_1 := hx.cell1
  have HXp0_8 := Lib.hid hx; clear hx
  have hx := HXvW_7.out.below b; clear cb_vW_0 cb_vW_1
  have cb_vW_0 := hx.cell0; have cb_vW_1 := hx.cell1
  have HXvW_8 := Lib.hid hx; clear hx
  have hx := HXvx0_7.out.below b; clear cb_vx0_0 cb_vx0_1
  have cb_vx0_0 := hx.cell0; have cb_vx0_1 := hx.cell1
  have HXvx0_8 := Lib.hid hx; clear hx
  have HOW_8 := Lib.hid (HOW_7.out.below b)
  have HOx0_8 := Lib.hid (HOx0_7.out.below b)
  clear b
  go_wp2_with fail
  refine (impl_renameR w8 Ax0 Ax0' n0 n0' cx0 cx0' t0 f0 (HOx0_8.out.turn.rd HL0.out) (HOx0_8.out.flip.rd HL0'.out) (by omega) (by omega) Ax1 cx1 n1 xs1 (HOx1_8.out.rd HL1.out) (by omega) HRR.out).mono ?_
  rintro e w9 ⟨u, u', rfl, o, b⟩
  have HIG := Lib.hid o.turn.iv; have HIG' := Lib.hid o.flip.iv
  obtain ⟨AG, cG, AG', cG', rfl, rfl, -, -⟩ := o.form HMM.out HMM'.out
  have HOG_9 := Lib.hid o; clear o
  have HB_9 := Lib.hid (HB_8.out.trans (b.mono HB_8.out.size)); have HZ_9 := Lib.hid b.size
  have hx := HXp0_8.out.below b; clear cb_p0_0 cb_p0_1
  have cb_p0_0 := hx.cell0; have cb_p0_1 := hx.cell1
  have HXp0_9 := Lib.hid hx; clear hx
  have hx := HXvW_8.out.below b; clear cb_vW_0 cb_vW_1
  have cb_vW_0 := hx.cell0; have cb_vW_1 := hx.cell1
  have HXvW_9 := Lib.hid hx; clear hx
  have hx := HXvx0_8.out.below b; clear cb_vx0_0 cb_vx0_1
  have cb_vx0_0 := hx.cell0; have cb_vx0_1 := hx.cell1
  have HXvx0_9 := Lib.hid hx; clear hx
  have HOW_9 := Lib.hid (HOW_8.out.below b)
  have HOx0_9 := Lib.hid (HOx0_8.out.below b)
  have HOx1_9 := Lib.hid (HOx1_8.out.below b)
  clear b
  obtain ⟨w10, hW10, hx, b, hz⟩ := Box.local_ w9 32 (.slice AG m cG) (.slice AG' m' cG')
  have HXvG_10 := Lib.hid hx; have HZE_10 := Lib.hid hz; clear hx hz
  have HB_10 := Lib.hid (HB_9.out.trans (b.mono HB_9.out.size)); have HZ_10 := Lib.hid b.size
  have hx := HXp0_9.out.below b; clear cb_p0_0 cb_p0_1
  have cb_p0_0 := hx.cell0; have cb_p0_1 := hx.cell1
  have HXp0_10 := Lib.hid hx; clear hx
  have hx := HXvW_9.out.below b; clear cb_vW_0 cb_vW_1
  have cb_vW_0 := hx.cell0; have cb_vW_1 := hx.cell1
  have HXvW_10 := Lib.hid hx; clear hx
  have hx := HXvx0_9.out.below b; clear cb_vx0_0 cb_vx0_1
  have cb_vx0_0 := hx.cell0; have cb_vx0_1 := hx.cell1
  have HXvx0_10 := Lib.hid hx; clear hx
  have HOW_10 := Lib.hid (HOW_9.out.below b)
  have HOx0_10 := Lib.hid (HOx0_9.out.below b)
  have HOx1_10 := Lib.hid (HOx1_9.out.below b)
  have HOG_10 := Lib.hid (HOG_9.out.below b)
  clear b
  have cb_vG_0 := HXvG_10.out.cell0; have cb_vG_1 := HXvG_10.out.cell1
  go_wp2_with fail
  refine (eqMap_same AG AG' AW AW' m m' cG cG' cW cW' yt yf w10 (HOG_10.out.turn.rd HMM.out) (HOG_10.out.flip.rd HMM'.out) (HOW_10.out.turn.rd HMM.out) (HOW_10.out.flip.rd HMM'.out) (by omega) (by omega)).mono ?_
  rintro e w11 ⟨rfl, b⟩
  have HB_11 := Lib.hid (HB_10.out.trans (b.mono HB_10.out.size)); have HZ_11 := Lib.hid b.size
  have hx := HXp0_10.out.below b; clear cb_p0_0 cb_p0_1
  have cb_p0_0 := hx.cell0; have cb_p0_1 := hx.cell1
  have HXp0_11 := Lib.hid hx; clear hx
  have hx := HXvW_10.out.below b; clear cb_vW_0 cb_vW_1
  have cb_vW_0 := hx.cell0; have cb_vW_1 := hx.cell1
  have HXvW_11 := Lib.hid hx; clear hx
  have hx := HXvx0_10.out.below b; clear cb_vx0_0 cb_vx0_1
  have cb_vx0_0 := hx.cell0; have cb_vx0_1 := hx.cell1
  have HXvx0_11 := Lib.hid hx; clear hx
  have hx := HXvG_10.out.below b; clear cb_vG_0 cb_vG_1
  have cb_vG_0 := hx.cell0; have cb_vG_1 := hx.cell1
  have HXvG_11 := Lib.hid hx; clear hx
  have HOW_11 := Lib.hid (HOW_10.out.below b)
  have HOx0_11 := Lib.hid (HOx0_10.out.below b)
  have HOx1_11 := Lib.hid (HOx1_10.out.below b)
  have HOG_11 := Lib.hid (HOG_10.out.below b)
  clear b
  go_wp2_with fail
  go_region_held3 (fun w' => w'.cell? ⟨w6.heap.size, 0, none⟩ = some (.slice Ax0 n0 cx0) ∧ w'.cell? ⟨w6.heap.size, 1, none⟩ = some (.slice Ax0' n0' cx0') ∧ w'.cell? ⟨w.heap.size, 0, none⟩ = some (.slice A0 n0 c0) ∧ w'.cell? ⟨w.heap.size, 1, none⟩ = some (.slice A0' n0' c0')) (first | go_keep | exact ⟨(HXvx0_11.out.below BT.out).cell0, (HXvx0_11.out.below BT.out).cell1, (HXp0_11.out.below BT.out).cell0, (HXp0_11.out.below BT.out).cell1⟩ | exact ⟨((HXvx0_11.out.below BT.out).below BE.out).cell0, ((HXvx0_11.out.below BT.out).below BE.out).cell1, ((HXp0_11.out.below BT.out).below BE.out).cell0, ((HXp0_11.out.below BT.out).below BE.out).cell1⟩) (first
    | (go_at_call 24; refine (toMap_any A0 A0' n0 n0' c0 c0' t0 f0 _ ((HR0.out.below HB_11.out).drewN _) ((HR0'.out.below HB_11.out).drewN _) (by omega) (by omega)).mono ?_; rintro e w12 ⟨u, u', rfl, o, b⟩; have BT := Lib.hid (Below.of_drewN b); clear b; have HIt0 := Lib.hid o.turn.iv; have HIt0' := Lib.hid o.flip.iv; obtain ⟨At0, ct0, At0', ct0', rfl, rfl, -, -⟩ := o.form HL0.out HL0'.out; have HOt0_12 := Lib.hid o; clear o)
    | (go_at_call 26; refine (eqMap_same Ax0 Ax0' At0 At0' n0 n0' cx0 cx0' ct0 ct0' t0 f0 _ ((HOx0_11.out.below BT.out).turn.rd HL0.out) ((HOx0_11.out.below BT.out).flip.rd HL0'.out) (HOt0_12.out.turn.rd HL0.out) (HOt0_12.out.flip.rd HL0'.out) (by omega) (by omega)).mono ?_; rintro e w13 ⟨rfl, b⟩; have BE := Lib.hid b; clear b))
  have b := BT.out
  have HB_12 := Lib.hid (HB_11.out.trans (b.mono HB_11.out.size)); have HZ_12 := Lib.hid b.size
  have hx := HXp0_11.out.below b; clear cb_p0_0 cb_p0_1
  have cb_p0_0 := hx.cell0; have cb_p0_1 := hx.cell1
  have HXp0_12 := Lib.hid hx; clear hx
  have hx := HXvW_11.out.below b; clear cb_vW_0 cb_vW_1
  have cb_vW_0 := hx.cell0; have cb_vW_1 := hx.cell1
  have HXvW_12 := Lib.hid hx; clear hx
  have hx := HXvx0_11.out.below b; clear cb_vx0_0 cb_vx0_1
  have cb_vx0_0 := hx.cell0; have cb_vx0_1 := hx.cell1
  have HXvx0_12 := Lib.hid hx; clear hx
  have hx := HXvG_11.out.below b; clear cb_vG_0 cb_vG_1
  have cb_vG_0 := hx.cell0; have cb_vG_1 := hx.cell1
  have HXvG_12 := Lib.hid hx; clear hx
  have HOW_12 := Lib.hid (HOW_11.out.below b)
  have HOx0_12 := Lib.hid (HOx0_11.out.below b)
  have HOx1_12 := Lib.hid (HOx1_11.out.below b)
  have HOG_12 := Lib.hid (HOG_11.out.below b)
  clear b
  have b := BE.out
  have HB_13 := Lib.hid (HB_12.out.trans (b.mono HB_12.out.size)); have HZ_13 := Lib.hid b.size
  have hx := HXp0_12.out.below b; clear cb_p0_0 cb_p0_1
  have cb_p0_0 := hx.cell0; have cb_p0_1 := hx.cell1
  have HXp0_13 := Lib.hid hx; clear hx
  have hx := HXvW_12.out.below b; clear cb_vW_0 cb_vW_1
  have cb_vW_0 := hx.cell0; have cb_vW_1 := hx.cell1
  have HXvW_13 := Lib.hid hx; clear hx
  have hx := HXvx0_12.out.below b; clear cb_vx0_0 cb_vx0_1
  have cb_vx0_0 := hx.cell0; have cb_vx0_1 := hx.cell1
  have HXvx0_13 := Lib.hid hx; clear hx
  have hx := HXvG_12.out.below b; clear cb_vG_0 cb_vG_1
  have cb_vG_0 := hx.cell0; have cb_vG_1 := hx.cell1
  have HXvG_13 := Lib.hid hx; clear hx
  have HOW_13 := Lib.hid (HOW_12.out.below b)
  have HOx0_13 := Lib.hid (HOx0_12.out.below b)
  have HOx1_13 := Lib.hid (HOx1_12.out.below b)
  have HOG_13 := Lib.hid (HOG_12.out.below b)
  clear b
  go_wp2_with fail
  refine (toIntS_any A1 n1 c1 xs1 w13 (HR1.out.below HB_13.out) (by omega)).mono ?_
  rintro e w14 ⟨v, rfl, o, b⟩
  have HIt1 := Lib.hid o.iv
  obtain ⟨At1, ct1, rfl, -, -⟩ := o.form' HL1.out
  have HOt1_14 := Lib.hid o; clear o
  have HB_14 := Lib.hid (HB_13.out.trans (b.mono HB_13.out.size)); have HZ_14 := Lib.hid b.size
  have hx := HXp0_13.out.below b; clear cb_p0_0 cb_p0_1
  have cb_p0_0 := hx.cell0; have cb_p0_1 := hx.cell1
  have HXp0_14 := Lib.hid hx; clear hx
  have hx := HXvW_13.out.below b; clear cb_vW_0 cb_vW_1
  have cb_vW_0 := hx.cell0; have cb_vW_1 := hx.cell1
  have HXvW_14 := Lib.hid hx; clear hx
  have hx := HXvx0_13.out.below b; clear cb_vx0_0 cb_vx0_1
  have cb_vx0_0 := hx.cell0; have cb_vx0_1 := hx.cell1
  have HXvx0_14 := Lib.hid hx; clear hx
  have hx := HXvG_13.out.below b; clear cb_vG_0 cb_vG_1
  have cb_vG_0 := hx.cell0; have cb_vG_1 := hx.cell1
  have HXvG_14 := Lib.hid hx; clear hx
  have HOW_14 := Lib.hid (HOW_13.out.below b)
  have HOx0_14 := Lib.hid (HOx0_13.out.below b)
  have HOx1_14 := Lib.hid (HOx1_13.out.below b)
  have HOG_14 := Lib.hid (HOG_13.out.below b)
  clear b
  go_wp2_with fail
  refine (eqIntS_b Ax1 At1 n1 n1 cx1 ct1 xs1 xs1 w14 (HOx1_14.out.rd HL1.out) (HOt1_14.out.rd HL1.out) (by unfold maxLen; omega) (by unfold maxLen; omega)).mono ?_
  rintro e w15 ⟨rfl, b⟩
  have HB_15 := Lib.hid (HB_14.out.trans (b.mono HB_14.out.size)); have HZ_15 := Lib.hid b.size
  have hx := HXp0_14.out.below b; clear cb_p0_0 cb_p0_1
  have cb_p0_0 := hx.cell0; have cb_p0_1 := hx.cell1
  have HXp0_15 := Lib.hid hx; clear hx
  have hx := HXvW_14.out.below b; clear cb_vW_0 cb_vW_1
  have cb_vW_0 := hx.cell0; have cb_vW_1 := hx.cell1
  have HXvW_15 := Lib.hid hx; clear hx
  have hx := HXvx0_14.out.below b; clear cb_vx0_0 cb_vx0_1
  have cb_vx0_0 := hx.cell0; have cb_vx0_1 := hx.cell1
  have HXvx0_15 := Lib.hid hx; clear hx
  have hx := HXvG_14.out.below b; clear cb_vG_0 cb_vG_1
  have cb_vG_0 := hx.cell0; have cb_vG_1 := hx.cell1
  have HXvG_15 := Lib.hid hx; clear hx
  have HOW_15 := Lib.hid (HOW_14.out.below b)
  have HOx0_15 := Lib.hid (HOx0_14.out.below b)
  have HOx1_15 := Lib.hid (HOx1_14.out.below b)
  have HOG_15 := Lib.hid (HOG_14.out.below b)
  have HOt1_15 := Lib.hid (HOt1_14.out.below b)
  clear b
  have hk1 : decide ((1 : Int) + (n0 : Int) + (n0' : Int) + (n1 : Int) < 0) = false := by simp; omega
  go_wp2_with fail
  refine (markMap_any w5.heap.size w6.heap.size w5.heap.size Ax0 Ax0' n0 n0' cx0 cx0' t0 f0 1 w15 HOx0_15.out HL0.out HL0'.out (by omega) (by omega) (by omega) (by omega) HIx0.out HIx0'.out (by have := HZ_0.out; have := HZ_1.out; have := HZ_2.out; have := HZ_3.out; have := HZ_4.out; have := HZE_5.out; have := HZ_5.out; have := HZ_6.out; have := HZE_7.out; have := HZ_7.out; have := HZ_8.out; have := HZ_9.out; have := HZE_10.out; have := HZ_10.out; have := HZ_11.out; have := HZ_12.out; have := HZ_13.out; have := HZ_14.out; have := HZ_15.out; omega)).mono ?_
  rintro e w16 ⟨rfl, o, hc⟩
  have HB_16 : Hid (Below w.heap.size w w16) := HB_15.out.trans (hc.below (by have := HZ_0.out; have := HZ_1.out; have := HZ_2.out; have := HZ_3.out; have := HZ_4.out; have := HZE_5.out; have := HZ_5.out; have := HZ_6.out; have := HZE_7.out; have := HZ_7.out; have := HZ_8.out; have := HZ_9.out; have := HZE_10.out; have := HZ_10.out; have := HZ_11.out; have := HZ_12.out; have := HZ_13.out; have := HZ_14.out; have := HZ_15.out; omega) HB_15.out.size); have HZ_16 := Lib.hid hc.size
  have hx := HXp0_15.out.chg hc (.inl (by have := HZ_0.out; have := HZ_1.out; have := HZ_2.out; have := HZ_3.out; have := HZ_4.out; have := HZE_5.out; have := HZ_5.out; have := HZ_6.out; have := HZE_7.out; have := HZ_7.out; have := HZ_8.out; have := HZ_9.out; have := HZE_10.out; have := HZ_10.out; have := HZ_11.out; have := HZ_12.out; have := HZ_13.out; have := HZ_14.out; have := HZ_15.out; have := HZ_16.out; omega)); clear cb_p0_0 cb_p0_1
  have cb_p0_0 := hx.cell0; have cb_p0_1 := hx.cell1
  have HXp0_16 := Lib.hid hx; clear hx
  have hx := HXvW_15.out.chg hc (.inl (by have := HZ_0.out; have := HZ_1.out; have := HZ_2.out; have := HZ_3.out; have := HZ_4.out; have := HZE_5.out; have := HZ_5.out; have := HZ_6.out; have := HZE_7.out; have := HZ_7.out; have := HZ_8.out; have := HZ_9.out; have := HZE_10.out; have := HZ_10.out; have := HZ_11.out; have := HZ_12.out; have := HZ_13.out; have := HZ_14.out; have := HZ_15.out; have := HZ_16.out; omega)); clear cb_vW_0 cb_vW_1
  have cb_vW_0 := hx.cell0; have cb_vW_1 := hx.cell1
  have HXvW_16 := Lib.hid hx; clear hx
  have hx := HXvx0_15.out.chg hc (.inr (by have := HZ_0.out; have := HZ_1.out; have := HZ_2.out; have := HZ_3.out; have := HZ_4.out; have := HZE_5.out; have := HZ_5.out; have := HZ_6.out; have := HZE_7.out; have := HZ_7.out; have := HZ_8.out; have := HZ_9.out; have := HZE_10.out; have := HZ_10.out; have := HZ_11.out; have := HZ_12.out; have := HZ_13.out; have := HZ_14.out; have := HZ_15.out; have := HZ_16.out; omega)); clear cb_vx0_0 cb_vx0_1
  have cb_vx0_0 := hx.cell0; have cb_vx0_1 := hx.cell1
  have HXvx0_16 := Lib.hid hx; clear hx
  have hx := HXvG_15.out.chg hc (.inr (by have := HZ_0.out; have := HZ_1.out; have := HZ_2.out; have := HZ_3.out; have := HZ_4.out; have := HZE_5.out; have := HZ_5.out; have := HZ_6.out; have := HZE_7.out; have := HZ_7.out; have := HZ_8.out; have := HZ_9.out; have := HZE_10.out; have := HZ_10.out; have := HZ_11.out; have := HZ_12.out; have := HZ_13.out; have := HZ_14.out; have := HZ_15.out; have := HZ_16.out; omega)); clear cb_vG_0 cb_vG_1
  have cb_vG_0 := hx.cell0; have cb_vG_1 := hx.cell1
  have HXvG_16 := Lib.hid hx; clear hx
  have HOW_16 := Lib.hid (HOW_15.out.chg hc (HIW.out.outside (.inl (by have := HZ_0.out; have := HZ_1.out; have := HZ_2.out; have := HZ_3.out; have := HZ_4.out; have := HZE_5.out; have := HZ_5.out; have := HZ_6.out; have := HZE_7.out; have := HZ_7.out; have := HZ_8.out; have := HZ_9.out; have := HZE_10.out; have := HZ_10.out; have := HZ_11.out; have := HZ_12.out; have := HZ_13.out; have := HZ_14.out; have := HZ_15.out; have := HZ_16.out; omega))) (HIW'.out.outside (.inl (by have := HZ_0.out; have := HZ_1.out; have := HZ_2.out; have := HZ_3.out; have := HZ_4.out; have := HZE_5.out; have := HZ_5.out; have := HZ_6.out; have := HZE_7.out; have := HZ_7.out; have := HZ_8.out; have := HZ_9.out; have := HZE_10.out; have := HZ_10.out; have := HZ_11.out; have := HZ_12.out; have := HZ_13.out; have := HZ_14.out; have := HZ_15.out; have := HZ_16.out; omega))))
  have HOx1_16 := Lib.hid (HOx1_15.out.chg hc (HIx1.out.outside (.inr (by have := HZ_0.out; have := HZ_1.out; have := HZ_2.out; have := HZ_3.out; have := HZ_4.out; have := HZE_5.out; have := HZ_5.out; have := HZ_6.out; have := HZE_7.out; have := HZ_7.out; have := HZ_8.out; have := HZ_9.out; have := HZE_10.out; have := HZ_10.out; have := HZ_11.out; have := HZ_12.out; have := HZ_13.out; have := HZ_14.out; have := HZ_15.out; have := HZ_16.out; omega))))
  have HOG_16 := Lib.hid (HOG_15.out.chg hc (HIG.out.outside (.inr (by have := HZ_0.out; have := HZ_1.out; have := HZ_2.out; have := HZ_3.out; have := HZ_4.out; have := HZE_5.out; have := HZ_5.out; have := HZ_6.out; have := HZE_7.out; have := HZ_7.out; have := HZ_8.out; have := HZ_9.out; have := HZE_10.out; have := HZ_10.out; have := HZ_11.out; have := HZ_12.out; have := HZ_13.out; have := HZ_14.out; have := HZ_15.out; have := HZ_16.out; omega))) (HIG'.out.outside (.inr (by have := HZ_0.out; have := HZ_1.out; have := HZ_2.out; have := HZ_3.out; have := HZ_4.out; have := HZE_5.out; have := HZ_5.out; have := HZ_6.out; have := HZE_7.out; have := HZ_7.out; have := HZ_8.out; have := HZ_9.out; have := HZE_10.out; have := HZ_10.out; have := HZ_11.out; have := HZ_12.out; have := HZ_13.out; have := HZ_14.out; have := HZ_15.out; have := HZ_16.out; omega))))
  have HOx0_16 := Lib.hid o; clear hc o
  go_wp2_with fail
  refine (markIntS_any w7.heap.size Ax1 n1 cx1 xs1 (1 + (n0 : Int) + (n0' : Int)) w16 HOx1_16.out HL1.out (by omega) (by omega) (by omega)).mono ?_
  rintro e w17 ⟨rfl, o, hg⟩
  have hc : Chg w7.heap.size w8.heap.size w16 w17 := Chg.of_grown hg (fun k hk => HIx1.out k hk); clear hg
  have HB_17 : Hid (Below w.heap.size w w17) := HB_16.out.trans (hc.below (by have := HZ_0.out; have := HZ_1.out; have := HZ_2.out; have := HZ_3.out; have := HZ_4.out; have := HZE_5.out; have := HZ_5.out; have := HZ_6.out; have := HZE_7.out; have := HZ_7.out; have := HZ_8.out; have := HZ_9.out; have := HZE_10.out; have := HZ_10.out; have := HZ_11.out; have := HZ_12.out; have := HZ_13.out; have := HZ_14.out; have := HZ_15.out; have := HZ_16.out; omega) HB_16.out.size); have HZ_17 := Lib.hid hc.size
  have hx := HXp0_16.out.chg hc (.inl (by have := HZ_0.out; have := HZ_1.out; have := HZ_2.out; have := HZ_3.out; have := HZ_4.out; have := HZE_5.out; have := HZ_5.out; have := HZ_6.out; have := HZE_7.out; have := HZ_7.out; have := HZ_8.out; have := HZ_9.out; have := HZE_10.out; have := HZ_10.out; have := HZ_11.out; have := HZ_12.out; have := HZ_13.out; have := HZ_14.out; have := HZ_15.out; have := HZ_16.out; have := HZ_17.out; omega)); clear cb_p0_0 cb_p0_1
  have cb_p0_0 := hx.cell0; have cb_p0_1 := hx.cell1
  have HXp0_17 := Lib.hid hx; clear hx
  have hx := HXvW_16.out.chg hc (.inl (by have := HZ_0.out; have := HZ_1.out; have := HZ_2.out; have := HZ_3.out; have := HZ_4.out; have := HZE_5.out; have := HZ_5.out; have := HZ_6.out; have := HZE_7.out; have := HZ_7.out; have := HZ_8.out; have := HZ_9.out; have := HZE_10.out; have := HZ_10.out; have := HZ_11.out; have := HZ_12.out; have := HZ_13.out; have := HZ_14.out; have := HZ_15.out; have := HZ_16.out; have := HZ_17.out; omega)); clear cb_vW_0 cb_vW_1
  have cb_vW_0 := hx.cell0; have cb_vW_1 := hx.cell1
  have HXvW_17 := Lib.hid hx; clear hx
  have hx := HXvx0_16.out.chg hc (.inl (by have := HZ_0.out; have := HZ_1.out; have := HZ_2.out; have := HZ_3.out; have := HZ_4.out; have := HZE_5.out; have := HZ_5.out; have := HZ_6.out; have := HZE_7.out; have := HZ_7.out; have := HZ_8.out; have := HZ_9.out; have := HZE_10.out; have := HZ_10.out; have := HZ_11.out; have := HZ_12.out; have := HZ_13.out; have := HZ_14.out; have := HZ_15.out; have := HZ_16.out; have := HZ_17.out; omega)); clear cb_vx0_0 cb_vx0_1
  have cb_vx0_0 := hx.cell0; have cb_vx0_1 := hx.cell1
  have HXvx0_17 := Lib.hid hx; clear hx
  have hx := HXvG_16.out.chg hc (.inr (by have := HZ_0.out; have := HZ_1.out; have := HZ_2.out; have := HZ_3.out; have := HZ_4.out; have := HZE_5.out; have := HZ_5.out; have := HZ_6.out; have := HZE_7.out; have := HZ_7.out; have := HZ_8.out; have := HZ_9.out; have := HZE_10.out; have := HZ_10.out; have := HZ_11.out; have := HZ_12.out; have := HZ_13.out; have := HZ_14.out; have := HZ_15.out; have := HZ_16.out; have := HZ_17.out; omega)); clear cb_vG_0 cb_vG_1
  have cb_vG_0 := hx.cell0; have cb_vG_1 := hx.cell1
  have HXvG_17 := Lib.hid hx; clear hx
  have HOW_17 := Lib.hid (HOW_16.out.chg hc (HIW.out.outside (.inl (by have := HZ_0.out; have := HZ_1.out; have := HZ_2.out; have := HZ_3.out; have := HZ_4.out; have := HZE_5.out; have := HZ_5.out; have := HZ_6.out; have := HZE_7.out; have := HZ_7.out; have := HZ_8.out; have := HZ_9.out; have := HZE_10.out; have := HZ_10.out; have := HZ_11.out; have := HZ_12.out; have := HZ_13.out; have := HZ_14.out; have := HZ_15.out; have := HZ_16.out; have := HZ_17.out; omega))) (HIW'.out.outside (.inl (by have := HZ_0.out; have := HZ_1.out; have := HZ_2.out; have := HZ_3.out; have := HZ_4.out; have := HZE_5.out; have := HZ_5.out; have := HZ_6.out; have := HZE_7.out; have := HZ_7.out; have := HZ_8.out; have := HZ_9.out; have := HZE_10.out; have := HZ_10.out; have := HZ_11.out; have := HZ_12.out; have := HZ_13.out; have := HZ_14.out; have := HZ_15.out; have := HZ_16.out; have := HZ_17.out; omega))))
  have HOx0_17 := Lib.hid (HOx0_16.out.chg hc (HIx0.out.outside (.inl (by have := HZ_0.out; have := HZ_1.out; have := HZ_2.out; have := HZ_3.out; have := HZ_4.out; have := HZE_5.out; have := HZ_5.out; have := HZ_6.out; have := HZE_7.out; have := HZ_7.out; have := HZ_8.out; have := HZ_9.out; have := HZE_10.out; have := HZ_10.out; have := HZ_11.out; have := HZ_12.out; have := HZ_13.out; have := HZ_14.out; have := HZ_15.out; have := HZ_16.out; have := HZ_17.out; omega))) (HIx0'.out.outside (.inl (by have := HZ_0.out; have := HZ_1.out; have := HZ_2.out; have := HZ_3.out; have := HZ_4.out; have := HZE_5.out; have := HZ_5.out; have := HZ_6.out; have := HZE_7.out; have := HZ_7.out; have := HZ_8.out; have := HZ_9.out; have := HZE_10.out; have := HZ_10.out; have := HZ_11.out; have := HZ_12.out; have := HZ_13.out; have := HZ_14.out; have := HZ_15.out; have := HZ_16.out; have := HZ_17.out; omega))))
  have HOG_17 := Lib.hid (HOG_16.out.chg hc (HIG.out.outside (.inr (by have := HZ_0.out; have := HZ_1.out; have := HZ_2.out; have := HZ_3.out; have := HZ_4.out; have := HZE_5.out; have := HZ_5.out; have := HZ_6.out; have := HZE_7.out; have := HZ_7.out; have := HZ_8.out; have := HZ_9.out; have := HZE_10.out; have := HZ_10.out; have := HZ_11.out; have := HZ_12.out; have := HZ_13.out; have := HZ_14.out; have := HZ_15.out; have := HZ_16.out; have := HZ_17.out; omega))) (HIG'.out.outside (.inr (by have := HZ_0.out; have := HZ_1.out; have := HZ_2.out; have := HZ_3.out; have := HZ_4.out; have := HZE_5.out; have := HZ_5.out; have := HZ_6.out; have := HZE_7.out; have := HZ_7.out; have := HZ_8.out; have := HZ_9.out; have := HZE_10.out; have := HZ_10.out; have := HZ_11.out; have := HZ_12.out; have := HZ_13.out; have := HZ_14.out; have := HZ_15.out; have := HZ_16.out; have := HZ_17.out; omega))))
  have HOx1_17 := Lib.hid o; clear hc o
  go_wp2_with fail
  refine (eqMap_same AG AG' AW AW' m m' cG cG' cW cW' yt yf w17 (HOG_17.out.turn.rd HMM.out) (HOG_17.out.flip.rd HMM'.out) (HOW_17.out.turn.rd HMM.out) (HOW_17.out.flip.rd HMM'.out) (by omega) (by omega)).mono ?_
  rintro e w18 ⟨rfl, b⟩
  have HB_18 := Lib.hid (HB_17.out.trans (b.mono HB_17.out.size)); have HZ_18 := Lib.hid b.size
  have hx := HXp0_17.out.below b; clear cb_p0_0 cb_p0_1
  have cb_p0_0 := hx.cell0; have cb_p0_1 := hx.cell1
  have HXp0_18 := Lib.hid hx; clear hx
  have hx := HXvW_17.out.below b; clear cb_vW_0 cb_vW_1
  have cb_vW_0 := hx.cell0; have cb_vW_1 := hx.cell1
  have HXvW_18 := Lib.hid hx; clear hx
  have hx := HXvx0_17.out.below b; clear cb_vx0_0 cb_vx0_1
  have cb_vx0_0 := hx.cell0; have cb_vx0_1 := hx.cell1
  have HXvx0_18 := Lib.hid hx; clear hx
  have hx := HXvG_17.out.below b; clear cb_vG_0 cb_vG_1
  have cb_vG_0 := hx.cell0; have cb_vG_1 := hx.cell1
  have HXvG_18 := Lib.hid hx; clear hx
  have HOW_18 := Lib.hid (HOW_17.out.below b)
  have HOx0_18 := Lib.hid (HOx0_17.out.below b)
  have HOx1_18 := Lib.hid (HOx1_17.out.below b)
  have HOG_18 := Lib.hid (HOG_17.out.below b)
  clear b
  go_wp2_with fail
  refine (markMap_any w8.heap.size w9.heap.size w8.heap.size AG AG' m m' cG cG' yt yf 1 w18 HOG_18.out HMM.out HMM'.out (by omega) (by omega) (by omega) (by omega) HIG.out HIG'.out (by have := HZ_0.out; have := HZ_1.out; have := HZ_2.out; have := HZ_3.out; have := HZ_4.out; have := HZE_5.out; have := HZ_5.out; have := HZ_6.out; have := HZE_7.out; have := HZ_7.out; have := HZ_8.out; have := HZ_9.out; have := HZE_10.out; have := HZ_10.out; have := HZ_11.out; have := HZ_12.out; have := HZ_13.out; have := HZ_14.out; have := HZ_15.out; have := HZ_16.out; have := HZ_17.out; have := HZ_18.out; omega)).mono ?_
  rintro e w19 ⟨rfl, o, hc⟩
  have HB_19 : Hid (Below w.heap.size w w19) := HB_18.out.trans (hc.below (by have := HZ_0.out; have := HZ_1.out; have := HZ_2.out; have := HZ_3.out; have := HZ_4.out; have := HZE_5.out; have := HZ_5.out; have := HZ_6.out; have := HZE_7.out; have := HZ_7.out; have := HZ_8.out; have := HZ_9.out; have := HZE_10.out; have := HZ_10.out; have := HZ_11.out; have := HZ_12.out; have := HZ_13.out; have := HZ_14.out; have := HZ_15.out; have := HZ_16.out; have := HZ_17.out; have := HZ_18.out; omega) HB_18.out.size); have HZ_19 := Lib.hid hc.size
  have hx := HXp0_18.out.chg hc (.inl (by have := HZ_0.out; have := HZ_1.out; have := HZ_2.out; have := HZ_3.out; have := HZ_4.out; have := HZE_5.out; have := HZ_5.out; have := HZ_6.out; have := HZE_7.out; have := HZ_7.out; have := HZ_8.out; have := HZ_9.out; have := HZE_10.out; have := HZ_10.out; have := HZ_11.out; have := HZ_12.out; have := HZ_13.out; have := HZ_14.out; have := HZ_15.out; have := HZ_16.out; have := HZ_17.out; have := HZ_18.out; have := HZ_19.out; omega)); clear cb_p0_0 cb_p0_1
  have cb_p0_0 := hx.cell0; have cb_p0_1 := hx.cell1
  have HXp0_19 := Lib.hid hx; clear hx
  have hx := HXvW_18.out.chg hc (.inl (by have := HZ_0.out; have := HZ_1.out; have := HZ_2.out; have := HZ_3.out; have := HZ_4.out; have := HZE_5.out; have := HZ_5.out; have := HZ_6.out; have := HZE_7.out; have := HZ_7.out; have := HZ_8.out; have := HZ_9.out; have := HZE_10.out; have := HZ_10.out; have := HZ_11.out; have := HZ_12.out; have := HZ_13.out; have := HZ_14.out; have := HZ_15.out; have := HZ_16.out; have := HZ_17.out; have := HZ_18.out; have := HZ_19.out; omega)); clear cb_vW_0 cb_vW_1
  have cb_vW_0 := hx.cell0; have cb_vW_1 := hx.cell1
  have HXvW_19 := Lib.hid hx; clear hx
  have hx := HXvx0_18.out.chg hc (.inl (by have := HZ_0.out; have := HZ_1.out; have := HZ_2.out; have := HZ_3.out; have := HZ_4.out; have := HZE_5.out; have := HZ_5.out; have := HZ_6.out; have := HZE_7.out; have := HZ_7.out; have := HZ_8.out; have := HZ_9.out; have := HZE_10.out; have := HZ_10.out; have := HZ_11.out; have := HZ_12.out; have := HZ_13.out; have := HZ_14.out; have := HZ_15.out; have := HZ_16.out; have := HZ_17.out; have := HZ_18.out; have := HZ_19.out; omega)); clear cb_vx0_0 cb_vx0_1
  have cb_vx0_0 := hx.cell0; have cb_vx0_1 := hx.cell1
  have HXvx0_19 := Lib.hid hx; clear hx
  have hx := HXvG_18.out.chg hc (.inr (by have := HZ_0.out; have := HZ_1.out; have := HZ_2.out; have := HZ_3.out; have := HZ_4.out; have := HZE_5.out; have := HZ_5.out; have := HZ_6.out; have := HZE_7.out; have := HZ_7.out; have := HZ_8.out; have := HZ_9.out; have := HZE_10.out; have := HZ_10.out; have := HZ_11.out; have := HZ_12.out; have := HZ_13.out; have := HZ_14.out; have := HZ_15.out; have := HZ_16.out; have := HZ_17.out; have := HZ_18.out; have := HZ_19.out; omega)); clear cb_vG_0 cb_vG_1
  have cb_vG_0 := hx.cell0; have cb_vG_1 := hx.cell1
  have HXvG_19 := Lib.hid hx; clear hx
  have HOW_19 := Lib.hid (HOW_18.out.chg hc (HIW.out.outside (.inl (by have := HZ_0.out; have := HZ_1.out; have := HZ_2.out; have := HZ_3.out; have := HZ_4.out; have := HZE_5.out; have := HZ_5.out; have := HZ_6.out; have := HZE_7.out; have := HZ_7.out; have := HZ_8.out; have := HZ_9.out; have := HZE_10.out; have := HZ_10.out; have := HZ_11.out; have := HZ_12.out; have := HZ_13.out; have := HZ_14.out; have := HZ_15.out; have := HZ_16.out; have := HZ_17.out; have := HZ_18.out; have := HZ_19.out; omega))) (HIW'.out.outside (.inl (by have := HZ_0.out; have := HZ_1.out; have := HZ_2.out; have := HZ_3.out; have := HZ_4.out; have := HZE_5.out; have := HZ_5.out; have := HZ_6.out; have := HZE_7.out; have := HZ_7.out; have := HZ_8.out; have := HZ_9.out; have := HZE_10.out; have := HZ_10.out; have := HZ_11.out; have := HZ_12.out; have := HZ_13.out; have := HZ_14.out; have := HZ_15.out; have := HZ_16.out; have := HZ_17.out; have := HZ_18.out; have := HZ_19.out; omega))))
  have HOx0_19 := Lib.hid (HOx0_18.out.chg hc (HIx0.out.outside (.inl (by have := HZ_0.out; have := HZ_1.out; have := HZ_2.out; have := HZ_3.out; have := HZ_4.out; have := HZE_5.out; have := HZ_5.out; have := HZ_6.out; have := HZE_7.out; have := HZ_7.out; have := HZ_8.out; have := HZ_9.out; have := HZE_10.out; have := HZ_10.out; have := HZ_11.out; have := HZ_12.out; have := HZ_13.out; have := HZ_14.out; have := HZ_15.out; have := HZ_16.out; have := HZ_17.out; have := HZ_18.out; have := HZ_19.out; omega))) (HIx0'.out.outside (.inl (by have := HZ_0.out; have := HZ_1.out; have := HZ_2.out; have := HZ_3.out; have := HZ_4.out; have := HZE_5.out; have := HZ_5.out; have := HZ_6.out; have := HZE_7.out; have := HZ_7.out; have := HZ_8.out; have := HZ_9.out; have := HZE_10.out; have := HZ_10.out; have := HZ_11.out; have := HZ_12.out; have := HZ_13.out; have := HZ_14.out; have := HZ_15.out; have := HZ_16.out; have := HZ_17.out; have := HZ_18.out; have := HZ_19.out; omega))))
  have HOx1_19 := Lib.hid (HOx1_18.out.chg hc (HIx1.out.outside (.inl (by have := HZ_0.out; have := HZ_1.out; have := HZ_2.out; have := HZ_3.out; have := HZ_4.out; have := HZE_5.out; have := HZ_5.out; have := HZ_6.out; have := HZE_7.out; have := HZ_7.out; have := HZ_8.out; have := HZ_9.out; have := HZE_10.out; have := HZ_10.out; have := HZ_11.out; have := HZ_12.out; have := HZ_13.out; have := HZ_14.out; have := HZ_15.out; have := HZ_16.out; have := HZ_17.out; have := HZ_18.out; have := HZ_19.out; omega))))
  have HOG_19 := Lib.hid o; clear hc o
  have hk2 : decide ((1 : Int) + (m : Int) + (m' : Int) < 0) = false := by simp; omega
  have hk3 : ((1 : Int) + (m : Int) + (m' : Int) != (1 : Int) + (m : Int) + (m' : Int)) = false := by simp
  go_wp2_with fail
  refine (heldMap_any AG AG' m m' cG cG' 1 w19 (HOG_19.out.turn.rd (marks_len _ _)) (HOG_19.out.flip.rd (marks_len _ _)) (by omega) (by omega) (by omega) (by omega)).mono ?_
  rintro e w20 ⟨rfl, b⟩
  have HB_20 := Lib.hid (HB_19.out.trans (b.mono HB_19.out.size)); have HZ_20 := Lib.hid b.size
  have hx := HXp0_19.out.below b; clear cb_p0_0 cb_p0_1
  have cb_p0_0 := hx.cell0; have cb_p0_1 := hx.cell1
  have HXp0_20 := Lib.hid hx; clear hx
  have hx := HXvW_19.out.below b; clear cb_vW_0 cb_vW_1
  have cb_vW_0 := hx.cell0; have cb_vW_1 := hx.cell1
  have HXvW_20 := Lib.hid hx; clear hx
  have hx := HXvx0_19.out.below b; clear cb_vx0_0 cb_vx0_1
  have cb_vx0_0 := hx.cell0; have cb_vx0_1 := hx.cell1
  have HXvx0_20 := Lib.hid hx; clear hx
  have hx := HXvG_19.out.below b; clear cb_vG_0 cb_vG_1
  have cb_vG_0 := hx.cell0; have cb_vG_1 := hx.cell1
  have HXvG_20 := Lib.hid hx; clear hx
  have HOW_20 := Lib.hid (HOW_19.out.below b)
  have HOx0_20 := Lib.hid (HOx0_19.out.below b)
  have HOx1_20 := Lib.hid (HOx1_19.out.below b)
  have HOG_20 := Lib.hid (HOG_19.out.below b)
  clear b
  go_wp2_with fail
  refine (toMap_any A0 A0' n0 n0' c0 c0' t0 f0 w20 (HR0.out.below HB_20.out) (HR0'.out.below HB_20.out) (by omega) (by omega)).mono ?_
  rintro e w21 ⟨u, u', rfl, o, b⟩
  have HIu0 := Lib.hid o.turn.iv; have HIu0' := Lib.hid o.flip.iv
  obtain ⟨Au0, cu0, Au0', cu0', rfl, rfl, -, -⟩ := o.form HL0.out HL0'.out
  have HOu0_21 := Lib.hid o; clear o
  have HB_21 := Lib.hid (HB_20.out.trans (b.mono HB_20.out.size)); have HZ_21 := Lib.hid b.size
  have hx := HXp0_20.out.below b; clear cb_p0_0 cb_p0_1
  have cb_p0_0 := hx.cell0; have cb_p0_1 := hx.cell1
  have HXp0_21 := Lib.hid hx; clear hx
  have hx := HXvW_20.out.below b; clear cb_vW_0 cb_vW_1
  have cb_vW_0 := hx.cell0; have cb_vW_1 := hx.cell1
  have HXvW_21 := Lib.hid hx; clear hx
  have hx := HXvx0_20.out.below b; clear cb_vx0_0 cb_vx0_1
  have cb_vx0_0 := hx.cell0; have cb_vx0_1 := hx.cell1
  have HXvx0_21 := Lib.hid hx; clear hx
  have hx := HXvG_20.out.below b; clear cb_vG_0 cb_vG_1
  have cb_vG_0 := hx.cell0; have cb_vG_1 := hx.cell1
  have HXvG_21 := Lib.hid hx; clear hx
  have HOW_21 := Lib.hid (HOW_20.out.below b)
  have HOG_21 := Lib.hid (HOG_20.out.below b)
  clear b
  go_wp2_with fail
  refine (toIntS_any A1 n1 c1 xs1 w21 (HR1.out.below HB_21.out) (by omega)).mono ?_
  rintro e w22 ⟨v, rfl, o, b⟩
  have HIu1 := Lib.hid o.iv
  obtain ⟨Au1, cu1, rfl, -, -⟩ := o.form' HL1.out
  have HOu1_22 := Lib.hid o; clear o
  have HB_22 := Lib.hid (HB_21.out.trans (b.mono HB_21.out.size)); have HZ_22 := Lib.hid b.size
  have hx := HXp0_21.out.below b; clear cb_p0_0 cb_p0_1
  have cb_p0_0 := hx.cell0; have cb_p0_1 := hx.cell1
  have HXp0_22 := Lib.hid hx; clear hx
  have hx := HXvW_21.out.below b; clear cb_vW_0 cb_vW_1
  have cb_vW_0 := hx.cell0; have cb_vW_1 := hx.cell1
  have HXvW_22 := Lib.hid hx; clear hx
  have hx := HXvx0_21.out.below b; clear cb_vx0_0 cb_vx0_1
  have cb_vx0_0 := hx.cell0; have cb_vx0_1 := hx.cell1
  have HXvx0_22 := Lib.hid hx; clear hx
  have hx := HXvG_21.out.below b; clear cb_vG_0 cb_vG_1
  have cb_vG_0 := hx.cell0; have cb_vG_1 := hx.cell1
  have HXvG_22 := Lib.hid hx; clear hx
  have HOW_22 := Lib.hid (HOW_21.out.below b)
  have HOG_22 := Lib.hid (HOG_21.out.below b)
  have HOu0_22 := Lib.hid (HOu0_21.out.below b)
  clear b
  go_wp2_with fail
  refine (impl_renameR w22 Au0 Au0' n0 n0' cu0 cu0' t0 f0 (HOu0_22.out.turn.rd HL0.out) (HOu0_22.out.flip.rd HL0'.out) (by omega) (by omega) Au1 cu1 n1 xs1 (HOu1_22.out.rd HL1.out) (by omega) HRR.out).mono ?_
  rintro e w23 ⟨u, u', rfl, o, b⟩
  have HIH := Lib.hid o.turn.iv; have HIH' := Lib.hid o.flip.iv
  obtain ⟨AH, cH, AH', cH', rfl, rfl, -, -⟩ := o.form HMM.out HMM'.out
  have HOH_23 := Lib.hid o; clear o
  have HB_23 := Lib.hid (HB_22.out.trans (b.mono HB_22.out.size)); have HZ_23 := Lib.hid b.size
  have hx := HXp0_22.out.below b; clear cb_p0_0 cb_p0_1
  have cb_p0_0 := hx.cell0; have cb_p0_1 := hx.cell1
  have HXp0_23 := Lib.hid hx; clear hx
  have hx := HXvW_22.out.below b; clear cb_vW_0 cb_vW_1
  have cb_vW_0 := hx.cell0; have cb_vW_1 := hx.cell1
  have HXvW_23 := Lib.hid hx; clear hx
  have hx := HXvx0_22.out.below b; clear cb_vx0_0 cb_vx0_1
  have cb_vx0_0 := hx.cell0; have cb_vx0_1 := hx.cell1
  have HXvx0_23 := Lib.hid hx; clear hx
  have hx := HXvG_22.out.below b; clear cb_vG_0 cb_vG_1
  have cb_vG_0 := hx.cell0; have cb_vG_1 := hx.cell1
  have HXvG_23 := Lib.hid hx; clear hx
  have HOW_23 := Lib.hid (HOW_22.out.below b)
  have HOG_23 := Lib.hid (HOG_22.out.below b)
  have HOu0_23 := Lib.hid (HOu0_22.out.below b)
  have HOu1_23 := Lib.hid (HOu1_22.out.below b)
  clear b
  obtain ⟨w24, hW24, hx, b, hz⟩ := Box.local_ w23 32 (.slice AH m cH) (.slice AH' m' cH')
  have HXvH_24 := Lib.hid hx; have HZE_24 := Lib.hid hz; clear hx hz
  have HB_24 := Lib.hid (HB_23.out.trans (b.mono HB_23.out.size)); have HZ_24 := Lib.hid b.size
  have hx := HXp0_23.out.below b; clear cb_p0_0 cb_p0_1
  have cb_p0_0 := hx.cell0; have cb_p0_1 := hx.cell1
  have HXp0_24 := Lib.hid hx; clear hx
  have hx := HXvW_23.out.below b; clear cb_vW_0 cb_vW_1
  have cb_vW_0 := hx.cell0; have cb_vW_1 := hx.cell1
  have HXvW_24 := Lib.hid hx; clear hx
  have hx := HXvx0_23.out.below b; clear cb_vx0_0 cb_vx0_1
  have cb_vx0_0 := hx.cell0; have cb_vx0_1 := hx.cell1
  have HXvx0_24 := Lib.hid hx; clear hx
  have hx := HXvG_23.out.below b; clear cb_vG_0 cb_vG_1
  have cb_vG_0 := hx.cell0; have cb_vG_1 := hx.cell1
  have HXvG_24 := Lib.hid hx; clear hx
  have HOW_24 := Lib.hid (HOW_23.out.below b)
  have HOG_24 := Lib.hid (HOG_23.out.below b)
  have HOu0_24 := Lib.hid (HOu0_23.out.below b)
  have HOu1_24 := Lib.hid (HOu1_23.out.below b)
  have HOH_24 := Lib.hid (HOH_23.out.below b)
  clear b
  have cb_vH_0 := HXvH_24.out.cell0; have cb_vH_1 := HXvH_24.out.cell1
  go_wp2_with fail
  refine (eqMap_same AH AH' AW AW' m m' cH cH' cW cW' yt yf w24 (HOH_24.out.turn.rd HMM.out) (HOH_24.out.flip.rd HMM'.out) (HOW_24.out.turn.rd HMM.out) (HOW_24.out.flip.rd HMM'.out) (by omega) (by omega)).mono ?_
  rintro e w25 ⟨rfl, b⟩
  have HB_25 := Lib.hid (HB_24.out.trans (b.mono HB_24.out.size)); have HZ_25 := Lib.hid b.size
  have hx := HXp0_24.out.below b; clear cb_p0_0 cb_p0_1
  have cb_p0_0 := hx.cell0; have cb_p0_1 := hx.cell1
  have HXp0_25 := Lib.hid hx; clear hx
  have hx := HXvW_24.out.below b; clear cb_vW_0 cb_vW_1
  have cb_vW_0 := hx.cell0; have cb_vW_1 := hx.cell1
  have HXvW_25 := Lib.hid hx; clear hx
  have hx := HXvx0_24.out.below b; clear cb_vx0_0 cb_vx0_1
  have cb_vx0_0 := hx.cell0; have cb_vx0_1 := hx.cell1
  have HXvx0_25 := Lib.hid hx; clear hx
  have hx := HXvG_24.out.below b; clear cb_vG_0 cb_vG_1
  have cb_vG_0 := hx.cell0; have cb_vG_1 := hx.cell1
  have HXvG_25 := Lib.hid hx; clear hx
  have hx := HXvH_24.out.below b; clear cb_vH_0 cb_vH_1
  have cb_vH_0 := hx.cell0; have cb_vH_1 := hx.cell1
  have HXvH_25 := Lib.hid hx; clear hx
  have HOW_25 := Lib.hid (HOW_24.out.below b)
  have HOG_25 := Lib.hid (HOG_24.out.below b)
  have HOu0_25 := Lib.hid (HOu0_24.out.below b)
  have HOu1_25 := Lib.hid (HOu1_24.out.below b)
  have HOH_25 := Lib.hid (HOH_24.out.below b)
  clear b
  go_wp2_with fail
  refine (heldMap_any AG AG' m m' cG cG' 1 w25 (HOG_25.out.turn.rd (marks_len _ _)) (HOG_25.out.flip.rd (marks_len _ _)) (by omega) (by omega) (by omega) (by omega)).mono ?_
  rintro e w26 ⟨rfl, b⟩
  have HB_26 := Lib.hid (HB_25.out.trans (b.mono HB_25.out.size)); have HZ_26 := Lib.hid b.size
  have hx := HXp0_25.out.below b; clear cb_p0_0 cb_p0_1
  have cb_p0_0 := hx.cell0; have cb_p0_1 := hx.cell1
  have HXp0_26 := Lib.hid hx; clear hx
  have hx := HXvW_25.out.below b; clear cb_vW_0 cb_vW_1
  have cb_vW_0 := hx.cell0; have cb_vW_1 := hx.cell1
  have HXvW_26 := Lib.hid hx; clear hx
  have hx := HXvx0_25.out.below b; clear cb_vx0_0 cb_vx0_1
  have cb_vx0_0 := hx.cell0; have cb_vx0_1 := hx.cell1
  have HXvx0_26 := Lib.hid hx; clear hx
  have hx := HXvG_25.out.below b; clear cb_vG_0 cb_vG_1
  have cb_vG_0 := hx.cell0; have cb_vG_1 := hx.cell1
  have HXvG_26 := Lib.hid hx; clear hx
  have hx := HXvH_25.out.below b; clear cb_vH_0 cb_vH_1
  have cb_vH_0 := hx.cell0; have cb_vH_1 := hx.cell1
  have HXvH_26 := Lib.hid hx; clear hx
  have HOW_26 := Lib.hid (HOW_25.out.below b)
  have HOG_26 := Lib.hid (HOG_25.out.below b)
  have HOu0_26 := Lib.hid (HOu0_25.out.below b)
  have HOu1_26 := Lib.hid (HOu1_25.out.below b)
  have HOH_26 := Lib.hid (HOH_25.out.below b)
  clear b
  go_wp2_with fail
  go_ret
  exact ⟨rfl, HB_26.out⟩

end Go.Proofs.Ytdbiegmekmfgdaa
