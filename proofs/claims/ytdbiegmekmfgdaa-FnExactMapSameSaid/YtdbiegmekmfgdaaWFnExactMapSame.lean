/-
  FnExactMapSame: the walk of the law: the model and the program are called by their contracts.
-/
import Derived.Test.YtdbiegmekmfgdaaSame
import Derived.Test.YtdbiegmekmfgdaaSameS
import Derived.Test.YtdbiegmekmfgdaaKitM
import Derived.Deep.RegionHeld3
namespace Go.Proofs.Ytdbiegmekmfgdaa
open Go.RowKit

set_option maxRecDepth 100000 in
set_option maxHeartbeats 3200000 in
theorem walk_FnExactMapSame (A0 A0' : Option Addr) (n0 n0' c0 c0' : Nat) (t0 f0 : List Int) (A1 A1' : Option Addr) (n1 n1' c1 c1' : Nat) (t1 f1 : List Int) (w : World) (hr0 : Rd w A0 n0 t0) (hr0' : Rd w A0' n0' f0) (hm0 : n0 ≤ maxLen) (hm0' : n0' ≤ maxLen) (hr1 : Rd w A1 n1 t1) (hr1' : Rd w A1' n1' f1) (hm1 : n1 ≤ maxLen) (hm1' : n1' ≤ maxLen) :
    Calls Try.prog 13 #[.agg #[.slice A0 n0 c0, .slice A0' n0' c0'], .agg #[.slice A1 n1 c1, .slice A1' n1' c1']] w fun e w' => e = .returned (.bool true) ∧ Below w.heap.size w w' := by
  have HR0 := Lib.hid hr0; have HR0' := Lib.hid hr0'; have HL0 := Lib.hid hr0.1; have HL0' := Lib.hid hr0'.1; clear hr0 hr0'
  have HR1 := Lib.hid hr1; have HR1' := Lib.hid hr1'; have HL1 := Lib.hid hr1.1; have HL1' := Lib.hid hr1'.1; clear hr1 hr1'
  obtain ⟨w0, hW0⟩ : ∃ w0, ((w.alloc (.cells #[.slice A0 n0 c0, .slice A0' n0' c0'] 29)).alloc (.cells #[.slice A1 n1 c1, .slice A1' n1' c1'] 29)) = w0 := ⟨_, rfl⟩
  have hx : Box w0 (w.heap.size) 29 (.slice A0 n0 c0) (.slice A0' n0' c0') := by rw [← hW0]; have h := Box.new w 29 (.slice A0 n0 c0) (.slice A0' n0' c0'); exact h.below ((Below.refl _ _).alloc (Nat.le_refl _) _)
  have cb_p0_0 := hx.cell0; have cb_p0_1 := hx.cell1
  have HXp0_0 := Lib.hid hx; clear hx
  have hx : Box w0 (w.heap.size + 1) 29 (.slice A1 n1 c1) (.slice A1' n1' c1') := by rw [← hW0]; have h := Box.new (w.alloc (.cells #[.slice A0 n0 c0, .slice A0' n0' c0'] 29)) 29 (.slice A1 n1 c1) (.slice A1' n1' c1'); simp only [World.size_alloc] at h; exact h
  have cb_p1_0 := hx.cell0; have cb_p1_1 := hx.cell1
  have HXp1_0 := Lib.hid hx; clear hx
  have HB_0 : Hid (Below w.heap.size w w0) := by rw [← hW0]; exact ((Below.refl _ _).alloc (by simp) _).alloc (by simp) _
  have HZ_0 : Hid (w.heap.size + 2 = w0.heap.size) := by rw [Hid, ← hW0]; simp
  obtain ⟨r0, hr⟩ : ∃ r, szOf (1048576) n0 n0' = r := ⟨_, rfl⟩
  by_cases hs0 : r0 < 0
  · have E0 := Lib.hid hr; clear hr
    have hsd0 : decide (r0 < 0) = true := by simp [hs0]
    go_enter Try.func13, Try.ntmps13
    go_wp2_with fail
    refine (szMap_any A0 A0' n0 n0' c0 c0' (1048576) w0 hm0 hm0' (by omega) (by omega) E0.out).mono ?_
    rintro e w1 ⟨rfl, b⟩
    have HB_1 := Lib.hid (HB_0.out.trans (b.mono HB_0.out.size)); clear b
    go_wp2_with fail
    go_ret
    exact ⟨rfl, HB_1.out⟩
  obtain ⟨hq0, hv0⟩ := szOf_fits (m := 1048576) (n := n0) (n' := n0') (by omega) (by rw [hr]; exact hs0)
  rw [hv0] at hr; clear hv0
  subst hr
  have hsd0 : decide (1048576 - (n0 : Int) - (n0' : Int) < 0) = false := by simp; omega
  have E0 : Hid (szOf (1048576) n0 n0' = 1048576 - (n0 : Int) - (n0' : Int)) := szOf_eq (by omega)
  obtain ⟨r1, hr⟩ : ∃ r, szOf (1048576 - (n0 : Int) - (n0' : Int)) n1 n1' = r := ⟨_, rfl⟩
  by_cases hs1 : r1 < 0
  · have E1 := Lib.hid hr; clear hr
    have hsd1 : decide (r1 < 0) = true := by simp [hs1]
    go_enter Try.func13, Try.ntmps13
    go_wp2_with fail
    refine (szMap_any A0 A0' n0 n0' c0 c0' (1048576) w0 hm0 hm0' (by omega) (by omega) E0.out).mono ?_
    rintro e w1 ⟨rfl, b⟩
    have HB_1 := Lib.hid (HB_0.out.trans (b.mono HB_0.out.size))
    have hx := HXp0_0.out.below b; clear cb_p0_0 cb_p0_1; have cb_p0_0 := hx.cell0; have cb_p0_1 := hx.cell1; clear hx
    have hx := HXp1_0.out.below b; clear cb_p1_0 cb_p1_1; have cb_p1_0 := hx.cell0; have cb_p1_1 := hx.cell1; clear hx
    clear b
    go_wp2_with fail
    refine (szMap_any A1 A1' n1 n1' c1 c1' (1048576 - (n0 : Int) - (n0' : Int)) w1 hm1 hm1' (by omega) (by omega) E1.out).mono ?_
    rintro e w2 ⟨rfl, b⟩
    have HB_2 := Lib.hid (HB_1.out.trans (b.mono HB_1.out.size)); clear b
    go_wp2_with fail
    go_ret
    exact ⟨rfl, HB_2.out⟩
  obtain ⟨hq1, hv1⟩ := szOf_fits (m := 1048576 - (n0 : Int) - (n0' : Int)) (n := n1) (n' := n1') (by omega) (by rw [hr]; exact hs1)
  rw [hv1] at hr; clear hv1
  have E1' := Lib.hid hr
  have hsd1 : decide (r1 < 0) = false := by simp; omega
  have E1 : Hid (szOf (1048576 - (n0 : Int) - (n0' : Int)) n1 n1' = r1) := by rw [Hid, szOf_eq (by omega)]; exact hr
  clear hr
  obtain ⟨r, hR⟩ : ∃ r, sameR t0 f0 t1 f1 = r := ⟨_, rfl⟩
  have HRR := Lib.hid hR; clear hR
  have hok : (r != r) = false := by simp
  go_enter Try.func13, Try.ntmps13
  go_wp2_with fail
  refine (szMap_any A0 A0' n0 n0' c0 c0' (1048576) w0 hm0 hm0' (by omega) (by omega) E0.out).mono ?_
  rintro e w1 ⟨rfl, b⟩
  have HB_1 := Lib.hid (HB_0.out.trans (b.mono HB_0.out.size)); have HZ_1 := Lib.hid b.size
  have hx := HXp0_0.out.below b; clear cb_p0_0 cb_p0_1
  have cb_p0_0 := hx.cell0; have cb_p0_1 := hx.cell1
  have HXp0_1 := Lib.hid hx; clear hx
  have hx := HXp1_0.out.below b; clear cb_p1_0 cb_p1_1
  have cb_p1_0 := hx.cell0; have cb_p1_1 := hx.cell1
  have HXp1_1 := Lib.hid hx; clear hx
  clear b
  go_wp2_with fail
  refine (szMap_any A1 A1' n1 n1' c1 c1' (1048576 - (n0 : Int) - (n0' : Int)) w1 hm1 hm1' (by omega) (by omega) E1.out).mono ?_
  rintro e w2 ⟨rfl, b⟩
  have HB_2 := Lib.hid (HB_1.out.trans (b.mono HB_1.out.size)); have HZ_2 := Lib.hid b.size
  have hx := HXp0_1.out.below b; clear cb_p0_0 cb_p0_1
  have cb_p0_0 := hx.cell0; have cb_p0_1 := hx.cell1
  have HXp0_2 := Lib.hid hx; clear hx
  have hx := HXp1_1.out.below b; clear cb_p1_0 cb_p1_1
  have cb_p1_0 := hx.cell0; have cb_p1_1 := hx.cell1
  have HXp1_2 := Lib.hid hx; clear hx
  clear b
  go_wp2_with fail
  go_region_held3 (fun w' => w'.cell? ⟨w.heap.size, 0, none⟩ = some (.slice A0 n0 c0) ∧ w'.cell? ⟨w.heap.size, 1, none⟩ = some (.slice A0' n0' c0') ∧ w'.cell? ⟨w.heap.size + 1, 0, none⟩ = some (.slice A1 n1 c1) ∧ w'.cell? ⟨w.heap.size + 1, 1, none⟩ = some (.slice A1' n1' c1')) (first | go_keep | exact ⟨(((HXp0_2.out.below BS0.out).below BS1.out).below BS2.out).cell0, (((HXp0_2.out.below BS0.out).below BS1.out).below BS2.out).cell1, (((HXp1_2.out.below BS0.out).below BS1.out).below BS2.out).cell0, (((HXp1_2.out.below BS0.out).below BS1.out).below BS2.out).cell1⟩ | exact ⟨((HXp0_2.out.below BS0.out).below BS1.out).cell0, ((HXp0_2.out.below BS0.out).below BS1.out).cell1, ((HXp1_2.out.below BS0.out).below BS1.out).cell0, ((HXp1_2.out.below BS0.out).below BS1.out).cell1⟩ | exact ⟨(HXp0_2.out.below BS0.out).cell0, (HXp0_2.out.below BS0.out).cell1, (HXp1_2.out.below BS0.out).cell0, (HXp1_2.out.below BS0.out).cell1⟩) (first
    | (have hchk := BS0.out; clear hchk; go_at_call 24; refine (toMap_any A1 A1' n1 n1' c1 c1' t1 f1 _ (HR1.out.below HBS0.out) (HR1'.out.below HBS0.out) (by omega) (by omega)).mono ?_; rintro e w4 ⟨u, u', rfl, o, b⟩; have HIs1 := Lib.hid o.turn.iv; have HIs1' := Lib.hid o.flip.iv; obtain ⟨As1, cs1, As1', cs1', rfl, rfl, -, -⟩ := o.form HL1.out HL1'.out; have HOs1 := Lib.hid o; have BS1 := Lib.hid b; have HOs0b := Lib.hid (HOs0.out.below b); clear o b)
    | (go_at_call 24; refine (toMap_any A0 A0' n0 n0' c0 c0' t0 f0 _ ((HR0.out.below HB_2.out).drewN _) ((HR0'.out.below HB_2.out).drewN _) (by omega) (by omega)).mono ?_; rintro e w3 ⟨u, u', rfl, o, b⟩; have HIs0 := Lib.hid o.turn.iv; have HIs0' := Lib.hid o.flip.iv; obtain ⟨As0, cs0, As0', cs0', rfl, rfl, -, -⟩ := o.form HL0.out HL0'.out; have HOs0 := Lib.hid o; have BS0 : Hid (Below w2.heap.size w2 w3) := Below.of_drewN b; have HBS0 : Hid (Below w.heap.size w w3) := HB_2.out.trans (BS0.out.mono HB_2.out.size); clear o b)
    | (go_at_call 45; refine (spec_sameR _ As0 As0' n0 n0' cs0 cs0' t0 f0 (HOs0b.out.turn.rd HL0.out) (HOs0b.out.flip.rd HL0'.out) (by omega) (by omega) As1 As1' n1 n1' cs1 cs1' t1 f1 (HOs1.out.turn.rd HL1.out) (HOs1.out.flip.rd HL1'.out) (by omega) (by omega) HRR.out).mono ?_; rintro e w5 ⟨rfl, b⟩; have BS2 := Lib.hid b; clear b))
  have b := BS0.out
  have HB_3 := Lib.hid (HB_2.out.trans (b.mono HB_2.out.size)); have HZ_3 := Lib.hid b.size
  have hx := HXp0_2.out.below b; clear cb_p0_0 cb_p0_1
  have cb_p0_0 := hx.cell0; have cb_p0_1 := hx.cell1
  have HXp0_3 := Lib.hid hx; clear hx
  have hx := HXp1_2.out.below b; clear cb_p1_0 cb_p1_1
  have cb_p1_0 := hx.cell0; have cb_p1_1 := hx.cell1
  have HXp1_3 := Lib.hid hx; clear hx
  clear b
  have b := BS1.out
  have HB_4 := Lib.hid (HB_3.out.trans (b.mono HB_3.out.size)); have HZ_4 := Lib.hid b.size
  have hx := HXp0_3.out.below b; clear cb_p0_0 cb_p0_1
  have cb_p0_0 := hx.cell0; have cb_p0_1 := hx.cell1
  have HXp0_4 := Lib.hid hx; clear hx
  have hx := HXp1_3.out.below b; clear cb_p1_0 cb_p1_1
  have cb_p1_0 := hx.cell0; have cb_p1_1 := hx.cell1
  have HXp1_4 := Lib.hid hx; clear hx
  clear b
  have b := BS2.out
  have HB_5 := Lib.hid (HB_4.out.trans (b.mono HB_4.out.size)); have HZ_5 := Lib.hid b.size
  have hx := HXp0_4.out.below b; clear cb_p0_0 cb_p0_1
  have cb_p0_0 := hx.cell0; have cb_p0_1 := hx.cell1
  have HXp0_5 := Lib.hid hx; clear hx
  have hx := HXp1_4.out.below b; clear cb_p1_0 cb_p1_1
  have cb_p1_0 := hx.cell0; have cb_p1_1 := hx.cell1
  have HXp1_5 := Lib.hid hx; clear hx
  clear b
  go_wp2_with fail
  refine (toMap_any A0 A0' n0 n0' c0 c0' t0 f0 w5 (HR0.out.below HB_5.out) (HR0'.out.below HB_5.out) (by omega) (by omega)).mono ?_
  rintro e w6 ⟨u, u', rfl, o, b⟩
  have HIx0 := Lib.hid o.turn.iv; have HIx0' := Lib.hid o.flip.iv
  obtain ⟨Ax0, cx0, Ax0', cx0', rfl, rfl, -, -⟩ := o.form HL0.out HL0'.out
  have HOx0_6 := Lib.hid o; clear o
  have HB_6 := Lib.hid (HB_5.out.trans (b.mono HB_5.out.size)); have HZ_6 := Lib.hid b.size
  have hx := HXp0_5.out.below b; clear cb_p0_0 cb_p0_1
  have cb_p0_0 := hx.cell0; have cb_p0_1 := hx.cell1
  have HXp0_6 := Lib.hid hx; clear hx
  have hx := HXp1_5.out.below b; clear cb_p1_0 cb_p1_1
  have cb_p1_0 := hx.cell0; have cb_p1_1 := hx.cell1
  have HXp1_6 := Lib.hid hx; clear hx
  clear b
  obtain ⟨w7, hW7, hx, b, hz⟩ := Box.local_ w6 32 (.slice Ax0 n0 cx0) (.slice Ax0' n0' cx0')
  have HXvx0_7 := Lib.hid hx; have HZE_7 := Lib.hid hz; clear hx hz
  have HB_7 := Lib.hid (HB_6.out.trans (b.mono HB_6.out.size)); have HZ_7 := Lib.hid b.size
  have hx := HXp0_6.out.below b; clear cb_p0_0 cb_p0_1
  have cb_p0_0 := hx.cell0; have cb_p0_1 := hx.cell1
  have HXp0_7 := Lib.hid hx; clear hx
  have hx := HXp1_6.out.below b; clear cb_p1_0 cb_p1_1
  have cb_p1_0 := hx.cell0; have cb_p1_1 := hx.cell1
  have HXp1_7 := Lib.hid hx; clear hx
  have HOx0_7 := Lib.hid (HOx0_6.out.below b)
  clear b
  have cb_vx0_0 := HXvx0_7.out.cell0; have cb_vx0_1 := HXvx0_7.out.cell1
  go_wp2_with fail
  refine (toMap_any A1 A1' n1 n1' c1 c1' t1 f1 w7 (HR1.out.below HB_7.out) (HR1'.out.below HB_7.out) (by omega) (by omega)).mono ?_
  rintro e w8 ⟨u, u', rfl, o, b⟩
  have HIx1 := Lib.hid o.turn.iv; have HIx1' := Lib.hid o.flip.iv
  obtain ⟨Ax1, cx1, Ax1', cx1', rfl, rfl, -, -⟩ := o.form HL1.out HL1'.out
  have HOx1_8 := Lib.hid o; clear o
  have HB_8 := Lib.hid (HB_7.out.trans (b.mono HB_7.out.size)); have HZ_8 := Lib.hid b.size
  have hx := HXp0_7.out.below b; clear cb_p0_0 cb_p0_1
  have cb_p0_0 := hx.cell0; have cb_p0_1 := hx.cell1
  have HXp0_8 := Lib.hid hx; clear hx
  have hx := HXp1_7.out.below b; clear cb_p1_0 cb_p1_1
  have cb_p1_0 := hx.cell0; have cb_p1_1 := hx.cell1
  have HXp1_8 := Lib.hid hx; clear hx
  have hx := HXvx0_7.out.below b; clear cb_vx0_0 cb_vx0_1
  have cb_vx0_0 := hx.cell0; have cb_vx0_1 := hx.cell1
  have HXvx0_8 := Lib.hid hx; clear hx
  have HOx0_8 := Lib.hid (HOx0_7.out.below b)
  clear b
  obtain ⟨w9, hW9, hx, b, hz⟩ := Box.local_ w8 32 (.slice Ax1 n1 cx1) (.slice Ax1' n1' cx1')
  have HXvx1_9 := Lib.hid hx; have HZE_9 := Lib.hid hz; clear hx hz
  have HB_9 := Lib.hid (HB_8.out.trans (b.mono HB_8.out.size)); have HZ_9 := Lib.hid b.size
  have hx := HXp0_8.out.below b; clear cb_p0_0 cb_p0_1
  have cb_p0_0 := hx.cell0; have cb_p0_1 := hx.cell1
  have HXp0_9 := Lib.hid hx; clear hx
  have hx := HXp1_8.out.below b; clear cb_p1_0 cb_p1_1
  have cb_p1_0 := hx.cell0; have cb_p1_1 := hx.cell1
  have HXp1_9 := Lib.hid hx; clear hx
  have hx := HXvx0_8.out.below b; clear cb_vx0_0 cb_vx0_1
  have cb_vx0_0 := hx.cell0; have cb_vx0_1 := hx.cell1
  have HXvx0_9 := Lib.hid hx; clear hx
  have HOx0_9 := Lib.hid (HOx0_8.out.below b)
  have HOx1_9 := Lib.hid (HOx1_8.out.below b)
  clear b
  have cb_vx1_0 := HXvx1_9.out.cell0; have cb_vx1_1 := HXvx1_9.out.cell1
  go_wp2_with fail
  refine (impl_sameR w9 Ax0 Ax0' n0 n0' cx0 cx0' t0 f0 (HOx0_9.out.turn.rd HL0.out) (HOx0_9.out.flip.rd HL0'.out) (by omega) (by omega) Ax1 Ax1' n1 n1' cx1 cx1' t1 f1 (HOx1_9.out.turn.rd HL1.out) (HOx1_9.out.flip.rd HL1'.out) (by omega) (by omega) HRR.out).mono ?_
  rintro e w10 ⟨rfl, b⟩
  have HB_10 := Lib.hid (HB_9.out.trans (b.mono HB_9.out.size)); have HZ_10 := Lib.hid b.size
  have hx := HXp0_9.out.below b; clear cb_p0_0 cb_p0_1
  have cb_p0_0 := hx.cell0; have cb_p0_1 := hx.cell1
  have HXp0_10 := Lib.hid hx; clear hx
  have hx := HXp1_9.out.below b; clear cb_p1_0 cb_p1_1
  have cb_p1_0 := hx.cell0; have cb_p1_1 := hx.cell1
  have HXp1_10 := Lib.hid hx; clear hx
  have hx := HXvx0_9.out.below b; clear cb_vx0_0 cb_vx0_1
  have cb_vx0_0 := hx.cell0; have cb_vx0_1 := hx.cell1
  have HXvx0_10 := Lib.hid hx; clear hx
  have hx := HXvx1_9.out.below b; clear cb_vx1_0 cb_vx1_1
  have cb_vx1_0 := hx.cell0; have cb_vx1_1 := hx.cell1
  have HXvx1_10 := Lib.hid hx; clear hx
  have HOx0_10 := Lib.hid (HOx0_9.out.below b)
  have HOx1_10 := Lib.hid (HOx1_9.out.below b)
  clear b
  go_wp2_with fail
  go_region_held3 (fun w' => w'.cell? ⟨w6.heap.size, 0, none⟩ = some (.slice Ax0 n0 cx0) ∧ w'.cell? ⟨w6.heap.size, 1, none⟩ = some (.slice Ax0' n0' cx0') ∧ w'.cell? ⟨w.heap.size, 0, none⟩ = some (.slice A0 n0 c0) ∧ w'.cell? ⟨w.heap.size, 1, none⟩ = some (.slice A0' n0' c0')) (first | go_keep | exact ⟨(HXvx0_10.out.below BT.out).cell0, (HXvx0_10.out.below BT.out).cell1, (HXp0_10.out.below BT.out).cell0, (HXp0_10.out.below BT.out).cell1⟩ | exact ⟨((HXvx0_10.out.below BT.out).below BE.out).cell0, ((HXvx0_10.out.below BT.out).below BE.out).cell1, ((HXp0_10.out.below BT.out).below BE.out).cell0, ((HXp0_10.out.below BT.out).below BE.out).cell1⟩) (first
    | (go_at_call 24; refine (toMap_any A0 A0' n0 n0' c0 c0' t0 f0 _ ((HR0.out.below HB_10.out).drewN _) ((HR0'.out.below HB_10.out).drewN _) (by omega) (by omega)).mono ?_; rintro e w11 ⟨u, u', rfl, o, b⟩; have BT := Lib.hid (Below.of_drewN b); clear b; have HIt0 := Lib.hid o.turn.iv; have HIt0' := Lib.hid o.flip.iv; obtain ⟨At0, ct0, At0', ct0', rfl, rfl, -, -⟩ := o.form HL0.out HL0'.out; have HOt0_11 := Lib.hid o; clear o)
    | (go_at_call 26; refine (eqMap_same Ax0 Ax0' At0 At0' n0 n0' cx0 cx0' ct0 ct0' t0 f0 _ ((HOx0_10.out.below BT.out).turn.rd HL0.out) ((HOx0_10.out.below BT.out).flip.rd HL0'.out) (HOt0_11.out.turn.rd HL0.out) (HOt0_11.out.flip.rd HL0'.out) (by omega) (by omega)).mono ?_; rintro e w12 ⟨rfl, b⟩; have BE := Lib.hid b; clear b))
  have b := BT.out
  have HB_11 := Lib.hid (HB_10.out.trans (b.mono HB_10.out.size)); have HZ_11 := Lib.hid b.size
  have hx := HXp0_10.out.below b; clear cb_p0_0 cb_p0_1
  have cb_p0_0 := hx.cell0; have cb_p0_1 := hx.cell1
  have HXp0_11 := Lib.hid hx; clear hx
  have hx := HXp1_10.out.below b; clear cb_p1_0 cb_p1_1
  have cb_p1_0 := hx.cell0; have cb_p1_1 := hx.cell1
  have HXp1_11 := Lib.hid hx; clear hx
  have hx := HXvx0_10.out.below b; clear cb_vx0_0 cb_vx0_1
  have cb_vx0_0 := hx.cell0; have cb_vx0_1 := hx.cell1
  have HXvx0_11 := Lib.hid hx; clear hx
  have hx := HXvx1_10.out.below b; clear cb_vx1_0 cb_vx1_1
  have cb_vx1_0 := hx.cell0; have cb_vx1_1 := hx.cell1
  have HXvx1_11 := Lib.hid hx; clear hx
  have HOx0_11 := Lib.hid (HOx0_10.out.below b)
  have HOx1_11 := Lib.hid (HOx1_10.out.below b)
  clear b
  have b := BE.out
  have HB_12 := Lib.hid (HB_11.out.trans (b.mono HB_11.out.size)); have HZ_12 := Lib.hid b.size
  have hx := HXp0_11.out.below b; clear cb_p0_0 cb_p0_1
  have cb_p0_0 := hx.cell0; have cb_p0_1 := hx.cell1
  have HXp0_12 := Lib.hid hx; clear hx
  have hx := HXp1_11.out.below b; clear cb_p1_0 cb_p1_1
  have cb_p1_0 := hx.cell0; have cb_p1_1 := hx.cell1
  have HXp1_12 := Lib.hid hx; clear hx
  have hx := HXvx0_11.out.below b; clear cb_vx0_0 cb_vx0_1
  have cb_vx0_0 := hx.cell0; have cb_vx0_1 := hx.cell1
  have HXvx0_12 := Lib.hid hx; clear hx
  have hx := HXvx1_11.out.below b; clear cb_vx1_0 cb_vx1_1
  have cb_vx1_0 := hx.cell0; have cb_vx1_1 := hx.cell1
  have HXvx1_12 := Lib.hid hx; clear hx
  have HOx0_12 := Lib.hid (HOx0_11.out.below b)
  have HOx1_12 := Lib.hid (HOx1_11.out.below b)
  clear b
  go_wp2_with fail
  go_region_held3 (fun w' => w'.cell? ⟨w8.heap.size, 0, none⟩ = some (.slice Ax1 n1 cx1) ∧ w'.cell? ⟨w8.heap.size, 1, none⟩ = some (.slice Ax1' n1' cx1') ∧ w'.cell? ⟨w.heap.size + 1, 0, none⟩ = some (.slice A1 n1 c1) ∧ w'.cell? ⟨w.heap.size + 1, 1, none⟩ = some (.slice A1' n1' c1')) (first | go_keep | exact ⟨(HXvx1_12.out.below BT.out).cell0, (HXvx1_12.out.below BT.out).cell1, (HXp1_12.out.below BT.out).cell0, (HXp1_12.out.below BT.out).cell1⟩ | exact ⟨((HXvx1_12.out.below BT.out).below BE.out).cell0, ((HXvx1_12.out.below BT.out).below BE.out).cell1, ((HXp1_12.out.below BT.out).below BE.out).cell0, ((HXp1_12.out.below BT.out).below BE.out).cell1⟩) (first
    | (go_at_call 24; refine (toMap_any A1 A1' n1 n1' c1 c1' t1 f1 _ ((HR1.out.below HB_12.out).drewN _) ((HR1'.out.below HB_12.out).drewN _) (by omega) (by omega)).mono ?_; rintro e w13 ⟨u, u', rfl, o, b⟩; have BT := Lib.hid (Below.of_drewN b); clear b; have HIt1 := Lib.hid o.turn.iv; have HIt1' := Lib.hid o.flip.iv; obtain ⟨At1, ct1, At1', ct1', rfl, rfl, -, -⟩ := o.form HL1.out HL1'.out; have HOt1_13 := Lib.hid o; clear o)
    | (go_at_call 26; refine (eqMap_same Ax1 Ax1' At1 At1' n1 n1' cx1 cx1' ct1 ct1' t1 f1 _ ((HOx1_12.out.below BT.out).turn.rd HL1.out) ((HOx1_12.out.below BT.out).flip.rd HL1'.out) (HOt1_13.out.turn.rd HL1.out) (HOt1_13.out.flip.rd HL1'.out) (by omega) (by omega)).mono ?_; rintro e w14 ⟨rfl, b⟩; have BE := Lib.hid b; clear b))
  have b := BT.out
  have HB_13 := Lib.hid (HB_12.out.trans (b.mono HB_12.out.size)); have HZ_13 := Lib.hid b.size
  have hx := HXp0_12.out.below b; clear cb_p0_0 cb_p0_1
  have cb_p0_0 := hx.cell0; have cb_p0_1 := hx.cell1
  have HXp0_13 := Lib.hid hx; clear hx
  have hx := HXp1_12.out.below b; clear cb_p1_0 cb_p1_1
  have cb_p1_0 := hx.cell0; have cb_p1_1 := hx.cell1
  have HXp1_13 := Lib.hid hx; clear hx
  have hx := HXvx0_12.out.below b; clear cb_vx0_0 cb_vx0_1
  have cb_vx0_0 := hx.cell0; have cb_vx0_1 := hx.cell1
  have HXvx0_13 := Lib.hid hx; clear hx
  have hx := HXvx1_12.out.below b; clear cb_vx1_0 cb_vx1_1
  have cb_vx1_0 := hx.cell0; have cb_vx1_1 := hx.cell1
  have HXvx1_13 := Lib.hid hx; clear hx
  have HOx0_13 := Lib.hid (HOx0_12.out.below b)
  have HOx1_13 := Lib.hid (HOx1_12.out.below b)
  clear b
  have b := BE.out
  have HB_14 := Lib.hid (HB_13.out.trans (b.mono HB_13.out.size)); have HZ_14 := Lib.hid b.size
  have hx := HXp0_13.out.below b; clear cb_p0_0 cb_p0_1
  have cb_p0_0 := hx.cell0; have cb_p0_1 := hx.cell1
  have HXp0_14 := Lib.hid hx; clear hx
  have hx := HXp1_13.out.below b; clear cb_p1_0 cb_p1_1
  have cb_p1_0 := hx.cell0; have cb_p1_1 := hx.cell1
  have HXp1_14 := Lib.hid hx; clear hx
  have hx := HXvx0_13.out.below b; clear cb_vx0_0 cb_vx0_1
  have cb_vx0_0 := hx.cell0; have cb_vx0_1 := hx.cell1
  have HXvx0_14 := Lib.hid hx; clear hx
  have hx := HXvx1_13.out.below b; clear cb_vx1_0 cb_vx1_1
  have cb_vx1_0 := hx.cell0; have cb_vx1_1 := hx.cell1
  have HXvx1_14 := Lib.hid hx; clear hx
  have HOx0_14 := Lib.hid (HOx0_13.out.below b)
  have HOx1_14 := Lib.hid (HOx1_13.out.below b)
  clear b
  go_wp2_with fail
  go_ret
  exact ⟨rfl, HB_14.out⟩

end Go.Proofs.Ytdbiegmekmfgdaa
