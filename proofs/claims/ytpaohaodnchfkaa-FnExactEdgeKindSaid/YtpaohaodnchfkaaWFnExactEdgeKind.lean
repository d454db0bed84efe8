/-
  FnExactEdgeKind: the walk of the law: the model and the program are called by their contracts.
-/
import Derived.Test.YtpaohaodnchfkaaKind
import Derived.Test.YtpaohaodnchfkaaKitM
import Derived.Deep.RegionHeld3
namespace Go.Proofs.Ytpaohaodnchfkaa
open Go.RowKit

set_option maxRecDepth 100000 in
set_option maxHeartbeats 3200000 in
theorem walk_FnExactEdgeKind (A0 A0' : Option Addr) (n0 n0' c0 c0' : Nat) (t0 f0 : List Int) (x1 : Int) (w : World) (hr0 : Rd w A0 n0 t0) (hr0' : Rd w A0' n0' f0) (hm0 : n0 ≤ maxLen) (hm0' : n0' ≤ maxLen) (hw1 : (Lit.int .i64 x1).wf = true) :
    Calls Try.prog 9 #[.agg #[.slice A0 n0 c0, .slice A0' n0' c0'], .int .i64 x1] w fun e w' => e = .returned (.bool true) ∧ Below w.heap.size w w' := by
  have HR0 := Lib.hid hr0; have HR0' := Lib.hid hr0'; have HL0 := Lib.hid hr0.1; have HL0' := Lib.hid hr0'.1; clear hr0 hr0'
  have HW1 := Lib.hid hw1; clear hw1
  obtain ⟨w0, hW0⟩ : ∃ w0, (w.alloc (.cells #[.slice A0 n0 c0, .slice A0' n0' c0'] 24)) = w0 := ⟨_, rfl⟩
  have hx : Box w0 (w.heap.size) 24 (.slice A0 n0 c0) (.slice A0' n0' c0') := by rw [← hW0]; have h := Box.new w 24 (.slice A0 n0 c0) (.slice A0' n0' c0'); exact h
  have cb_p0_0 := hx.cell0; have cb_p0_1 := hx.cell1
  have HXp0_0 := Lib.hid hx; clear hx
  have HB_0 : Hid (Below w.heap.size w w0) := by rw [← hW0]; exact (Below.refl _ _).alloc (by simp) _
  have HZ_0 : Hid (w.heap.size + 1 = w0.heap.size) := by rw [Hid, ← hW0]; simp
  obtain ⟨r0, hr⟩ : ∃ r, szOf (1048576) n0 n0' = r := ⟨_, rfl⟩
  by_cases hs0 : r0 < 0
  · have E0 := Lib.hid hr; clear hr
    have hsd0 : decide (r0 < 0) = true := by simp [hs0]
    go_enter Try.func9, Try.ntmps9
    go_wp2_with fail
    refine (szMap_any A0 A0' n0 n0' c0 c0' (1048576) w0 hm0 hm0' (by omega) (by omega) E0.out).mono ?_
    rintro e w1 ⟨rfl, b⟩
    have HB_1 := Lib.hid (HB_0.out.trans (b.mono HB_0.out.size)); clear b
    go_wp2_with fail
    go_ret
    exact ⟨rfl, HB_1.out⟩
  obtain ⟨hq0, hv0⟩ := szOf_fits (m := 1048576) (n := n0) (n' := n0') (by omega) (by rw [hr]; exact hs0)
  rw [hv0] at hr; clear hv0
  have E0' := Lib.hid hr
  have hsd0 : decide (r0 < 0) = false := by simp; omega
  have E0 : Hid (szOf (1048576) n0 n0' = r0) := by rw [Hid, szOf_eq (by omega)]; exact hr
  clear hr
  obtain ⟨r, hR⟩ : ∃ r, kdR t0 f0 x1 = r := ⟨_, rfl⟩
  have HRR := Lib.hid hR; clear hR
  have hok : (r != r) = false := by simp
  go_enter Try.func9, Try.ntmps9
  go_wp2_with fail
  refine (szMap_any A0 A0' n0 n0' c0 c0' (1048576) w0 hm0 hm0' (by omega) (by omega) E0.out).mono ?_
  rintro e w1 ⟨rfl, b⟩
  have HB_1 := Lib.hid (HB_0.out.trans (b.mono HB_0.out.size)); have HZ_1 := Lib.hid b.size
  have hx := HXp0_0.out.below b; clear cb_p0_0 cb_p0_1
  have cb_p0_0 := hx.cell0; have cb_p0_1 := hx.cell1
  have HXp0_1 := Lib.hid hx; clear hx
  clear b
  go_wp2_with fail
  refine (toMap_any A0 A0' n0 n0' c0 c0' t0 f0 w1 (HR0.out.below HB_1.out) (HR0'.out.below HB_1.out) (by omega) (by omega)).mono ?_
  rintro e w2 ⟨u, u', rfl, o, b⟩
  have HIs0 := Lib.hid o.turn.iv; have HIs0' := Lib.hid o.flip.iv
  obtain ⟨As0, cs0, As0', cs0', rfl, rfl, -, -⟩ := o.form HL0.out HL0'.out
  have HOs0_2 := Lib.hid o; clear o
  have HB_2 := Lib.hid (HB_1.out.trans (b.mono HB_1.out.size)); have HZ_2 := Lib.hid b.size
  have hx := HXp0_1.out.below b; clear cb_p0_0 cb_p0_1
  have cb_p0_0 := hx.cell0; have cb_p0_1 := hx.cell1
  have HXp0_2 := Lib.hid hx; clear hx
  clear b
  go_wp2_with fail
  refine (spec_kdR w2 As0 As0' n0 n0' cs0 cs0' t0 f0 (HOs0_2.out.turn.rd HL0.out) (HOs0_2.out.flip.rd HL0'.out) (by omega) (by omega) x1 HW1.out HRR.out).mono ?_
  rintro e w3 ⟨rfl, b⟩
  have HB_3 := Lib.hid (HB_2.out.trans (b.mono HB_2.out.size)); have HZ_3 := Lib.hid b.size
  have hx := HXp0_2.out.below b; clear cb_p0_0 cb_p0_1
  have cb_p0_0 := hx.cell0; have cb_p0_1 := hx.cell1
  have HXp0_3 := Lib.hid hx; clear hx
  have HOs0_3 := Lib.hid (HOs0_2.out.below b)
  clear b
  go_wp2_with fail
  refine (toMap_any A0 A0' n0 n0' c0 c0' t0 f0 w3 (HR0.out.below HB_3.out) (HR0'.out.below HB_3.out) (by omega) (by omega)).mono ?_
  rintro e w4 ⟨u, u', rfl, o, b⟩
  have HIx0 := Lib.hid o.turn.iv; have HIx0' := Lib.hid o.flip.iv
  obtain ⟨Ax0, cx0, Ax0', cx0', rfl, rfl, -, -⟩ := o.form HL0.out HL0'.out
  have HOx0_4 := Lib.hid o; clear o
  have HB_4 := Lib.hid (HB_3.out.trans (b.mono HB_3.out.size)); have HZ_4 := Lib.hid b.size
  have hx := HXp0_3.out.below b; clear cb_p0_0 cb_p0_1
  have cb_p0_0 := hx.cell0; have cb_p0_1 := hx.cell1
  have HXp0_4 := Lib.hid hx; clear hx
  clear b
  obtain ⟨w5, hW5, hx, b, hz⟩ := Box.local_ w4 28 (.slice Ax0 n0 cx0) (.slice Ax0' n0' cx0')
  have HXvx0_5 := Lib.hid hx; have HZE_5 := Lib.hid hz; clear hx hz
  have HB_5 := Lib.hid (HB_4.out.trans (b.mono HB_4.out.size)); have HZ_5 := Lib.hid b.size
  have hx := HXp0_4.out.below b; clear cb_p0_0 cb_p0_1
  have cb_p0_0 := hx.cell0; have cb_p0_1 := hx.cell1
  have HXp0_5 := Lib.hid hx; clear hx
  have HOx0_5 := Lib.hid (HOx0_4.out.below b)
  clear b
  have cb_vx0_0 := HXvx0_5.out.cell0; have cb_vx0_1 := HXvx0_5.out.cell1
  go_wp2_with fail
  refine (impl_kdR w5 Ax0 Ax0' n0 n0' cx0 cx0' t0 f0 (HOx0_5.out.turn.rd HL0.out) (HOx0_5.out.flip.rd HL0'.out) (by omega) (by omega) x1 HW1.out HRR.out).mono ?_
  rintro e w6 ⟨rfl, b⟩
  have HB_6 := Lib.hid (HB_5.out.trans (b.mono HB_5.out.size)); have HZ_6 := Lib.hid b.size
  have hx := HXp0_5.out.below b; clear cb_p0_0 cb_p0_1
  have cb_p0_0 := hx.cell0; have cb_p0_1 := hx.cell1
  have HXp0_6 := Lib.hid hx; clear hx
  have hx := HXvx0_5.out.below b; clear cb_vx0_0 cb_vx0_1
  have cb_vx0_0 := hx.cell0; have cb_vx0_1 := hx.cell1
  have HXvx0_6 := Lib.hid hx; clear hx
  have HOx0_6 := Lib.hid (HOx0_5.out.below b)
  clear b
  go_wp2_with fail
  go_region_held3 (fun w' => w'.cell? ⟨w4.heap.size, 0, none⟩ = some (.slice Ax0 n0 cx0) ∧ w'.cell? ⟨w4.heap.size, 1, none⟩ = some (.slice Ax0' n0' cx0') ∧ w'.cell? ⟨w.heap.size, 0, none⟩ = some (.slice A0 n0 c0) ∧ w'.cell? ⟨w.heap.size, 1, none⟩ = some (.slice A0' n0' c0')) (first | go_keep | exact ⟨(HXvx0_6.out.below BT.out).cell0, (HXvx0_6.out.below BT.out).cell1, (HXp0_6.out.below BT.out).cell0, (HXp0_6.out.below BT.out).cell1⟩ | exact ⟨((HXvx0_6.out.below BT.out).below BE.out).cell0, ((HXvx0_6.out.below BT.out).below BE.out).cell1, ((HXp0_6.out.below BT.out).below BE.out).cell0, ((HXp0_6.out.below BT.out).below BE.out).cell1⟩) (first
    | (go_at_call 14; refine (toMap_any A0 A0' n0 n0' c0 c0' t0 f0 _ ((HR0.out.below HB_6.out).drewN _) ((HR0'.out.below HB_6.out).drewN _) (by omega) (by omega)).mono ?_; rintro e w7 ⟨u, u', rfl, o, b⟩; have BT := Lib.hid (Below.of_drewN b); clear b; have HIt0 := Lib.hid o.turn.iv; have HIt0' := Lib.hid o.flip.iv; obtain ⟨At0, ct0, At0', ct0', rfl, rfl, -, -⟩ := o.form HL0.out HL0'.out; have HOt0_7 := Lib.hid o; clear o)
    | (go_at_call 18; refine (eqMap_same Ax0 Ax0' At0 At0' n0 n0' cx0 cx0' ct0 ct0' t0 f0 _ ((HOx0_6.out.below BT.out).turn.rd HL0.out) ((HOx0_6.out.below BT.out).flip.rd HL0'.out) (HOt0_7.out.turn.rd HL0.out) (HOt0_7.out.flip.rd HL0'.out) (by omega) (by omega)).mono ?_; rintro e w8 ⟨rfl, b⟩; have BE := Lib.hid b; clear b))
  have b := BT.out
  have HB_7 := Lib.hid (HB_6.out.trans (b.mono HB_6.out.size)); have HZ_7 := Lib.hid b.size
  have hx := HXp0_6.out.below b; clear cb_p0_0 cb_p0_1
  have cb_p0_0 := hx.cell0; have cb_p0_1 := hx.cell1
  have HXp0_7 := Lib.hid hx; clear hx
  have hx := HXvx0_6.out.below b; clear cb_vx0_0 cb_vx0_1
  have cb_vx0_0 := hx.cell0; have cb_vx0_1 := hx.cell1
  have HXvx0_7 := Lib.hid hx; clear hx
  have HOx0_7 := Lib.hid (HOx0_6.out.below b)
  clear b
  have b := BE.out
  have HB_8 := Lib.hid (HB_7.out.trans (b.mono HB_7.out.size)); have HZ_8 := Lib.hid b.size
  have hx := HXp0_7.out.below b; clear cb_p0_0 cb_p0_1
  have cb_p0_0 := hx.cell0; have cb_p0_1 := hx.cell1
  have HXp0_8 := Lib.hid hx; clear hx
  have hx := HXvx0_7.out.below b; clear cb_vx0_0 cb_vx0_1
  have cb_vx0_0 := hx.cell0; have cb_vx0_1 := hx.cell1
  have HXvx0_8 := Lib.hid hx; clear hx
  have HOx0_8 := Lib.hid (HOx0_7.out.below b)
  clear b
  go_wp2_with fail
  go_ret
  exact ⟨rfl, HB_8.out⟩

end Go.Proofs.Ytpaohaodnchfkaa
