/-
  FnExactTreeValid: the walk of the law: the model and the program are called by their contracts.
-/
import Derived.Test.YthggadkmipicgaaTrV
import Derived.Deep.RegionHeld3
namespace Go.Proofs.Ythggadkmipicgaa
open Go.RowKit

set_option maxRecDepth 100000 in
set_option maxHeartbeats 3200000 in
theorem walk_FnExactTreeValid (s : ByteArray) (A : Option Addr) (n c : Nat) (xs : List Int) (w : World) (hs : s.size ≤ maxLen) (h : Rd w A n xs) (hn : n ≤ maxLen) :
    Calls Try.prog 3 #[.agg #[.string s, .slice A n c]] w fun e w' => e = .returned (.bool true) ∧ Below w.heap.size w w' := by
  have H := Lib.hid h; have HL := Lib.hid h.1; clear h
  obtain ⟨w0, hW0, hx, hb, hz⟩ := Box.local_ w 24 (.string s) (.slice A n c)
  have cb0 := hx.cell0; have cb1 := hx.cell1
  have HX := Lib.hid hx; have HB := Lib.hid hb; clear hx hb hz
  obtain ⟨r0, hr⟩ : ∃ r, szOf 1048576 s.size n = r := ⟨_, rfl⟩
  by_cases hs0 : r0 < 0
  · have E0 := Lib.hid hr; clear hr
    have hsd0 : decide (r0 < 0) = true := by simp [hs0]
    go_enter Try.func3, Try.ntmps3
    go_wp2_with fail
    refine (szTree_any s A n c 1048576 w0 hs hn (by omega) (by omega) E0.out).mono ?_
    rintro e w1 ⟨rfl, b⟩
    have HB_1 := Lib.hid (HB.out.trans (b.mono HB.out.size)); clear b
    go_wp2_with fail
    go_ret
    exact ⟨rfl, HB_1.out⟩
  obtain ⟨hq0, hv0⟩ := szOf_fits (m := 1048576) (n := s.size) (n' := n) (by omega) (by rw [hr]; exact hs0)
  have E0 := Lib.hid hr
  have hsd0 : decide (r0 < 0) = false := by simp; omega
  have hs1 : s.size ≤ 1048576 ∧ n ≤ 1048576 := by omega
  clear hr hv0 hq0
  obtain ⟨r, hR⟩ : ∃ r, treeV s xs = r := ⟨_, rfl⟩
  have HRR := Lib.hid hR; clear hR
  have hok : (r != r) = false := by simp
  go_enter Try.func3, Try.ntmps3
  go_wp2_with fail
  refine (szTree_any s A n c 1048576 w0 hs hn (by omega) (by omega) E0.out).mono ?_
  rintro e w1 ⟨rfl, b⟩
  have HB_1 := Lib.hid (HB.out.trans (b.mono HB.out.size))
  have hx := HX.out.below b; clear cb0 cb1
  have cb0 := hx.cell0; have cb1 := hx.cell1
  have HX_1 := Lib.hid hx; clear hx
  clear b
  go_wp2_with fail
  refine (toTree_any s A n c xs w1 (H.out.below HB_1.out) (by omega)).mono ?_
  rintro e w2 ⟨v, rfl, o, b⟩
  obtain ⟨As, cs, rfl, -, -⟩ := o.form' HL.out
  have HRs := Lib.hid (o.rd HL.out); clear o
  have HB_2 := Lib.hid (HB_1.out.trans (b.mono HB_1.out.size))
  have hx := HX_1.out.below b; clear cb0 cb1
  have cb0 := hx.cell0; have cb1 := hx.cell1
  have HX_2 := Lib.hid hx; clear hx
  clear b
  go_wp2_with fail
  refine (spec_treeV w2 s As n cs xs (by omega) HRs.out (by omega) HRR.out).mono ?_
  rintro e w3 ⟨rfl, b⟩
  have HB_3 := Lib.hid (HB_2.out.trans (b.mono HB_2.out.size))
  have hx := HX_2.out.below b; clear cb0 cb1
  have cb0 := hx.cell0; have cb1 := hx.cell1
  have HX_3 := Lib.hid hx; clear hx
  clear b
  go_wp2_with fail
  refine (toTree_any s A n c xs w3 (H.out.below HB_3.out) (by omega)).mono ?_
  rintro e w4 ⟨v, rfl, o, b⟩
  obtain ⟨Ax, cx, rfl, -, -⟩ := o.form' HL.out
  have HOx_4 := Lib.hid (o.rd HL.out); clear o
  have HB_4 := Lib.hid (HB_3.out.trans (b.mono HB_3.out.size))
  have hx := HX_3.out.below b; clear cb0 cb1
  have cb0 := hx.cell0; have cb1 := hx.cell1
  have HX_4 := Lib.hid hx; clear hx
  clear b
  obtain ⟨w5, hW5, hx, b, hz⟩ := Box.local_ w4 27 (.string s) (.slice Ax n cx)
  have cv0 := hx.cell0; have cv1 := hx.cell1
  have HV_5 := Lib.hid hx; clear hx hz
  have HB_5 := Lib.hid (HB_4.out.trans (b.mono HB_4.out.size))
  have hx := HX_4.out.below b; clear cb0 cb1
  have cb0 := hx.cell0; have cb1 := hx.cell1
  have HX_5 := Lib.hid hx; clear hx
  have HOx_5 := Lib.hid (HOx_4.out.below b)
  clear b
  go_wp2_with fail
  refine (impl_treeV w5 s Ax n cx xs (by omega) HOx_5.out (by omega) HRR.out).mono ?_
  rintro e w6 ⟨rfl, b⟩
  have HB_6 := Lib.hid (HB_5.out.trans (b.mono HB_5.out.size))
  have hx := HX_5.out.below b; clear cb0 cb1
  have cb0 := hx.cell0; have cb1 := hx.cell1
  have HX_6 := Lib.hid hx; clear hx
  have hx := HV_5.out.below b; clear cv0 cv1
  have cv0 := hx.cell0; have cv1 := hx.cell1
  have HV_6 := Lib.hid hx; clear hx
  have HOx_6 := Lib.hid (HOx_5.out.below b)
  clear b
  go_wp2_with fail
  go_region_held3 (fun w' => w'.cell? ⟨w4.heap.size, 0, none⟩ = some (.string s) ∧ w'.cell? ⟨w4.heap.size, 1, none⟩ = some (.slice Ax n cx) ∧ w'.cell? ⟨w.heap.size, 0, none⟩ = some (.string s) ∧ w'.cell? ⟨w.heap.size, 1, none⟩ = some (.slice A n c)) (first | go_keep | exact ⟨(HV_6.out.below BT.out).cell0, (HV_6.out.below BT.out).cell1, (HX_6.out.below BT.out).cell0, (HX_6.out.below BT.out).cell1⟩ | exact ⟨((HV_6.out.below BT.out).below BE.out).cell0, ((HV_6.out.below BT.out).below BE.out).cell1, ((HX_6.out.below BT.out).below BE.out).cell0, ((HX_6.out.below BT.out).below BE.out).cell1⟩) (first
    | (go_at_call 13; refine (toTree_any s A n c xs _ ((H.out.below HB_6.out).drewN _) (by omega)).mono ?_; rintro e w7 ⟨v, rfl, o, b⟩; have BT := Lib.hid (Below.of_drewN b); clear b; obtain ⟨At, ct, rfl, -, -⟩ := o.form' HL.out; have HOt := Lib.hid (o.rd HL.out); clear o)
    | (go_at_call 15; refine (eqTree_same s Ax At n cx ct xs _ (HOx_6.out.below BT.out) HOt.out (by omega)).mono ?_; rintro e w8 ⟨rfl, b⟩; have BE := Lib.hid b; clear b))
  go_wp2_with fail
  go_ret
  exact ⟨rfl, (HB_6.out.trans (BT.out.mono HB_6.out.size)).trans (BE.out.mono (Nat.le_trans HB_6.out.size BT.out.size))⟩

end Go.Proofs.Ythggadkmipicgaa
