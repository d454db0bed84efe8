/-
  A dart's voltage, by the model: and where its row lies.
-/
import Derived.Test.YtlnegaenjcekcaaCovV
import Derived.Test.YtlnegaenjcekcaaBack
namespace Go.Proofs.Ytlnegaenjcekcaa
open Go.RowKit
set_option linter.unusedVariables false

set_option maxRecDepth 20000 in
set_option maxHeartbeats 3200000 in
theorem l9Volt_at (w0 w : World) (hw0 : Below w0.heap.size w0 w) (A A' : Option Addr) (n c c' : Nat) (t f : List Int) (h : Rd w A n t) (h' : Rd w A' n f) (k : Nat) (B : Option Addr) (m d : Nat) (vss : List (List Int)) (hs0 : RdSS w0 B m vss) (hv : Volt t f k vss) (x : Nat) (hx : x < n) {p : List Int} (hp : dV f vss x = p) :
    Calls Try.prog 84 #[.agg #[.slice A n c, .slice A' n c'], .slice B m d, .int .i64 x] w fun e w' => ∃ Av cv, e = .returned (.slice Av k cv) ∧ (Rd w0 Av k p ∨ (Rd w' Av k p ∧ ∀ ad, Av = some ad → w.heap.size ≤ ad.block)) ∧ Below w.heap.size w w' := by
  obtain ⟨W0, hW0, hbx, hb, hz⟩ := Box.local_ w 30 (.slice A n c) (.slice A' n c')
  have c0 := hbx.cell0
  have c1 := hbx.cell1
  have hn12 : n ≤ 12 := by rw [← h'.1]; exact hv.map.flip.2.1
  have hk6 := hv.six
  have hxf : x < f.length := by rw [h'.1]; exact hx
  obtain ⟨y, hy, hyn, hgy⟩ := (hv.map.flip.into h'.1).nat (j := x) hxf
  obtain ⟨e, he⟩ : ∃ e, edgN f x = e := ⟨_, rfl⟩
  have hem : e < m := by rw [← he, ← hs0.1]; exact hv.edge hxf
  obtain ⟨a, ha⟩ : ∃ a, vss.getD e [] = a := ⟨_, rfl⟩
  have hrow := hv.row e (by rw [hs0.1]; exact hem)
  rw [ha] at hrow
  have HP : Hid (p = if x < y then a else backL a) := by rw [Hid, ← hp, dV, he, ha, hgy]
  have HX := Lib.hid hbx; have HB := Lib.hid hb; have H := Lib.hid h; have H' := Lib.hid h'; have HVO := Lib.hid hv; have HY := Lib.hid hy; have HE := Lib.hid he; have HA := Lib.hid ha; have HROW := Lib.hid hrow; have HXF := Lib.hid hxf
  obtain ⟨adB, Aj, cj, nj, rfl, hcB0, hrB0, -⟩ := hs0.at_ hem
  rw [ha] at hrB0
  obtain rfl : k = nj := (hrB0.1.symm.trans hrow.2).symm
  have HW0 := Lib.hid hw0; have HCB := Lib.hid ((hw0.cell (World.block_lt_of_cell? w0 _ hcB0)).trans hcB0); have HRB0 := Lib.hid hrB0
  clear hs0 hcB0 hrB0 hbx hb h h' hv hy he ha hrow hgy hp hz hxf
  by_cases hlt : x < y
  · have HPA : Hid (p = a) := by rw [Hid, HP.out, if_pos hlt]
    go_enter Try.func84, Try.ntmps84
    go_wp2_with (go_at_call 101; refine (l7Edges_any A A' n n c c' f W0 (H'.out.below HB.out) HVO.out.map.flip HVO.out.map.paired).mono ?_; rintro e' w1 ⟨v, rfl, o, bl⟩; obtain ⟨A2, c2, rfl, -, -⟩ := o.form' ((edgL_len f).trans H'.out.1); obtain ⟨ad2, rfl, hc2⟩ := (o.rd ((edgL_len f).trans H'.out.1)).at_ hx; rw [gi_edgL HXF.out, HE.out] at hc2; have HB1 := Lib.hid (HB.out.trans (bl.mono HB.out.size)); have hx1 := HX.out.below bl; have d1 := hx1.cell1; obtain ⟨adF, rfl, hcF⟩ := (H'.out.below HB1.out).at_ hx; rw [HY.out] at hcF; have hcB := (HB1.out.cell (World.block_lt_of_cell? w _ HCB.out)).trans HCB.out; have HRB := Lib.hid (HRB0.out.below (HW0.out.trans (HB1.out.mono HW0.out.size))); clear o bl c0 c1 hx1)
    go_ret
    exact ⟨_, _, rfl, .inl (by rw [HPA.out]; exact HRB0.out), HB1.out⟩
  · have HPA : Hid (p = backL a) := by rw [Hid, HP.out, if_neg hlt]
    have HLB : Hid ((backL a).length = k) := by rw [Hid, backL_len]; exact HROW.out.2
    go_enter Try.func84, Try.ntmps84
    go_wp2_with (first
      | (go_at_call 101; refine (l7Edges_any A A' n n c c' f W0 (H'.out.below HB.out) HVO.out.map.flip HVO.out.map.paired).mono ?_; rintro e' w1 ⟨v, rfl, o, bl⟩; obtain ⟨A2, c2, rfl, -, -⟩ := o.form' ((edgL_len f).trans H'.out.1); obtain ⟨ad2, rfl, hc2⟩ := (o.rd ((edgL_len f).trans H'.out.1)).at_ hx; rw [gi_edgL HXF.out, HE.out] at hc2; have HB1 := Lib.hid (HB.out.trans (bl.mono HB.out.size)); have hx1 := HX.out.below bl; have d1 := hx1.cell1; obtain ⟨adF, rfl, hcF⟩ := (H'.out.below HB1.out).at_ hx; rw [HY.out] at hcF; have hcB := (HB1.out.cell (World.block_lt_of_cell? w _ HCB.out)).trans HCB.out; have HRB := Lib.hid (HRB0.out.below (HW0.out.trans (HB1.out.mono HW0.out.size))); clear o bl c0 c1 hx1)
      | (go_at_call 102; refine (l1Back_any Aj k cj a w1 HRB.out (by omega) HROW.out.1).mono ?_; rintro e' w2 ⟨v, rfl, o, bl⟩; obtain ⟨Av, cv, rfl, -, -⟩ := o.form' HLB.out; have HRV := Lib.hid (o.rd HLB.out); have HLV : Hid (∀ ad, Av = some ad → w1.heap.size ≤ ad.block) := fun ad e => (o.lt ad.block (by rw [e]; rfl)).1; have HB2 := Lib.hid (HB1.out.trans (bl.mono HB1.out.size)); clear o bl))
    go_ret
    exact ⟨_, _, rfl, .inr ⟨by rw [HPA.out]; exact HRV.out, fun ad e => by have := HLV.out ad e; have := HB1.out.size; omega⟩, HB2.out⟩


end Go.Proofs.Ytlnegaenjcekcaa
