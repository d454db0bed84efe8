/-
  FnSame: the walk of the law.
-/
import Derived.Test.YteajaikgeephmaaLawMap
import Derived.Test.YteajaikgeephmaaDrawS
import Derived.Test.YteajaikgeephmaaPar6
import Derived.Test.YteajaikgeephmaaSameS
import Derived.Test.YteajaikgeephmaaLeastM
import Derived.Test.YteajaikgeephmaaDegrees
import Derived.Test.YteajaikgeephmaaDual
import Derived.Test.YteajaikgeephmaaTurnsR
namespace Go.Proofs.Yteajaikgeephmaa
open Go.RowKit

set_option maxRecDepth 100000 in
set_option maxHeartbeats 3200000 in
theorem walk_FnSame (A0 : Option Addr) (n0 c0 : Nat) (bs0 : List Int) (w : World) (h0 : RdB w A0 n0 bs0) (hm0 : n0 ≤ maxLen ∧ n0 ≤ c0) :
    Calls Try.prog 10 #[.slice A0 n0 c0] w fun e w' => e = .returned (.bool true) ∧ Below w.heap.size w w' := by
  have HB0_0 := Lib.hid h0; have hc0 := hm0.2; have hml0 := hm0.1; clear h0 hm0; unfold maxLen at hml0
  by_cases hbig0 : 1048576 < n0
  · have hd : decide ((1048576 : Int) < n0) = true := by simp; omega
    go_enter Try.func10, Try.ntmps10
    go_wp2
    go_ret
    exact ⟨rfl, Below.refl _ _⟩
  have hd0 : decide ((1048576 : Int) < n0) = false := by simp; omega
  have hnb0 : n0 ≤ 1048576 := by omega
  clear hbig0
  go_enter Try.func10, Try.ntmps10
  go_wp2_with fail
  refine (drawMapSame_any w A0 n0 c0 bs0 HB0_0.out hnb0 hc0).mono ?_
  rintro e w1 ⟨Am, Am', nm, nm', cm, cm', t, f, Ao, Ao', no, no', co, co', t2, f2, rfl, r1, r2, hlm, hlm', r3, r4, hlo, hlo', b⟩
  have HNm := Lib.hid r1.1; have HRm := Lib.hid r1; clear r1
  have HNm' := Lib.hid r2.1; have HRm' := Lib.hid r2; clear r2
  have HNo := Lib.hid r3.1; have HRo := Lib.hid r3; clear r3
  have HNo' := Lib.hid r4.1; have HRo' := Lib.hid r4; clear r4
  have HB := Lib.hid b; have hs := b.size; clear b
  obtain ⟨w2, hWw2, hx, b, hz⟩ := Box.local_ w1 35 (.slice Am nm cm) (.slice Am' nm' cm')
  have BXm := Lib.hid hx; clear hx hz
  replace HRm := Lib.hid (HRm.out.below b)
  replace HRm' := Lib.hid (HRm'.out.below b)
  replace HRo := Lib.hid (HRo.out.below b)
  replace HRo' := Lib.hid (HRo'.out.below b)
  replace HB := Lib.hid (HB.out.trans (b.mono hs)); replace hs := HB.out.size
  clear b
  have cm_0 := BXm.out.cell0; have cm_1 := BXm.out.cell1
  have hz2 : w2.heap.size = w1.heap.size + 1 := by rw [← hWw2]; simp
  obtain ⟨wn, hWn, hx, bb, hz⟩ := Box.local_ w2 35 (.slice none 0 0) (.slice none 0 0)
  rw [hz2] at hx
  have e0 := hx.cell0; have e1 := hx.cell1; have e2 := hx.frozen 0; have e3 := hx.frozen 1
  obtain ⟨hq1, hq2⟩ := hx.store2 (.slice Ao no co) (.slice Ao' no' co')
  obtain ⟨w3, hW3⟩ : ∃ w3, (wn.setCell ⟨w1.heap.size + 1, 0, none⟩ (.slice Ao no co)).setCell ⟨w1.heap.size + 1, 1, none⟩ (.slice Ao' no' co') = w3 := ⟨_, rfl⟩
  rw [hW3] at hq1 hq2
  have b : Below w2.heap.size w2 w3 := bb.grown hq2 bb.size (fun k hk => by cases hk; omega)
  have BXo := Lib.hid hq1
  clear hx bb hz hq1 hq2 hz2
  replace HRm := Lib.hid (HRm.out.below b)
  replace HRm' := Lib.hid (HRm'.out.below b)
  replace HRo := Lib.hid (HRo.out.below b)
  replace HRo' := Lib.hid (HRo'.out.below b)
  replace BXm := Lib.hid (BXm.out.below b); replace cm_0 := BXm.out.cell0; replace cm_1 := BXm.out.cell1
  replace HB := Lib.hid (HB.out.trans (b.mono hs)); replace hs := HB.out.size
  clear b
  have co_0 := BXo.out.cell0; have co_1 := BXo.out.cell1
  obtain ⟨r, hr⟩ : ∃ r, sameR t f t2 f2 = r := ⟨_, rfl⟩
  have HRR := Lib.hid hr; clear hr
  go_wp2_with fail
  refine (impl_sameR w3 Am Am' nm nm' cm cm' t f HRm.out HRm'.out (by omega) (by omega) Ao Ao' no no' co co' t2 f2 HRo.out HRo'.out (by omega) (by omega) HRR.out).mono ?_
  rintro e w4 ⟨rfl, b⟩
  replace HRm := Lib.hid (HRm.out.below b)
  replace HRm' := Lib.hid (HRm'.out.below b)
  replace HRo := Lib.hid (HRo.out.below b)
  replace HRo' := Lib.hid (HRo'.out.below b)
  replace BXm := Lib.hid (BXm.out.below b); replace cm_0 := BXm.out.cell0; replace cm_1 := BXm.out.cell1
  replace BXo := Lib.hid (BXo.out.below b); replace co_0 := BXo.out.cell0; replace co_1 := BXo.out.cell1
  replace HB := Lib.hid (HB.out.trans (b.mono hs)); replace hs := HB.out.size
  clear b
  go_wp2_with fail
  refine (spec_sameR w4 Am Am' nm nm' cm cm' t f HRm.out HRm'.out (by omega) (by omega) Ao Ao' no no' co co' t2 f2 HRo.out HRo'.out (by omega) (by omega) HRR.out).mono ?_
  rintro e w5 ⟨rfl, b⟩
  replace HRm := Lib.hid (HRm.out.below b)
  replace HRm' := Lib.hid (HRm'.out.below b)
  replace HRo := Lib.hid (HRo.out.below b)
  replace HRo' := Lib.hid (HRo'.out.below b)
  replace BXm := Lib.hid (BXm.out.below b); replace cm_0 := BXm.out.cell0; replace cm_1 := BXm.out.cell1
  replace BXo := Lib.hid (BXo.out.below b); replace co_0 := BXo.out.cell0; replace co_1 := BXo.out.cell1
  replace HB := Lib.hid (HB.out.trans (b.mono hs)); replace hs := HB.out.size
  clear b
  cases r with
  | true =>
    obtain ⟨hm, hm2, hll, b, hal⟩ := alike_of HRR.out
    have HM := Lib.hid hm; have HM2 := Lib.hid hm2; have HA := Lib.hid hal; have HB2 := Lib.hid (hal.back hm); clear hm hm2 hal
    obtain rfl : nm = nm' := by have := HM.out.len; rw [HNm.out, HNm'.out] at this; exact this
    obtain rfl : no = no' := by have := HM2.out.len; rw [HNo.out, HNo'.out] at this; exact this
    obtain rfl : nm = no := by rw [HNm.out, HNo.out] at hll; exact hll
    clear hll
    have HD := Lib.hid HM.out.dual; have HD2 := Lib.hid HM2.out.dual; have HT := Lib.hid (HA.out.type HM.out); have HU := Lib.hid (HA.out.turns HM.out); have HL := Lib.hid (HA.out.least HM.out)
    have HS1 : Hid (sameR t2 f2 t f = true) := HB2.out.same HM2.out
    have HS2 : Hid (sameR (mulL f t) f (mulL f2 t2) f2 = true) := (HA.out.dual HM.out).same HD.out
    obtain ⟨K, hK⟩ : ∃ K, leastTo t f (t.length - 1) = K := ⟨_, rfl⟩
    have hKn : K < t.length := by have := leastTo_le t f (t.length - 1); have := HM.out.turn.1; rw [← hK]; omega
    have HL1 : Hid ((formT t f K).length = nm) := (formT_len HM.out hKn).trans HNm.out
    have HL2 : Hid ((formF t f K).length = nm) := (formF_len HM.out hKn).trans HNm.out
    have HE1 : Hid (leastR t f = (true, formT t f K, formF t f K)) := by rw [Hid, leastR, if_pos (mapV_iff.2 HM.out), hK]
    have HE2 : Hid (leastR t2 f2 = (true, formT t f K, formF t f K)) := by rw [Hid, leastR, if_pos (mapV_iff.2 HM2.out), HL.out.1, HL.out.2, hK]
    clear hKn hK
    obtain ⟨M, hM⟩ : ∃ M, (typeL t).length = M := ⟨_, rfl⟩
    have hM12 : M ≤ 12 := by have h1 := typeL_len HM.out.turn; have h2 := cyclesL_len (p := t); rw [HNm.out] at h2; omega
    have HMM := Lib.hid hM; clear hM
    obtain ⟨u, hu⟩ : ∃ u, turnsTo t f t.length = u := ⟨_, rfl⟩
    have HU1 : Hid (turnsR t f = (u : Int)) := by rw [Hid, turnsR, if_pos (mapV_iff.2 HM.out), hu]
    have HU2 : Hid (turnsR t2 f2 = (u : Int)) := by rw [Hid, turnsR, if_pos (mapV_iff.2 HM2.out), HU.out, hu]
    have huu : ((u : Int) == (u : Int)) = true := by simp
    clear hu
    go_wp2_with fail
    refine (impl_leastR w5 Am Am' nm nm cm cm' t f HRm.out HRm'.out (by omega) (by omega) (ok := true) (yt := formT t f K) (yf := formF t f K) (HE1.out)).mono ?_
    rintro e w6 ⟨u, u', rfl, o, b⟩
    have hl : (formT t f K : List Int).length = nm := HL1.out
    have hl' : (formF t f K : List Int).length = nm := HL2.out
    obtain ⟨Ax, cx, Ax', cx', rfl, rfl, r1, r2⟩ := o.form hl hl'
    have HRx := Lib.hid r1; have HRx' := Lib.hid r2; clear o hl hl' r1 r2
    replace HRm := Lib.hid (HRm.out.below b)
    replace HRm' := Lib.hid (HRm'.out.below b)
    replace HRo := Lib.hid (HRo.out.below b)
    replace HRo' := Lib.hid (HRo'.out.below b)
    replace BXm := Lib.hid (BXm.out.below b); replace cm_0 := BXm.out.cell0; replace cm_1 := BXm.out.cell1
    replace BXo := Lib.hid (BXo.out.below b); replace co_0 := BXo.out.cell0; replace co_1 := BXo.out.cell1
    replace HB := Lib.hid (HB.out.trans (b.mono hs)); replace hs := HB.out.size
    clear b
    obtain ⟨w7, hWw7, hx, b, hz⟩ := Box.local_ w6 35 (.slice Ax nm cx) (.slice Ax' nm cx')
    have BXx := Lib.hid hx; clear hx hz
    replace HRm := Lib.hid (HRm.out.below b)
    replace HRm' := Lib.hid (HRm'.out.below b)
    replace HRo := Lib.hid (HRo.out.below b)
    replace HRo' := Lib.hid (HRo'.out.below b)
    replace HRx := Lib.hid (HRx.out.below b)
    replace HRx' := Lib.hid (HRx'.out.below b)
    replace BXm := Lib.hid (BXm.out.below b); replace cm_0 := BXm.out.cell0; replace cm_1 := BXm.out.cell1
    replace BXo := Lib.hid (BXo.out.below b); replace co_0 := BXo.out.cell0; replace co_1 := BXo.out.cell1
    replace HB := Lib.hid (HB.out.trans (b.mono hs)); replace hs := HB.out.size
    clear b
    have cx_0 := BXx.out.cell0; have cx_1 := BXx.out.cell1
    go_wp2_with fail
    refine (impl_leastR w7 Ao Ao' nm nm co co' t2 f2 HRo.out HRo'.out (by omega) (by omega) (ok := true) (yt := formT t f K) (yf := formF t f K) (HE2.out)).mono ?_
    rintro e w8 ⟨u, u', rfl, o, b⟩
    have hl : (formT t f K : List Int).length = nm := HL1.out
    have hl' : (formF t f K : List Int).length = nm := HL2.out
    obtain ⟨Ay, cy, Ay', cy', rfl, rfl, r1, r2⟩ := o.form hl hl'
    have HRy := Lib.hid r1; have HRy' := Lib.hid r2; clear o hl hl' r1 r2
    replace HRm := Lib.hid (HRm.out.below b)
    replace HRm' := Lib.hid (HRm'.out.below b)
    replace HRo := Lib.hid (HRo.out.below b)
    replace HRo' := Lib.hid (HRo'.out.below b)
    replace HRx := Lib.hid (HRx.out.below b)
    replace HRx' := Lib.hid (HRx'.out.below b)
    replace BXm := Lib.hid (BXm.out.below b); replace cm_0 := BXm.out.cell0; replace cm_1 := BXm.out.cell1
    replace BXo := Lib.hid (BXo.out.below b); replace co_0 := BXo.out.cell0; replace co_1 := BXo.out.cell1
    replace BXx := Lib.hid (BXx.out.below b); replace cx_0 := BXx.out.cell0; replace cx_1 := BXx.out.cell1
    replace HB := Lib.hid (HB.out.trans (b.mono hs)); replace hs := HB.out.size
    clear b
    obtain ⟨w9, hWw9, hx, b, hz⟩ := Box.local_ w8 35 (.slice Ay nm cy) (.slice Ay' nm cy')
    have BXy := Lib.hid hx; clear hx hz
    replace HRm := Lib.hid (HRm.out.below b)
    replace HRm' := Lib.hid (HRm'.out.below b)
    replace HRo := Lib.hid (HRo.out.below b)
    replace HRo' := Lib.hid (HRo'.out.below b)
    replace HRx := Lib.hid (HRx.out.below b)
    replace HRx' := Lib.hid (HRx'.out.below b)
    replace HRy := Lib.hid (HRy.out.below b)
    replace HRy' := Lib.hid (HRy'.out.below b)
    replace BXm := Lib.hid (BXm.out.below b); replace cm_0 := BXm.out.cell0; replace cm_1 := BXm.out.cell1
    replace BXo := Lib.hid (BXo.out.below b); replace co_0 := BXo.out.cell0; replace co_1 := BXo.out.cell1
    replace BXx := Lib.hid (BXx.out.below b); replace cx_0 := BXx.out.cell0; replace cx_1 := BXx.out.cell1
    replace HB := Lib.hid (HB.out.trans (b.mono hs)); replace hs := HB.out.size
    clear b
    have cy_0 := BXy.out.cell0; have cy_1 := BXy.out.cell1
    go_wp2_with fail
    refine (impl_degreesR w9 Am Am' nm nm cm cm' t f HRm.out HRm'.out (by omega) (by omega) (ok := true) (ys := typeL t) (by rw [degreesR, if_pos (mapV_iff.2 HM.out)])).mono ?_
    rintro e w10 ⟨v, rfl, o, b⟩
    have hl : (typeL t : List Int).length = M := HMM.out
    obtain ⟨Ac, cc, rfl, -, -⟩ := o.form' hl
    have HRc := Lib.hid (o.rd hl); clear o hl
    replace HRm := Lib.hid (HRm.out.below b)
    replace HRm' := Lib.hid (HRm'.out.below b)
    replace HRo := Lib.hid (HRo.out.below b)
    replace HRo' := Lib.hid (HRo'.out.below b)
    replace HRx := Lib.hid (HRx.out.below b)
    replace HRx' := Lib.hid (HRx'.out.below b)
    replace HRy := Lib.hid (HRy.out.below b)
    replace HRy' := Lib.hid (HRy'.out.below b)
    replace BXm := Lib.hid (BXm.out.below b); replace cm_0 := BXm.out.cell0; replace cm_1 := BXm.out.cell1
    replace BXo := Lib.hid (BXo.out.below b); replace co_0 := BXo.out.cell0; replace co_1 := BXo.out.cell1
    replace BXx := Lib.hid (BXx.out.below b); replace cx_0 := BXx.out.cell0; replace cx_1 := BXx.out.cell1
    replace BXy := Lib.hid (BXy.out.below b); replace cy_0 := BXy.out.cell0; replace cy_1 := BXy.out.cell1
    replace HB := Lib.hid (HB.out.trans (b.mono hs)); replace hs := HB.out.size
    clear b
    go_wp2_with fail
    refine (impl_degreesR w10 Ao Ao' nm nm co co' t2 f2 HRo.out HRo'.out (by omega) (by omega) (ok := true) (ys := typeL t) (by rw [degreesR, if_pos (mapV_iff.2 HM2.out), HT.out])).mono ?_
    rintro e w11 ⟨v, rfl, o, b⟩
    have hl : (typeL t : List Int).length = M := HMM.out
    obtain ⟨Ad, cd, rfl, -, -⟩ := o.form' hl
    have HRd := Lib.hid (o.rd hl); clear o hl
    replace HRm := Lib.hid (HRm.out.below b)
    replace HRm' := Lib.hid (HRm'.out.below b)
    replace HRo := Lib.hid (HRo.out.below b)
    replace HRo' := Lib.hid (HRo'.out.below b)
    replace HRx := Lib.hid (HRx.out.below b)
    replace HRx' := Lib.hid (HRx'.out.below b)
    replace HRy := Lib.hid (HRy.out.below b)
    replace HRy' := Lib.hid (HRy'.out.below b)
    replace HRc := Lib.hid (HRc.out.below b)
    replace BXm := Lib.hid (BXm.out.below b); replace cm_0 := BXm.out.cell0; replace cm_1 := BXm.out.cell1
    replace BXo := Lib.hid (BXo.out.below b); replace co_0 := BXo.out.cell0; replace co_1 := BXo.out.cell1
    replace BXx := Lib.hid (BXx.out.below b); replace cx_0 := BXx.out.cell0; replace cx_1 := BXx.out.cell1
    replace BXy := Lib.hid (BXy.out.below b); replace cy_0 := BXy.out.cell0; replace cy_1 := BXy.out.cell1
    replace HB := Lib.hid (HB.out.trans (b.mono hs)); replace hs := HB.out.size
    clear b
    go_wp2_with fail
    refine (impl_dualR w11 Am Am' nm nm cm cm' t f HRm.out HRm'.out (by omega) (by omega) (ok := true) (yt := mulL f t) (yf := f) (by rw [dualR, if_pos (mapV_iff.2 HM.out)])).mono ?_
    rintro e w12 ⟨u, u', rfl, o, b⟩
    have hl : (mulL f t : List Int).length = nm := (mulL_len _ _).trans HNm'.out
    have hl' : (f : List Int).length = nm := HNm'.out
    obtain ⟨Ae, ce, Ae', ce', rfl, rfl, r1, r2⟩ := o.form hl hl'
    have HRe := Lib.hid r1; have HRe' := Lib.hid r2; clear o hl hl' r1 r2
    replace HRm := Lib.hid (HRm.out.below b)
    replace HRm' := Lib.hid (HRm'.out.below b)
    replace HRo := Lib.hid (HRo.out.below b)
    replace HRo' := Lib.hid (HRo'.out.below b)
    replace HRx := Lib.hid (HRx.out.below b)
    replace HRx' := Lib.hid (HRx'.out.below b)
    replace HRy := Lib.hid (HRy.out.below b)
    replace HRy' := Lib.hid (HRy'.out.below b)
    replace HRc := Lib.hid (HRc.out.below b)
    replace HRd := Lib.hid (HRd.out.below b)
    replace BXm := Lib.hid (BXm.out.below b); replace cm_0 := BXm.out.cell0; replace cm_1 := BXm.out.cell1
    replace BXo := Lib.hid (BXo.out.below b); replace co_0 := BXo.out.cell0; replace co_1 := BXo.out.cell1
    replace BXx := Lib.hid (BXx.out.below b); replace cx_0 := BXx.out.cell0; replace cx_1 := BXx.out.cell1
    replace BXy := Lib.hid (BXy.out.below b); replace cy_0 := BXy.out.cell0; replace cy_1 := BXy.out.cell1
    replace HB := Lib.hid (HB.out.trans (b.mono hs)); replace hs := HB.out.size
    clear b
    obtain ⟨w13, hWw13, hx, b, hz⟩ := Box.local_ w12 35 (.slice Ae nm ce) (.slice Ae' nm ce')
    have BXe := Lib.hid hx; clear hx hz
    replace HRm := Lib.hid (HRm.out.below b)
    replace HRm' := Lib.hid (HRm'.out.below b)
    replace HRo := Lib.hid (HRo.out.below b)
    replace HRo' := Lib.hid (HRo'.out.below b)
    replace HRx := Lib.hid (HRx.out.below b)
    replace HRx' := Lib.hid (HRx'.out.below b)
    replace HRy := Lib.hid (HRy.out.below b)
    replace HRy' := Lib.hid (HRy'.out.below b)
    replace HRc := Lib.hid (HRc.out.below b)
    replace HRd := Lib.hid (HRd.out.below b)
    replace HRe := Lib.hid (HRe.out.below b)
    replace HRe' := Lib.hid (HRe'.out.below b)
    replace BXm := Lib.hid (BXm.out.below b); replace cm_0 := BXm.out.cell0; replace cm_1 := BXm.out.cell1
    replace BXo := Lib.hid (BXo.out.below b); replace co_0 := BXo.out.cell0; replace co_1 := BXo.out.cell1
    replace BXx := Lib.hid (BXx.out.below b); replace cx_0 := BXx.out.cell0; replace cx_1 := BXx.out.cell1
    replace BXy := Lib.hid (BXy.out.below b); replace cy_0 := BXy.out.cell0; replace cy_1 := BXy.out.cell1
    replace HB := Lib.hid (HB.out.trans (b.mono hs)); replace hs := HB.out.size
    clear b
    have ce_0 := BXe.out.cell0; have ce_1 := BXe.out.cell1
    go_wp2_with fail
    refine (impl_dualR w13 Ao Ao' nm nm co co' t2 f2 HRo.out HRo'.out (by omega) (by omega) (ok := true) (yt := mulL f2 t2) (yf := f2) (by rw [dualR, if_pos (mapV_iff.2 HM2.out)])).mono ?_
    rintro e w14 ⟨u, u', rfl, o, b⟩
    have hl : (mulL f2 t2 : List Int).length = nm := (mulL_len _ _).trans HNo'.out
    have hl' : (f2 : List Int).length = nm := HNo'.out
    obtain ⟨Av, cv, Av', cv', rfl, rfl, r1, r2⟩ := o.form hl hl'
    have HRv := Lib.hid r1; have HRv' := Lib.hid r2; clear o hl hl' r1 r2
    replace HRm := Lib.hid (HRm.out.below b)
    replace HRm' := Lib.hid (HRm'.out.below b)
    replace HRo := Lib.hid (HRo.out.below b)
    replace HRo' := Lib.hid (HRo'.out.below b)
    replace HRx := Lib.hid (HRx.out.below b)
    replace HRx' := Lib.hid (HRx'.out.below b)
    replace HRy := Lib.hid (HRy.out.below b)
    replace HRy' := Lib.hid (HRy'.out.below b)
    replace HRc := Lib.hid (HRc.out.below b)
    replace HRd := Lib.hid (HRd.out.below b)
    replace HRe := Lib.hid (HRe.out.below b)
    replace HRe' := Lib.hid (HRe'.out.below b)
    replace BXm := Lib.hid (BXm.out.below b); replace cm_0 := BXm.out.cell0; replace cm_1 := BXm.out.cell1
    replace BXo := Lib.hid (BXo.out.below b); replace co_0 := BXo.out.cell0; replace co_1 := BXo.out.cell1
    replace BXx := Lib.hid (BXx.out.below b); replace cx_0 := BXx.out.cell0; replace cx_1 := BXx.out.cell1
    replace BXy := Lib.hid (BXy.out.below b); replace cy_0 := BXy.out.cell0; replace cy_1 := BXy.out.cell1
    replace BXe := Lib.hid (BXe.out.below b); replace ce_0 := BXe.out.cell0; replace ce_1 := BXe.out.cell1
    replace HB := Lib.hid (HB.out.trans (b.mono hs)); replace hs := HB.out.size
    clear b
    obtain ⟨w15, hWw15, hx, b, hz⟩ := Box.local_ w14 35 (.slice Av nm cv) (.slice Av' nm cv')
    have BXv := Lib.hid hx; clear hx hz
    replace HRm := Lib.hid (HRm.out.below b)
    replace HRm' := Lib.hid (HRm'.out.below b)
    replace HRo := Lib.hid (HRo.out.below b)
    replace HRo' := Lib.hid (HRo'.out.below b)
    replace HRx := Lib.hid (HRx.out.below b)
    replace HRx' := Lib.hid (HRx'.out.below b)
    replace HRy := Lib.hid (HRy.out.below b)
    replace HRy' := Lib.hid (HRy'.out.below b)
    replace HRc := Lib.hid (HRc.out.below b)
    replace HRd := Lib.hid (HRd.out.below b)
    replace HRe := Lib.hid (HRe.out.below b)
    replace HRe' := Lib.hid (HRe'.out.below b)
    replace HRv := Lib.hid (HRv.out.below b)
    replace HRv' := Lib.hid (HRv'.out.below b)
    replace BXm := Lib.hid (BXm.out.below b); replace cm_0 := BXm.out.cell0; replace cm_1 := BXm.out.cell1
    replace BXo := Lib.hid (BXo.out.below b); replace co_0 := BXo.out.cell0; replace co_1 := BXo.out.cell1
    replace BXx := Lib.hid (BXx.out.below b); replace cx_0 := BXx.out.cell0; replace cx_1 := BXx.out.cell1
    replace BXy := Lib.hid (BXy.out.below b); replace cy_0 := BXy.out.cell0; replace cy_1 := BXy.out.cell1
    replace BXe := Lib.hid (BXe.out.below b); replace ce_0 := BXe.out.cell0; replace ce_1 := BXe.out.cell1
    replace HB := Lib.hid (HB.out.trans (b.mono hs)); replace hs := HB.out.size
    clear b
    have cv_0 := BXv.out.cell0; have cv_1 := BXv.out.cell1
    go_wp2_with fail
    go_region_held3 (fun w' => w'.cell? ⟨w6.heap.size, 0, none⟩ = some (.slice Ax nm cx) ∧ w'.cell? ⟨w6.heap.size, 1, none⟩ = some (.slice Ax' nm cx') ∧ w'.cell? ⟨w8.heap.size, 0, none⟩ = some (.slice Ay nm cy) ∧ w'.cell? ⟨w8.heap.size, 1, none⟩ = some (.slice Ay' nm cy') ∧ w'.cell? ⟨(w1.heap.size + 1), 0, none⟩ = some (.slice Ao nm co) ∧ w'.cell? ⟨(w1.heap.size + 1), 1, none⟩ = some (.slice Ao' nm co') ∧ w'.cell? ⟨w1.heap.size, 0, none⟩ = some (.slice Am nm cm) ∧ w'.cell? ⟨w1.heap.size, 1, none⟩ = some (.slice Am' nm cm') ∧ w'.cell? ⟨w12.heap.size, 0, none⟩ = some (.slice Ae nm ce) ∧ w'.cell? ⟨w12.heap.size, 1, none⟩ = some (.slice Ae' nm ce') ∧ w'.cell? ⟨w14.heap.size, 0, none⟩ = some (.slice Av nm cv) ∧ w'.cell? ⟨w14.heap.size, 1, none⟩ = some (.slice Av' nm cv')) (first | go_keep | exact ⟨(BXx.out.below BS5.out).cell0, (BXx.out.below BS5.out).cell1, (BXy.out.below BS5.out).cell0, (BXy.out.below BS5.out).cell1, (BXo.out.below BS5.out).cell0, (BXo.out.below BS5.out).cell1, (BXm.out.below BS5.out).cell0, (BXm.out.below BS5.out).cell1, (BXe.out.below BS5.out).cell0, (BXe.out.below BS5.out).cell1, (BXv.out.below BS5.out).cell0, (BXv.out.below BS5.out).cell1⟩ | exact ⟨(BXx.out.below BS4.out).cell0, (BXx.out.below BS4.out).cell1, (BXy.out.below BS4.out).cell0, (BXy.out.below BS4.out).cell1, (BXo.out.below BS4.out).cell0, (BXo.out.below BS4.out).cell1, (BXm.out.below BS4.out).cell0, (BXm.out.below BS4.out).cell1, (BXe.out.below BS4.out).cell0, (BXe.out.below BS4.out).cell1, (BXv.out.below BS4.out).cell0, (BXv.out.below BS4.out).cell1⟩ | exact ⟨(BXx.out.below BS3.out).cell0, (BXx.out.below BS3.out).cell1, (BXy.out.below BS3.out).cell0, (BXy.out.below BS3.out).cell1, (BXo.out.below BS3.out).cell0, (BXo.out.below BS3.out).cell1, (BXm.out.below BS3.out).cell0, (BXm.out.below BS3.out).cell1, (BXe.out.below BS3.out).cell0, (BXe.out.below BS3.out).cell1, (BXv.out.below BS3.out).cell0, (BXv.out.below BS3.out).cell1⟩ | exact ⟨(BXx.out.below BS2.out).cell0, (BXx.out.below BS2.out).cell1, (BXy.out.below BS2.out).cell0, (BXy.out.below BS2.out).cell1, (BXo.out.below BS2.out).cell0, (BXo.out.below BS2.out).cell1, (BXm.out.below BS2.out).cell0, (BXm.out.below BS2.out).cell1, (BXe.out.below BS2.out).cell0, (BXe.out.below BS2.out).cell1, (BXv.out.below BS2.out).cell0, (BXv.out.below BS2.out).cell1⟩ | exact ⟨(BXx.out.below BS1.out).cell0, (BXx.out.below BS1.out).cell1, (BXy.out.below BS1.out).cell0, (BXy.out.below BS1.out).cell1, (BXo.out.below BS1.out).cell0, (BXo.out.below BS1.out).cell1, (BXm.out.below BS1.out).cell0, (BXm.out.below BS1.out).cell1, (BXe.out.below BS1.out).cell0, (BXe.out.below BS1.out).cell1, (BXv.out.below BS1.out).cell0, (BXv.out.below BS1.out).cell1⟩ | exact ⟨(BXx.out.below BS0.out).cell0, (BXx.out.below BS0.out).cell1, (BXy.out.below BS0.out).cell0, (BXy.out.below BS0.out).cell1, (BXo.out.below BS0.out).cell0, (BXo.out.below BS0.out).cell1, (BXm.out.below BS0.out).cell0, (BXm.out.below BS0.out).cell1, (BXe.out.below BS0.out).cell0, (BXe.out.below BS0.out).cell1, (BXv.out.below BS0.out).cell0, (BXv.out.below BS0.out).cell1⟩) (first
      | (have hchk := BS4.out; clear hchk; go_at_call 51; refine (impl_turnsR _ Ao Ao' nm nm co co' t2 f2 (HRo.out.below BS4.out) (HRo'.out.below BS4.out) (by omega) (by omega) HU2.out).mono ?_; rintro e w21 ⟨rfl, b⟩; have BS5 : Hid (Below w15.heap.size w15 w21) := BS4.out.trans (b.mono BS4.out.size); clear b)
      | (have hchk := BS3.out; clear hchk; go_at_call 51; refine (impl_turnsR _ Am Am' nm nm cm cm' t f (HRm.out.below BS3.out) (HRm'.out.below BS3.out) (by omega) (by omega) HU1.out).mono ?_; rintro e w20 ⟨rfl, b⟩; have BS4 : Hid (Below w15.heap.size w15 w20) := BS3.out.trans (b.mono BS3.out.size); clear b)
      | (have hchk := BS2.out; clear hchk; go_at_call 45; refine (impl_sameR _ Ae Ae' nm nm ce ce' (mulL f t) f (HRe.out.below BS2.out) (HRe'.out.below BS2.out) (by omega) (by omega) Av Av' nm nm cv cv' (mulL f2 t2) f2 (HRv.out.below BS2.out) (HRv'.out.below BS2.out) (by omega) (by omega) HS2.out).mono ?_; rintro e w19 ⟨rfl, b⟩; have BS3 : Hid (Below w15.heap.size w15 w19) := BS2.out.trans (b.mono BS2.out.size); clear b)
      | (have hchk := BS1.out; clear hchk; go_at_call 45; refine (impl_sameR _ Ao Ao' nm nm co co' t2 f2 (HRo.out.below BS1.out) (HRo'.out.below BS1.out) (by omega) (by omega) Am Am' nm nm cm cm' t f (HRm.out.below BS1.out) (HRm'.out.below BS1.out) (by omega) (by omega) HS1.out).mono ?_; rintro e w18 ⟨rfl, b⟩; have BS2 : Hid (Below w15.heap.size w15 w18) := BS1.out.trans (b.mono BS1.out.size); clear b)
      | (have hchk := BS0.out; clear hchk; go_at_call 18; refine (same_yes _ Ac Ad M M cc cd (typeL t) (typeL t) (HRc.out.below BS0.out) (HRd.out.below BS0.out) (by omega) (by omega) (rfl)).mono ?_; rintro e w17 ⟨rfl, b⟩; have BS1 : Hid (Below w15.heap.size w15 w17) := BS0.out.trans (b.mono BS0.out.size); clear b)
      | (go_at_call 35; refine (same_map_yes _ Ax Ax' Ay Ay' nm nm cx cx' nm nm cy cy' (formT t f K) (formF t f K) (formT t f K) (formF t f K) (HRx.out.drewN _) (HRx'.out.drewN _) (HRy.out.drewN _) (HRy'.out.drewN _) (by omega) (by omega) (by omega) (by omega) (rfl) (rfl)).mono ?_; rintro e w16 ⟨rfl, b⟩; have BS0 : Hid (Below w15.heap.size w15 w16) := Below.of_drewN b; clear b))
    all_goals
      go_wp2
      go_ret
      exact ⟨rfl, HB.out.trans (BS5.out.mono hs)⟩
  | false =>
    go_wp2_with fail
    go_ret
    exact ⟨rfl, HB.out⟩

end Go.Proofs.Yteajaikgeephmaa
