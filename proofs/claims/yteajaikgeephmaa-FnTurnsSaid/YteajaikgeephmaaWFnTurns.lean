/-
  FnTurns: the walk of the law.
-/
import Derived.Test.YteajaikgeephmaaLawMap
import Derived.Test.YteajaikgeephmaaDrawT
import Derived.Test.YteajaikgeephmaaPar6
import Derived.Test.YteajaikgeephmaaTurnsR
import Derived.Test.YteajaikgeephmaaDual
import Derived.Test.YteajaikgeephmaaFormR
import Derived.Test.YteajaikgeephmaaTurnP
import Derived.Test.YteajaikgeephmaaTurnQ
namespace Go.Proofs.Yteajaikgeephmaa
open Go.RowKit

set_option maxRecDepth 100000 in
set_option maxHeartbeats 6400000 in
theorem walk_FnTurns (A0 : Option Addr) (n0 c0 : Nat) (bs0 : List Int) (w : World) (h0 : RdB w A0 n0 bs0) (hm0 : n0 ≤ maxLen ∧ n0 ≤ c0) :
    Calls Try.prog 11 #[.slice A0 n0 c0] w fun e w' => e = .returned (.bool true) ∧ Below w.heap.size w w' := by
  have HB0_0 := Lib.hid h0; have hc0 := hm0.2; have hml0 := hm0.1; clear h0 hm0; unfold maxLen at hml0
  by_cases hbig0 : 1048576 < n0
  · have hd : decide ((1048576 : Int) < n0) = true := by simp; omega
    go_enter Try.func11, Try.ntmps11
    go_wp2
    go_ret
    exact ⟨rfl, Below.refl _ _⟩
  have hd0 : decide ((1048576 : Int) < n0) = false := by simp; omega
  have hnb0 : n0 ≤ 1048576 := by omega
  clear hbig0
  go_enter Try.func11, Try.ntmps11
  obtain ⟨i0, hinf, hz0, hz1, hz2⟩ := info_parts info_mapT
  go_wp2_with fail
  refine (drawMapTurns_any w A0 n0 c0 bs0 HB0_0.out hnb0 hc0).mono ?_
  rintro e w1 ⟨Am, Am', nm, nm', cm, cm', t, f, rfl, r1, r2, hlm, hlm', b⟩
  have HNm := Lib.hid r1.1; have HNm' := Lib.hid r2.1; have HRm := Lib.hid r1; have HRm' := Lib.hid r2; clear r1 r2
  have HB := Lib.hid b; have hs := b.size; clear b
  obtain ⟨w2, hWw2, hx, b, hz⟩ := Box.local_ w1 35 (.slice Am nm cm) (.slice Am' nm' cm')
  have BXm := Lib.hid hx; clear hx hz
  replace HRm := Lib.hid (HRm.out.below b)
  replace HRm' := Lib.hid (HRm'.out.below b)
  replace HB := Lib.hid (HB.out.trans (b.mono hs)); replace hs := HB.out.size
  clear b
  have cm_0 := BXm.out.cell0; have cm_1 := BXm.out.cell1
  by_cases hv : mapV t f = true
  · have HM := Lib.hid (mapV_iff.1 hv)
    have HVV := Lib.hid hv; clear hv
    obtain rfl : nm = nm' := by have := HM.out.len; rw [HNm.out, HNm'.out] at this; exact this
    have hn1 : 1 ≤ nm := by have := HM.out.turn.1; rw [HNm.out] at this; exact this
    obtain ⟨u, hu⟩ : ∃ u, turnsTo t f t.length = u := ⟨_, rfl⟩
    have hu1 : 1 ≤ u := by rw [← hu]; exact turns_pos HM.out
    obtain ⟨hd1, hd2⟩ := turns_div HM.out
    rw [hu, HNm.out] at hd1 hd2
    have hde := turns_dual HM.out
    rw [hu] at hde
    have HU1 : Hid (turnsR t f = (u : Int)) := by rw [Hid, turnsR, if_pos HVV.out, hu]
    have HU2 : Hid (turnsR (mulL f t) f = (u : Int)) := by rw [Hid, turnsR, if_pos (mapV_iff.2 HM.out.dual), hde]
    have HD1 := Lib.hid hd1; have HD2 := Lib.hid hd2; clear hd1 hd2 hde hu
    have huu : ((u : Int) != (u : Int)) = false := by simp
    have hul : decide ((u : Int) < 0) = false := by simp
    go_wp2_with fail
    refine (impl_turnsR w2 Am Am' nm nm cm cm' t f HRm.out HRm'.out (by omega) (by omega) HU1.out).mono ?_
    rintro e w3 ⟨rfl, b⟩
    replace HRm := Lib.hid (HRm.out.below b)
    replace HRm' := Lib.hid (HRm'.out.below b)
    replace BXm := Lib.hid (BXm.out.below b); replace cm_0 := BXm.out.cell0; replace cm_1 := BXm.out.cell1
    replace HB := Lib.hid (HB.out.trans (b.mono hs)); replace hs := HB.out.size
    clear b
    go_wp2_with fail
    refine (spec_turnsR w3 Am Am' nm nm cm cm' t f HRm.out HRm'.out (by omega) (by omega) HU1.out).mono ?_
    rintro e w4 ⟨rfl, b⟩
    replace HRm := Lib.hid (HRm.out.below b)
    replace HRm' := Lib.hid (HRm'.out.below b)
    replace BXm := Lib.hid (BXm.out.below b); replace cm_0 := BXm.out.cell0; replace cm_1 := BXm.out.cell1
    replace HB := Lib.hid (HB.out.trans (b.mono hs)); replace hs := HB.out.size
    clear b
    go_wp2_with fail
    refine (impl_dualR w4 Am Am' nm nm cm cm' t f HRm.out HRm'.out (by omega) (by omega) (ok := true) (yt := mulL f t) (yf := f) (by rw [dualR, if_pos HVV.out])).mono ?_
    rintro e w5 ⟨u, u', rfl, o, b⟩
    have hl : (mulL f t : List Int).length = nm := (mulL_len _ _).trans HNm'.out
    have hl' : (f : List Int).length = nm := HNm'.out
    obtain ⟨Ae, ce, Ae', ce', rfl, rfl, r1, r2⟩ := o.form hl hl'
    have HRe := Lib.hid r1; have HRe' := Lib.hid r2; clear o hl hl' r1 r2
    replace HRm := Lib.hid (HRm.out.below b)
    replace HRm' := Lib.hid (HRm'.out.below b)
    replace BXm := Lib.hid (BXm.out.below b); replace cm_0 := BXm.out.cell0; replace cm_1 := BXm.out.cell1
    replace HB := Lib.hid (HB.out.trans (b.mono hs)); replace hs := HB.out.size
    clear b
    obtain ⟨w6, hWw6, hx, b, hz⟩ := Box.local_ w5 35 (.slice Ae nm ce) (.slice Ae' nm ce')
    have BXe := Lib.hid hx; clear hx hz
    replace HRm := Lib.hid (HRm.out.below b)
    replace HRm' := Lib.hid (HRm'.out.below b)
    replace HRe := Lib.hid (HRe.out.below b)
    replace HRe' := Lib.hid (HRe'.out.below b)
    replace BXm := Lib.hid (BXm.out.below b); replace cm_0 := BXm.out.cell0; replace cm_1 := BXm.out.cell1
    replace HB := Lib.hid (HB.out.trans (b.mono hs)); replace hs := HB.out.size
    clear b
    have ce_0 := BXe.out.cell0; have ce_1 := BXe.out.cell1
    go_wp2_with fail
    go_loopw [9, 10] (fun fv iv wr => ∃ k g cc M : Nat, k ≤ nm ∧ iv = .int .i64 (k : Int) ∧ fv = .slice (some ⟨g, 0, none⟩) M cc ∧ Hid (newN t f k = M) ∧ Hid (RowM wr w6.heap.size (.slice (some ⟨g, 0, none⟩) M cc) (newL t f k)) ∧ Hid (Below w6.heap.size w6 wr)) (fun _ iv _ => nm - (intOf iv).toNat)
    case atStart => exact ⟨0, w6.heap.size, 0, 0, by omega, rfl, rfl, rfl, RowM.new_ (Nat.le_refl _), (Below.refl _ _).alloc (Nat.le_refl _) _⟩
    case round =>
      obtain ⟨k, g, cc, M, hk, rfl, rfl, hMN, HFR, hb⟩ := hrel
      replace HRm := Lib.hid (HRm.out.below hb.out)
      replace HRm' := Lib.hid (HRm'.out.below hb.out)
      replace HRe := Lib.hid (HRe.out.below hb.out)
      replace HRe' := Lib.hid (HRe'.out.below hb.out)
      replace BXm := Lib.hid (BXm.out.below hb.out); replace cm_0 := BXm.out.cell0; replace cm_1 := BXm.out.cell1
      replace BXe := Lib.hid (BXe.out.below hb.out); replace ce_0 := BXe.out.cell0; replace ce_1 := BXe.out.cell1
      replace HB := Lib.hid (HB.out.trans (hb.out.mono hs)); replace hs := HB.out.size
      have HW := hb; clear hb
      have hM12 : M ≤ 12 := by have h1 := newN_le t f k; rw [hMN.out] at h1; omega
      by_cases hlt : k < nm
      · have hit : Hid (k < t.length) := by rw [Hid, HNm.out]; exact hlt
        have HLT : Hid ((formT t f k).length = nm) := (formT_len HM.out hit.out).trans HNm.out
        have HLF : Hid ((formF t f k).length = nm) := (formF_len HM.out hit.out).trans HNm.out
        have HFI : Hid (formR t f (k : Int) = (true, formT t f k, formF t f k)) := by rw [Hid, formR, if_pos ⟨HVV.out, by simp [dartB]; exact hit.out⟩]; rfl
        have hwi : Hid ((Lit.int .i64 (k : Int)).wf = true) := by simp [Hid, Lit.wf, IntKind.min, IntKind.max, IntKind.bits, IntKind.signed]; omega
        go_wp2_with fail
        refine (impl_formR wr Am Am' nm nm cm cm' t f HRm.out HRm'.out (by omega) (by omega) (k : Int) (hwi.out) (ok := true) (yt := formT t f k) (yf := formF t f k) (HFI.out)).mono ?_
        rintro e w7 ⟨u1, u2, rfl, o, b⟩
        obtain ⟨Ay, cy, Ay', cy', rfl, rfl, r1, r2⟩ := o.form HLT.out HLF.out
        have hlo : w6.heap.size ≤ wr.heap.size := HW.out.size
        have HOY := Lib.hid (o.mono hlo); have HRy := Lib.hid r1; have HRy' := Lib.hid r2; clear o r1 r2 hlo
        replace HRm := Lib.hid (HRm.out.below b)
        replace HRm' := Lib.hid (HRm'.out.below b)
        replace HRe := Lib.hid (HRe.out.below b)
        replace HRe' := Lib.hid (HRe'.out.below b)
        replace HFR := Lib.hid (HFR.out.below b)
        replace BXm := Lib.hid (BXm.out.below b); replace cm_0 := BXm.out.cell0; replace cm_1 := BXm.out.cell1
        replace BXe := Lib.hid (BXe.out.below b); replace ce_0 := BXe.out.cell0; replace ce_1 := BXe.out.cell1
        replace HB := Lib.hid (HB.out.trans (b.mono hs)); replace hs := HB.out.size
        replace HW := Lib.hid (HW.out.trans (b.mono HW.out.size))
        clear b
        obtain ⟨w8, hWw8, hx, b, hz⟩ := Box.local_ w7 35 (.slice Ay nm cy) (.slice Ay' nm cy')
        have BXy := Lib.hid hx; clear hx hz
        replace HRm := Lib.hid (HRm.out.below b)
        replace HRm' := Lib.hid (HRm'.out.below b)
        replace HRe := Lib.hid (HRe.out.below b)
        replace HRe' := Lib.hid (HRe'.out.below b)
        replace HFR := Lib.hid (HFR.out.below b)
        replace HRy := Lib.hid (HRy.out.below b)
        replace HRy' := Lib.hid (HRy'.out.below b)
        replace HOY := Lib.hid (HOY.out.below b)
        replace BXm := Lib.hid (BXm.out.below b); replace cm_0 := BXm.out.cell0; replace cm_1 := BXm.out.cell1
        replace BXe := Lib.hid (BXe.out.below b); replace ce_0 := BXe.out.cell0; replace ce_1 := BXe.out.cell1
        replace HB := Lib.hid (HB.out.trans (b.mono hs)); replace hs := HB.out.size
        replace HW := Lib.hid (HW.out.trans (b.mono HW.out.size))
        clear b
        have cy_0 := BXy.out.cell0; have cy_1 := BXy.out.cell1
        go_wp2_with fail
        go_loopw [13, 14] (fun fv iv wr => ∃ j : Nat, j ≤ M ∧ iv = .int .i64 (j : Int) ∧ fv = .bool (freshTo t f k j) ∧ Hid (Below w8.heap.size w8 wr)) (fun _ iv _ => M - (intOf iv).toNat)
        case atStart => exact ⟨0, by omega, rfl, by rw [fresh_zero], Below.refl _ _⟩
        case round =>
          obtain ⟨j, hj, rfl, rfl, hb⟩ := hrel
          obtain ⟨fr, hfr⟩ : ∃ fr, freshTo t f k j = fr := ⟨_, rfl⟩
          rw [hfr]
          by_cases hjM : j < M
          · obtain ⟨Aj, Aj', cj, cj', x1, x2, q1, q2, r1, r2, hs1⟩ := row_at HM.out hk (HFR.out.below hb.out) hMN.out HNm.out hjM
            have z0 := (BXy.out.below hb.out).cell0; have z1 := (BXy.out.below hb.out).cell1
            obtain ⟨q, hq⟩ : ∃ q, (eqB x1 (formT t f k) && eqB x2 (formF t f k)) = q := ⟨_, rfl⟩
            rw [hfr, hq] at hs1
            have HS1 := Lib.hid hs1; have HQ := Lib.hid hq; have HR1 := Lib.hid r1; have HR2 := Lib.hid r2; have HY1 := Lib.hid (HRy.out.below hb.out); have HY2 := Lib.hid (HRy'.out.below hb.out); clear hs1 hq r1 r2 hfr
            cases fr with
            | true =>
              go_wp2_with fail
              first | (go_region_with (first
                | (go_at_call 35; refine (same_map_b _ Aj Aj' Ay Ay' nm nm cj cj' nm nm cy cy' x1 x2 (formT t f k) (formF t f k) (HR1.out.drewN _) (HR2.out.drewN _) (HY1.out.drewN _) (HY2.out.drewN _) (by omega) (by omega) (by omega) (by omega) HQ.out).mono ?_; rintro e wz ⟨rfl, b⟩; have BZ := Lib.hid (Below.of_drewN b); clear b))) | fail
              all_goals
                go_wp2
                go_roundw
                case rel => exact ⟨j + 1, by omega, by go_num, by rw [HS1.out]; cases q <;> rfl, hb.out.trans (BZ.out.mono hb.out.size)⟩
                case measure => simp [intOf]; omega
            | false =>
              go_wp2_with fail
              go_quiet (fail)
              go_wp2
              go_roundw
              case rel => exact ⟨j + 1, by omega, by go_num, by rw [HS1.out]; cases q <;> rfl, below_drewN hb.out _⟩
              case measure => simp [intOf]; omega
          · obtain rfl : j = M := by omega
            have b := hb.out; clear hb
            replace HRm := Lib.hid (HRm.out.below b)
            replace HRm' := Lib.hid (HRm'.out.below b)
            replace HRe := Lib.hid (HRe.out.below b)
            replace HRe' := Lib.hid (HRe'.out.below b)
            replace HFR := Lib.hid (HFR.out.below b)
            replace HRy := Lib.hid (HRy.out.below b)
            replace HRy' := Lib.hid (HRy'.out.below b)
            replace HOY := Lib.hid (HOY.out.below b)
            replace BXm := Lib.hid (BXm.out.below b); replace cm_0 := BXm.out.cell0; replace cm_1 := BXm.out.cell1
            replace BXe := Lib.hid (BXe.out.below b); replace ce_0 := BXe.out.cell0; replace ce_1 := BXe.out.cell1
            replace BXy := Lib.hid (BXy.out.below b); replace cy_0 := BXy.out.cell0; replace cy_1 := BXy.out.cell1
            replace HB := Lib.hid (HB.out.trans (b.mono hs)); replace hs := HB.out.size
            replace HW := Lib.hid (HW.out.trans (b.mono HW.out.size))
            clear b
            have HFQ : Hid (fr = true ↔ newF t f k) := by rw [Hid, ← hfr, ← hMN.out]; exact fresh_iff
            clear hfr
            cases fr with
            | false =>
              have hnn : ¬ newF t f k := fun h => by have := HFQ.out.2 h; exact absurd this (by simp)
              have HN1 := Lib.hid (newN_no hnn); have HN2 := Lib.hid (newL_no hnn); clear hnn HFQ
              go_wp2_with fail
              go_roundw
              case rel => exact ⟨k + 1, g, cc, _, by omega, by go_num, rfl, by rw [Hid, HN1.out]; exact hMN.out, by rw [HN2.out]; exact HFR, HW⟩
              case measure => simp [intOf]; omega
            | true =>
              have hyn := HFQ.out.1 rfl
              have HN1 := Lib.hid (newN_yes hyn); have HN2 := Lib.hid (newL_yes hyn); clear hyn HFQ
              obtain ⟨vs, ho, hmv⟩ := HFR.out
              have hlen : (newL t f k).length = j := (newL_len t f k).trans hMN.out
              rw [hlen] at ho
              have HO := Lib.hid ho; have HMV := Lib.hid hmv; have HLEN := Lib.hid hlen; have hws := HW.out.size; clear ho hmv hlen
              go_wp2_with (at_builtin; refine wpList_append_own _ rfl _ _ 56 rfl w6.heap.size 35 i0 (.agg #[.slice none 0 0, .slice none 0 0]) 2 48 Try.underlying56 hinf hz0 hz1 hz2 rfl (by decide) _ _ _ rfl (HO.out.alloc _) ⟨wr.heap.size, 0, none⟩ 1 1 [.slice Ay nm cy, .slice Ay' nm cy'] rfl rfl (map_news _ _ _ _) (by intro u hu; simp at hu; rcases hu with rfl | rfl <;> rfl) (by unfold maxLen; omega) (by omega) (by simp; omega) ?_; intro v1 w1 hown1 hgrow1 _)
              have HOW := Lib.hid hown1; have HGR := Lib.hid hgrow1; clear hown1 hgrow1
              have hal : Below wr.heap.size wr (wr.alloc (.cells #[.slice Ay nm cy, .slice Ay' nm cy'] 35)) := (Below.refl _ _).alloc (Nat.le_refl _) _
              obtain ⟨g2, c2, rfl, hrw⟩ := rowm_more (ms := newL t f k) (m := (formT t f k, formF t f k)) (N := j + 1) (by rw [HLEN.out]; exact HO.out.alloc _) (HMV.out.below hal) (HOY.out.below hal) (by rw [HLEN.out]; exact HOW.out) HGR.out (by rw [HLEN.out])
              have HRW := Lib.hid hrw; have HWW : Hid (Below w6.heap.size w6 w1) := (HW.out.alloc hws _).grown HGR.out (by simp; omega) (fun q hq => (HO.out.lt q hq).1); clear hrw hal
              go_wp2
              go_roundw
              case rel => exact ⟨k + 1, g2, c2, j + 1, by omega, by go_num, rfl, by rw [Hid, HN1.out, hMN.out], by rw [HN2.out]; exact HRW, HWW⟩
              case measure => simp [intOf]; omega
      · obtain rfl : nm = k := by omega
        have hu0 : ¬ ((u : Int) = 0) := by omega
        have hu0' : ((u : Int) == 0) = false := by simp; omega
        have hge : decide ((u : Int) ≥ 1) = true := by simp; omega
        have hge2 : decide ((1 : Int) ≤ (u : Int)) = true := by simp; omega
        have hmod : ((nm : Int)).tmod (u : Int) = 0 := by show (((nm % u : Nat)) : Int) = 0; rw [HD1.out]; rfl
        have hdiv : ((nm : Int)).tdiv (u : Int) = (M : Int) := by show (((nm / u : Nat)) : Int) = (M : Int); rw [HD2.out, hMN.out]
        go_wp2_with fail
        refine (impl_turnsR wr Ae Ae' nm nm ce ce' (mulL f t) f HRe.out HRe'.out (by omega) (by omega) HU2.out).mono ?_
        rintro e w7 ⟨rfl, b⟩
        replace HRm := Lib.hid (HRm.out.below b)
        replace HRm' := Lib.hid (HRm'.out.below b)
        replace HRe := Lib.hid (HRe.out.below b)
        replace HRe' := Lib.hid (HRe'.out.below b)
        replace HFR := Lib.hid (HFR.out.below b)
        replace BXm := Lib.hid (BXm.out.below b); replace cm_0 := BXm.out.cell0; replace cm_1 := BXm.out.cell1
        replace BXe := Lib.hid (BXe.out.below b); replace ce_0 := BXe.out.cell0; replace ce_1 := BXe.out.cell1
        replace HB := Lib.hid (HB.out.trans (b.mono hs)); replace hs := HB.out.size
        replace HW := Lib.hid (HW.out.trans (b.mono HW.out.size))
        clear b
        go_wp2_with fail
        go_ret
        exact ⟨rfl, HB.out⟩
  · have HV := Lib.hid hv
    have hmm : ((-1 : Int) != (-1 : Int)) = false := by decide
    go_wp2_with fail
    refine (impl_turnsR w2 Am Am' nm nm' cm cm' t f HRm.out HRm'.out (by omega) (by omega) (r := -1) (by rw [turnsR, if_neg HV.out])).mono ?_
    rintro e w3 ⟨rfl, b⟩
    replace HRm := Lib.hid (HRm.out.below b)
    replace HRm' := Lib.hid (HRm'.out.below b)
    replace BXm := Lib.hid (BXm.out.below b); replace cm_0 := BXm.out.cell0; replace cm_1 := BXm.out.cell1
    replace HB := Lib.hid (HB.out.trans (b.mono hs)); replace hs := HB.out.size
    clear b
    go_wp2_with fail
    refine (spec_turnsR w3 Am Am' nm nm' cm cm' t f HRm.out HRm'.out (by omega) (by omega) (r := -1) (by rw [turnsR, if_neg HV.out])).mono ?_
    rintro e w4 ⟨rfl, b⟩
    replace HRm := Lib.hid (HRm.out.below b)
    replace HRm' := Lib.hid (HRm'.out.below b)
    replace BXm := Lib.hid (BXm.out.below b); replace cm_0 := BXm.out.cell0; replace cm_1 := BXm.out.cell1
    replace HB := Lib.hid (HB.out.trans (b.mono hs)); replace hs := HB.out.size
    clear b
    go_wp2_with fail
    go_ret
    exact ⟨rfl, HB.out⟩

end Go.Proofs.Yteajaikgeephmaa
