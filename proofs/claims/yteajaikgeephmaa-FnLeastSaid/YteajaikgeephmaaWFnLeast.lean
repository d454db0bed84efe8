/-
  FnLeast: the walk of the law.
-/
import Derived.Test.YteajaikgeephmaaLawMap
import Derived.Test.YteajaikgeephmaaDrawMs
import Derived.Test.YteajaikgeephmaaPar5
import Derived.Test.YteajaikgeephmaaLeastM
import Derived.Test.YteajaikgeephmaaFormR
namespace Go.Proofs.Yteajaikgeephmaa
open Go.RowKit

set_option maxRecDepth 100000 in
set_option maxHeartbeats 3200000 in
theorem walk_FnLeast (A0 : Option Addr) (n0 c0 : Nat) (bs0 : List Int) (w : World) (h0 : RdB w A0 n0 bs0) (hm0 : n0 ≤ maxLen ∧ n0 ≤ c0) :
    Calls Try.prog 12 #[.slice A0 n0 c0] w fun e w' => e = .returned (.bool true) ∧ Below w.heap.size w w' := by
  have HB0_0 := Lib.hid h0; have hc0 := hm0.2; have hml0 := hm0.1; clear h0 hm0; unfold maxLen at hml0
  by_cases hbig0 : 1048576 < n0
  · have hd : decide ((1048576 : Int) < n0) = true := by simp; omega
    go_enter Try.func12, Try.ntmps12
    go_wp2
    go_ret
    exact ⟨rfl, Below.refl _ _⟩
  have hd0 : decide ((1048576 : Int) < n0) = false := by simp; omega
  have hnb0 : n0 ≤ 1048576 := by omega
  clear hbig0
  go_enter Try.func12, Try.ntmps12
  go_wp2_with fail
  refine (drawMapLeast_any w A0 n0 c0 bs0 HB0_0.out hnb0 hc0).mono ?_
  rintro e w1 ⟨Am, Am', nm, nm', cm, cm', t, f, rfl, r1, r2, hlm, hlm', b⟩
  have HNm := Lib.hid r1.1; have HNm' := Lib.hid r2.1; have HRm := Lib.hid r1; have HRm' := Lib.hid r2; clear r1 r2
  have HB := Lib.hid b; have hs := b.size; clear b
  obtain ⟨w2, hWw2, hx, b, hz⟩ := Box.local_ w1 35 (.slice Am nm cm) (.slice Am' nm' cm')
  have BXm := Lib.hid hx; clear hx hz
  replace HRm := Lib.hid (HRm.out.below b)
  replace HRm' := Lib.hid (HRm'.out.below b)
  replace HB := Lib.hid (HB.out.trans (b.mono hs)); replace hs := HB.out.size
  clear b
  have cm_0 := BXm.out.cell0; have cm_1 := BXm.out.cell1
  by_cases hv : mapV t f = true
  · have HM := Lib.hid (mapV_iff.1 hv)
    have HVV := Lib.hid hv; clear hv
    obtain rfl : nm = nm' := by have := HM.out.len; rw [HNm.out, HNm'.out] at this; exact this
    have hn1 : 1 ≤ nm := by have := HM.out.turn.1; rw [HNm.out] at this; exact this
    obtain ⟨K, hK⟩ : ∃ K, leastTo t f (t.length - 1) = K := ⟨_, rfl⟩
    have hKn : K < nm := by have := leastTo_le t f (t.length - 1); rw [HNm.out] at this; rw [← hK, HNm.out]; omega
    have hll := least_least HM.out
    have hnl : ∀ r i, r < nm → i < nm → (∀ j, j < i → gi (formT t f r) j = gi (formT t f K) j) → ¬ gi (formT t f r) i < gi (formT t f K) i := fun r i hr hi hp => by rw [← hK] at hp ⊢; exact root_not_less HM.out (by rw [HNm.out]; exact hr) (by rw [HNm.out]; exact hi) hp
    have he1 : leastR t f = (true, formT t f K, formF t f K) := by rw [leastR, if_pos HVV.out, hK]
    rw [hK] at hll
    have HL1 : Hid ((formT t f K).length = nm) := (formT_len HM.out (by rw [HNm.out]; exact hKn)).trans HNm.out
    have HL2 : Hid ((formF t f K).length = nm) := (formF_len HM.out (by rw [HNm.out]; exact hKn)).trans HNm.out
    obtain ⟨a, ha⟩ : ∃ a, formT t f K = a := ⟨_, rfl⟩
    obtain ⟨b0, hb0⟩ : ∃ b, formF t f K = b := ⟨_, rfl⟩
    rw [ha, hb0] at hll he1
    rw [ha] at HL1 hnl
    rw [hb0] at HL2
    have HLL := Lib.hid hll; have HNL := Lib.hid hnl; have HE1 := Lib.hid he1; have HKA := Lib.hid ha; have HKB := Lib.hid hb0; clear hll hnl he1 ha hb0 hK
    go_wp2_with fail
    refine (impl_leastR w2 Am Am' nm nm cm cm' t f HRm.out HRm'.out (by omega) (by omega) (ok := true) (yt := a) (yf := b0) (HE1.out)).mono ?_
    rintro e w3 ⟨u, u', rfl, o, b⟩
    have hl : (a : List Int).length = nm := HL1.out
    have hl' : (b0 : List Int).length = nm := HL2.out
    obtain ⟨Ad, cd, Ad', cd', rfl, rfl, r1, r2⟩ := o.form hl hl'
    obtain ⟨gd, rfl, -, -, -⟩ := o.turn.cellAt hl (k := 0) (by omega)
    obtain ⟨gd', rfl, -, -, -⟩ := o.flip.cellAt hl' (k := 0) (by omega)
    have HRd := Lib.hid r1; have HRd' := Lib.hid r2; clear o hl hl' r1 r2
    replace HRm := Lib.hid (HRm.out.below b)
    replace HRm' := Lib.hid (HRm'.out.below b)
    replace BXm := Lib.hid (BXm.out.below b); replace cm_0 := BXm.out.cell0; replace cm_1 := BXm.out.cell1
    replace HB := Lib.hid (HB.out.trans (b.mono hs)); replace hs := HB.out.size
    clear b
    obtain ⟨w4, hWw4, hx, b, hz⟩ := Box.local_ w3 35 (.slice (some ⟨gd, 0, none⟩) nm cd) (.slice (some ⟨gd', 0, none⟩) nm cd')
    have BXd := Lib.hid hx; clear hx hz
    replace HRm := Lib.hid (HRm.out.below b)
    replace HRm' := Lib.hid (HRm'.out.below b)
    replace HRd := Lib.hid (HRd.out.below b)
    replace HRd' := Lib.hid (HRd'.out.below b)
    replace BXm := Lib.hid (BXm.out.below b); replace cm_0 := BXm.out.cell0; replace cm_1 := BXm.out.cell1
    replace HB := Lib.hid (HB.out.trans (b.mono hs)); replace hs := HB.out.size
    clear b
    have cd_0 := BXd.out.cell0; have cd_1 := BXd.out.cell1
    go_wp2_with fail
    refine (spec_leastR w4 Am Am' nm nm cm cm' t f HRm.out HRm'.out (by omega) (by omega) (ok := true) (yt := a) (yf := b0) (HE1.out)).mono ?_
    rintro e w5 ⟨u, u', rfl, o, b⟩
    have hl : (a : List Int).length = nm := HL1.out
    have hl' : (b0 : List Int).length = nm := HL2.out
    obtain ⟨Ae, ce, Ae', ce', rfl, rfl, r1, r2⟩ := o.form hl hl'
    have HRe := Lib.hid r1; have HRe' := Lib.hid r2; clear o hl hl' r1 r2
    replace HRm := Lib.hid (HRm.out.below b)
    replace HRm' := Lib.hid (HRm'.out.below b)
    replace HRd := Lib.hid (HRd.out.below b)
    replace HRd' := Lib.hid (HRd'.out.below b)
    replace BXm := Lib.hid (BXm.out.below b); replace cm_0 := BXm.out.cell0; replace cm_1 := BXm.out.cell1
    replace BXd := Lib.hid (BXd.out.below b); replace cd_0 := BXd.out.cell0; replace cd_1 := BXd.out.cell1
    replace HB := Lib.hid (HB.out.trans (b.mono hs)); replace hs := HB.out.size
    clear b
    obtain ⟨w6, hWw6, hx, b, hz⟩ := Box.local_ w5 35 (.slice Ae nm ce) (.slice Ae' nm ce')
    have BXe := Lib.hid hx; clear hx hz
    replace HRm := Lib.hid (HRm.out.below b)
    replace HRm' := Lib.hid (HRm'.out.below b)
    replace HRd := Lib.hid (HRd.out.below b)
    replace HRd' := Lib.hid (HRd'.out.below b)
    replace HRe := Lib.hid (HRe.out.below b)
    replace HRe' := Lib.hid (HRe'.out.below b)
    replace BXm := Lib.hid (BXm.out.below b); replace cm_0 := BXm.out.cell0; replace cm_1 := BXm.out.cell1
    replace BXd := Lib.hid (BXd.out.below b); replace cd_0 := BXd.out.cell0; replace cd_1 := BXd.out.cell1
    replace HB := Lib.hid (HB.out.trans (b.mono hs)); replace hs := HB.out.size
    clear b
    have ce_0 := BXe.out.cell0; have ce_1 := BXe.out.cell1
    go_wp2_with fail
    refine (same_map_yes w6 (some ⟨gd, 0, none⟩) (some ⟨gd', 0, none⟩) Ae Ae' nm nm cd cd' nm nm ce ce' a b0 a b0 HRd.out HRd'.out HRe.out HRe'.out (by omega) (by omega) (by omega) (by omega) (rfl) (rfl)).mono ?_
    rintro e w7 ⟨rfl, b⟩
    replace HRm := Lib.hid (HRm.out.below b)
    replace HRm' := Lib.hid (HRm'.out.below b)
    replace HRd := Lib.hid (HRd.out.below b)
    replace HRd' := Lib.hid (HRd'.out.below b)
    replace HRe := Lib.hid (HRe.out.below b)
    replace HRe' := Lib.hid (HRe'.out.below b)
    replace BXm := Lib.hid (BXm.out.below b); replace cm_0 := BXm.out.cell0; replace cm_1 := BXm.out.cell1
    replace BXd := Lib.hid (BXd.out.below b); replace cd_0 := BXd.out.cell0; replace cd_1 := BXd.out.cell1
    replace BXe := Lib.hid (BXe.out.below b); replace ce_0 := BXe.out.cell0; replace ce_1 := BXe.out.cell1
    replace HB := Lib.hid (HB.out.trans (b.mono hs)); replace hs := HB.out.size
    clear b
    clear ce_0 ce_1
    clear HRe
    clear HRe'
    go_wp2_with fail
    refine (impl_leastR w7 (some ⟨gd, 0, none⟩) (some ⟨gd', 0, none⟩) nm nm cd cd' a b0 HRd.out HRd'.out (by omega) (by omega) (ok := true) (yt := a) (yf := b0) (HLL.out)).mono ?_
    rintro e w8 ⟨u, u', rfl, o, b⟩
    have hl : (a : List Int).length = nm := HL1.out
    have hl' : (b0 : List Int).length = nm := HL2.out
    obtain ⟨Ax, cx, Ax', cx', rfl, rfl, r1, r2⟩ := o.form hl hl'
    have HRx := Lib.hid r1; have HRx' := Lib.hid r2; clear o hl hl' r1 r2
    replace HRm := Lib.hid (HRm.out.below b)
    replace HRm' := Lib.hid (HRm'.out.below b)
    replace HRd := Lib.hid (HRd.out.below b)
    replace HRd' := Lib.hid (HRd'.out.below b)
    replace BXm := Lib.hid (BXm.out.below b); replace cm_0 := BXm.out.cell0; replace cm_1 := BXm.out.cell1
    replace BXd := Lib.hid (BXd.out.below b); replace cd_0 := BXd.out.cell0; replace cd_1 := BXd.out.cell1
    replace HB := Lib.hid (HB.out.trans (b.mono hs)); replace hs := HB.out.size
    clear b
    obtain ⟨w9, hWw9, hx, b, hz⟩ := Box.local_ w8 35 (.slice Ax nm cx) (.slice Ax' nm cx')
    have BXx := Lib.hid hx; clear hx hz
    replace HRm := Lib.hid (HRm.out.below b)
    replace HRm' := Lib.hid (HRm'.out.below b)
    replace HRd := Lib.hid (HRd.out.below b)
    replace HRd' := Lib.hid (HRd'.out.below b)
    replace HRx := Lib.hid (HRx.out.below b)
    replace HRx' := Lib.hid (HRx'.out.below b)
    replace BXm := Lib.hid (BXm.out.below b); replace cm_0 := BXm.out.cell0; replace cm_1 := BXm.out.cell1
    replace BXd := Lib.hid (BXd.out.below b); replace cd_0 := BXd.out.cell0; replace cd_1 := BXd.out.cell1
    replace HB := Lib.hid (HB.out.trans (b.mono hs)); replace hs := HB.out.size
    clear b
    have cx_0 := BXx.out.cell0; have cx_1 := BXx.out.cell1
    go_wp2_with fail
    go_loopw [10, 11] (fun fv iv wr => ∃ (fd : Bool) (i : Nat), fv = .bool fd ∧ iv = .int .i64 (i : Int) ∧ i ≤ nm ∧ Hid (K < i → fd = true) ∧ Hid (Below w9.heap.size w9 wr)) (fun _ iv _ => nm - (intOf iv).toNat)
    case atStart => exact ⟨false, 0, rfl, rfl, by omega, fun h => absurd h (by omega), Below.refl _ _⟩
    case round =>
      obtain ⟨fd, i, rfl, rfl, hi, hfd, hb⟩ := hrel
      replace HRm := Lib.hid (HRm.out.below hb.out)
      replace HRm' := Lib.hid (HRm'.out.below hb.out)
      replace HRd := Lib.hid (HRd.out.below hb.out)
      replace HRd' := Lib.hid (HRd'.out.below hb.out)
      replace HRx := Lib.hid (HRx.out.below hb.out)
      replace HRx' := Lib.hid (HRx'.out.below hb.out)
      replace BXm := Lib.hid (BXm.out.below hb.out); replace cm_0 := BXm.out.cell0; replace cm_1 := BXm.out.cell1
      replace BXd := Lib.hid (BXd.out.below hb.out); replace cd_0 := BXd.out.cell0; replace cd_1 := BXd.out.cell1
      replace BXx := Lib.hid (BXx.out.below hb.out); replace cx_0 := BXx.out.cell0; replace cx_1 := BXx.out.cell1
      replace HB := Lib.hid (HB.out.trans (hb.out.mono hs)); replace hs := HB.out.size
      have HW := hb; clear hb
      by_cases hlt : i < nm
      · have hit : Hid (i < t.length) := by rw [Hid, HNm.out]; exact hlt
        have HLT : Hid ((formT t f i).length = nm) := (formT_len HM.out hit.out).trans HNm.out
        have HLF : Hid ((formF t f i).length = nm) := (formF_len HM.out hit.out).trans HNm.out
        have HFI : Hid (formR t f (i : Int) = (true, formT t f i, formF t f i)) := by rw [Hid, formR, if_pos ⟨HVV.out, by simp [dartB]; exact hit.out⟩]; rfl
        have hwi : Hid ((Lit.int .i64 (i : Int)).wf = true) := by simp [Hid, Lit.wf, IntKind.min, IntKind.max, IntKind.bits, IntKind.signed]; omega
        go_wp2_with fail
        refine (impl_formR wr Am Am' nm nm cm cm' t f HRm.out HRm'.out (by omega) (by omega) (i : Int) (hwi.out) (ok := true) (yt := formT t f i) (yf := formF t f i) (HFI.out)).mono ?_
        rintro e w10 ⟨u, u', rfl, o, b⟩
        have hl : (formT t f i : List Int).length = nm := HLT.out
        have hl' : (formF t f i : List Int).length = nm := HLF.out
        obtain ⟨Ay, cy, Ay', cy', rfl, rfl, r1, r2⟩ := o.form hl hl'
        obtain ⟨gy, rfl, -, -, -⟩ := o.turn.cellAt hl (k := 0) (by omega)
        obtain ⟨gy', rfl, -, -, -⟩ := o.flip.cellAt hl' (k := 0) (by omega)
        have HRy := Lib.hid r1; have HRy' := Lib.hid r2; clear o hl hl' r1 r2
        replace HRm := Lib.hid (HRm.out.below b)
        replace HRm' := Lib.hid (HRm'.out.below b)
        replace HRd := Lib.hid (HRd.out.below b)
        replace HRd' := Lib.hid (HRd'.out.below b)
        replace HRx := Lib.hid (HRx.out.below b)
        replace HRx' := Lib.hid (HRx'.out.below b)
        replace BXm := Lib.hid (BXm.out.below b); replace cm_0 := BXm.out.cell0; replace cm_1 := BXm.out.cell1
        replace BXd := Lib.hid (BXd.out.below b); replace cd_0 := BXd.out.cell0; replace cd_1 := BXd.out.cell1
        replace BXx := Lib.hid (BXx.out.below b); replace cx_0 := BXx.out.cell0; replace cx_1 := BXx.out.cell1
        replace HB := Lib.hid (HB.out.trans (b.mono hs)); replace hs := HB.out.size
        replace HW := Lib.hid (HW.out.trans (b.mono HW.out.size))
        clear b
        obtain ⟨w11, hWw11, hx, b, hz⟩ := Box.local_ w10 35 (.slice (some ⟨gy, 0, none⟩) nm cy) (.slice (some ⟨gy', 0, none⟩) nm cy')
        have BXy := Lib.hid hx; clear hx hz
        replace HRm := Lib.hid (HRm.out.below b)
        replace HRm' := Lib.hid (HRm'.out.below b)
        replace HRd := Lib.hid (HRd.out.below b)
        replace HRd' := Lib.hid (HRd'.out.below b)
        replace HRx := Lib.hid (HRx.out.below b)
        replace HRx' := Lib.hid (HRx'.out.below b)
        replace HRy := Lib.hid (HRy.out.below b)
        replace HRy' := Lib.hid (HRy'.out.below b)
        replace BXm := Lib.hid (BXm.out.below b); replace cm_0 := BXm.out.cell0; replace cm_1 := BXm.out.cell1
        replace BXd := Lib.hid (BXd.out.below b); replace cd_0 := BXd.out.cell0; replace cd_1 := BXd.out.cell1
        replace BXx := Lib.hid (BXx.out.below b); replace cx_0 := BXx.out.cell0; replace cx_1 := BXx.out.cell1
        replace HB := Lib.hid (HB.out.trans (b.mono hs)); replace hs := HB.out.size
        replace HW := Lib.hid (HW.out.trans (b.mono HW.out.size))
        clear b
        have cy_0 := BXy.out.cell0; have cy_1 := BXy.out.cell1
        cases fd with
        | true =>
          go_wp2_with fail
          go_loopw [14] (fun kv wr' => ∃ k d : Nat, kv = .int .i64 (k : Int) ∧ k ≤ nm ∧ Hid (∀ j, j < k → gi (formT t f i) j = gi a j) ∧ wr' = w11.drewN d) (fun kv _ => nm - (intOf kv).toNat)
          case atStart => exact ⟨0, 0, rfl, by omega, fun j hj => absurd hj (by omega), rfl⟩
          case round =>
            obtain ⟨k, d, rfl, hk, hpre, rfl⟩ := hrel
            by_cases hkn : k < nm
            · have hy1 := HRy.out.getg (j := k) hkn
              have hd1 := HRd.out.getg (j := k) hkn
              by_cases heq : gi (formT t f i) k = gi a k
              · rw [heq] at hy1
                obtain ⟨v, hv⟩ : ∃ v, gi a k = v := ⟨_, rfl⟩
                rw [hv] at hy1 hd1
                have hne : (v != v) = false := by simp
                have HEQ := Lib.hid heq; clear heq hv
                go_wp2
                go_quiet (fail)
                go_wp2
                go_roundw
                case rel => exact ⟨k + 1, d + _, by go_num, by omega, fun j hj => by
                  by_cases e : j = k
                  · subst e; exact HEQ.out
                  · exact hpre.out j (by omega), rfl⟩
                case measure => simp [intOf]; omega
              · have hnl := HNL.out i k hlt hkn hpre.out
                obtain ⟨v, hv⟩ : ∃ v, gi a k = v := ⟨_, rfl⟩
                obtain ⟨u, hu⟩ : ∃ u, gi (formT t f i) k = u := ⟨_, rfl⟩
                rw [hv] at hd1 heq hnl
                rw [hu] at hy1 heq hnl
                have hne : (u != v) = true := by simp [heq]
                have hlt2 : decide (u < v) = false := by simp; omega
                clear heq hnl hu hv
                go_wp2
                go_quiet (fail)
                go_wp2
                go_quiet (fail)
                go_wp2
                go_roundw
                case rel => exact ⟨true, i + 1, rfl, by go_num, by omega, fun _ => rfl, below_drewN HW.out _⟩
                case measure => simp [intOf]; omega
            · have hkn' : k = nm := by omega
              have HKN := Lib.hid hkn'; clear hkn'
              go_wp2
              go_roundw
              case rel => exact ⟨true, i + 1, rfl, by go_num, by omega, fun _ => rfl, below_drewN HW.out _⟩
              case measure => simp [intOf]; omega
        | false =>
          obtain ⟨q, hq⟩ : ∃ q, (eqB (formT t f i) a && eqB (formF t f i) b0) = q := ⟨_, rfl⟩
          have HQ : Hid (K < i + 1 → q = true) := fun h => by
            by_cases e : K = i
            · rw [← hq, ← e, HKA.out, HKB.out, eqB_refl, eqB_refl]; rfl
            · exact absurd (hfd.out (by omega)) (by simp)
          go_wp2_with fail
          refine (same_map_b w11 (some ⟨gy, 0, none⟩) (some ⟨gy', 0, none⟩) (some ⟨gd, 0, none⟩) (some ⟨gd', 0, none⟩) nm nm cy cy' nm nm cd cd' (formT t f i) (formF t f i) a b0 HRy.out HRy'.out HRd.out HRd'.out (by omega) (by omega) (by omega) (by omega) hq).mono ?_
          rintro e w12 ⟨rfl, b⟩
          clear hq
          replace HRm := Lib.hid (HRm.out.below b)
          replace HRm' := Lib.hid (HRm'.out.below b)
          replace HRd := Lib.hid (HRd.out.below b)
          replace HRd' := Lib.hid (HRd'.out.below b)
          replace HRx := Lib.hid (HRx.out.below b)
          replace HRx' := Lib.hid (HRx'.out.below b)
          replace HRy := Lib.hid (HRy.out.below b)
          replace HRy' := Lib.hid (HRy'.out.below b)
          replace BXm := Lib.hid (BXm.out.below b); replace cm_0 := BXm.out.cell0; replace cm_1 := BXm.out.cell1
          replace BXd := Lib.hid (BXd.out.below b); replace cd_0 := BXd.out.cell0; replace cd_1 := BXd.out.cell1
          replace BXx := Lib.hid (BXx.out.below b); replace cx_0 := BXx.out.cell0; replace cx_1 := BXx.out.cell1
          replace BXy := Lib.hid (BXy.out.below b); replace cy_0 := BXy.out.cell0; replace cy_1 := BXy.out.cell1
          replace HB := Lib.hid (HB.out.trans (b.mono hs)); replace hs := HB.out.size
          replace HW := Lib.hid (HW.out.trans (b.mono HW.out.size))
          clear b
          go_wp2_with fail
          go_loopw [14] (fun kv wr' => ∃ k d : Nat, kv = .int .i64 (k : Int) ∧ k ≤ nm ∧ Hid (∀ j, j < k → gi (formT t f i) j = gi a j) ∧ wr' = w12.drewN d) (fun kv _ => nm - (intOf kv).toNat)
          case atStart => exact ⟨0, 0, rfl, by omega, fun j hj => absurd hj (by omega), rfl⟩
          case round =>
            obtain ⟨k, d, rfl, hk, hpre, rfl⟩ := hrel
            by_cases hkn : k < nm
            · have hy1 := HRy.out.getg (j := k) hkn
              have hd1 := HRd.out.getg (j := k) hkn
              by_cases heq : gi (formT t f i) k = gi a k
              · rw [heq] at hy1
                obtain ⟨v, hv⟩ : ∃ v, gi a k = v := ⟨_, rfl⟩
                rw [hv] at hy1 hd1
                have hne : (v != v) = false := by simp
                have HEQ := Lib.hid heq; clear heq hv
                go_wp2
                go_quiet (fail)
                go_wp2
                go_roundw
                case rel => exact ⟨k + 1, d + _, by go_num, by omega, fun j hj => by
                  by_cases e : j = k
                  · subst e; exact HEQ.out
                  · exact hpre.out j (by omega), rfl⟩
                case measure => simp [intOf]; omega
              · have hnl := HNL.out i k hlt hkn hpre.out
                obtain ⟨v, hv⟩ : ∃ v, gi a k = v := ⟨_, rfl⟩
                obtain ⟨u, hu⟩ : ∃ u, gi (formT t f i) k = u := ⟨_, rfl⟩
                rw [hv] at hd1 heq hnl
                rw [hu] at hy1 heq hnl
                have hne : (u != v) = true := by simp [heq]
                have hlt2 : decide (u < v) = false := by simp; omega
                clear heq hnl hu hv
                go_wp2
                go_quiet (fail)
                go_wp2
                go_quiet (fail)
                go_wp2
                go_roundw
                case rel => exact ⟨q, i + 1, rfl, by go_num, by omega, HQ.out, below_drewN HW.out _⟩
                case measure => simp [intOf]; omega
            · have hkn' : k = nm := by omega
              have HKN := Lib.hid hkn'; clear hkn'
              go_wp2
              go_roundw
              case rel => exact ⟨q, i + 1, rfl, by go_num, by omega, HQ.out, below_drewN HW.out _⟩
              case measure => simp [intOf]; omega
      · have hin : i = nm := by omega
        have hdn : decide ((i : Int) < (nm : Int)) = false := by simp; omega
        obtain rfl : fd = true := hfd.out (by omega)
        go_wp2_with fail
        refine (same_map_yes wr Ax Ax' (some ⟨gd, 0, none⟩) (some ⟨gd', 0, none⟩) nm nm cx cx' nm nm cd cd' a b0 a b0 HRx.out HRx'.out HRd.out HRd'.out (by omega) (by omega) (by omega) (by omega) (rfl) (rfl)).mono ?_
        rintro e w10 ⟨rfl, b⟩
        replace HRm := Lib.hid (HRm.out.below b)
        replace HRm' := Lib.hid (HRm'.out.below b)
        replace HRd := Lib.hid (HRd.out.below b)
        replace HRd' := Lib.hid (HRd'.out.below b)
        replace HRx := Lib.hid (HRx.out.below b)
        replace HRx' := Lib.hid (HRx'.out.below b)
        replace BXm := Lib.hid (BXm.out.below b); replace cm_0 := BXm.out.cell0; replace cm_1 := BXm.out.cell1
        replace BXd := Lib.hid (BXd.out.below b); replace cd_0 := BXd.out.cell0; replace cd_1 := BXd.out.cell1
        replace BXx := Lib.hid (BXx.out.below b); replace cx_0 := BXx.out.cell0; replace cx_1 := BXx.out.cell1
        replace HB := Lib.hid (HB.out.trans (b.mono hs)); replace hs := HB.out.size
        replace HW := Lib.hid (HW.out.trans (b.mono HW.out.size))
        clear b
        go_wp2_with fail
        go_ret
        exact ⟨rfl, HB.out⟩
  · have HV := Lib.hid hv
    go_wp2_with fail
    refine (impl_leastR w2 Am Am' nm nm' cm cm' t f HRm.out HRm'.out (by omega) (by omega) (ok := false) (yt := []) (yf := []) (by rw [leastR, if_neg HV.out])).mono ?_
    rintro e w3 ⟨u, u', rfl, o, b⟩
    have hl : ([] : List Int).length = 0 := rfl
    have hl' : ([] : List Int).length = 0 := rfl
    obtain ⟨Ad, cd, Ad', cd', rfl, rfl, r1, r2⟩ := o.form hl hl'
    have HRd := Lib.hid r1; have HRd' := Lib.hid r2; clear o hl hl' r1 r2
    replace HRm := Lib.hid (HRm.out.below b)
    replace HRm' := Lib.hid (HRm'.out.below b)
    replace BXm := Lib.hid (BXm.out.below b); replace cm_0 := BXm.out.cell0; replace cm_1 := BXm.out.cell1
    replace HB := Lib.hid (HB.out.trans (b.mono hs)); replace hs := HB.out.size
    clear b
    obtain ⟨w4, hWw4, hx, b, hz⟩ := Box.local_ w3 35 (.slice Ad 0 cd) (.slice Ad' 0 cd')
    have BXd := Lib.hid hx; clear hx hz
    replace HRm := Lib.hid (HRm.out.below b)
    replace HRm' := Lib.hid (HRm'.out.below b)
    replace HRd := Lib.hid (HRd.out.below b)
    replace HRd' := Lib.hid (HRd'.out.below b)
    replace BXm := Lib.hid (BXm.out.below b); replace cm_0 := BXm.out.cell0; replace cm_1 := BXm.out.cell1
    replace HB := Lib.hid (HB.out.trans (b.mono hs)); replace hs := HB.out.size
    clear b
    have cd_0 := BXd.out.cell0; have cd_1 := BXd.out.cell1
    go_wp2_with fail
    refine (spec_leastR w4 Am Am' nm nm' cm cm' t f HRm.out HRm'.out (by omega) (by omega) (ok := false) (yt := []) (yf := []) (by rw [leastR, if_neg HV.out])).mono ?_
    rintro e w5 ⟨u, u', rfl, o, b⟩
    have hl : ([] : List Int).length = 0 := rfl
    have hl' : ([] : List Int).length = 0 := rfl
    obtain ⟨Ae, ce, Ae', ce', rfl, rfl, r1, r2⟩ := o.form hl hl'
    have HRe := Lib.hid r1; have HRe' := Lib.hid r2; clear o hl hl' r1 r2
    replace HRm := Lib.hid (HRm.out.below b)
    replace HRm' := Lib.hid (HRm'.out.below b)
    replace HRd := Lib.hid (HRd.out.below b)
    replace HRd' := Lib.hid (HRd'.out.below b)
    replace BXm := Lib.hid (BXm.out.below b); replace cm_0 := BXm.out.cell0; replace cm_1 := BXm.out.cell1
    replace BXd := Lib.hid (BXd.out.below b); replace cd_0 := BXd.out.cell0; replace cd_1 := BXd.out.cell1
    replace HB := Lib.hid (HB.out.trans (b.mono hs)); replace hs := HB.out.size
    clear b
    obtain ⟨w6, hWw6, hx, b, hz⟩ := Box.local_ w5 35 (.slice Ae 0 ce) (.slice Ae' 0 ce')
    have BXe := Lib.hid hx; clear hx hz
    replace HRm := Lib.hid (HRm.out.below b)
    replace HRm' := Lib.hid (HRm'.out.below b)
    replace HRd := Lib.hid (HRd.out.below b)
    replace HRd' := Lib.hid (HRd'.out.below b)
    replace HRe := Lib.hid (HRe.out.below b)
    replace HRe' := Lib.hid (HRe'.out.below b)
    replace BXm := Lib.hid (BXm.out.below b); replace cm_0 := BXm.out.cell0; replace cm_1 := BXm.out.cell1
    replace BXd := Lib.hid (BXd.out.below b); replace cd_0 := BXd.out.cell0; replace cd_1 := BXd.out.cell1
    replace HB := Lib.hid (HB.out.trans (b.mono hs)); replace hs := HB.out.size
    clear b
    have ce_0 := BXe.out.cell0; have ce_1 := BXe.out.cell1
    go_wp2_with fail
    refine (same_map_yes w6 Ad Ad' Ae Ae' 0 0 cd cd' 0 0 ce ce' [] [] [] [] HRd.out HRd'.out HRe.out HRe'.out (by omega) (by omega) (by omega) (by omega) (rfl) (rfl)).mono ?_
    rintro e w7 ⟨rfl, b⟩
    replace HRm := Lib.hid (HRm.out.below b)
    replace HRm' := Lib.hid (HRm'.out.below b)
    replace HRd := Lib.hid (HRd.out.below b)
    replace HRd' := Lib.hid (HRd'.out.below b)
    replace HRe := Lib.hid (HRe.out.below b)
    replace HRe' := Lib.hid (HRe'.out.below b)
    replace BXm := Lib.hid (BXm.out.below b); replace cm_0 := BXm.out.cell0; replace cm_1 := BXm.out.cell1
    replace BXd := Lib.hid (BXd.out.below b); replace cd_0 := BXd.out.cell0; replace cd_1 := BXd.out.cell1
    replace BXe := Lib.hid (BXe.out.below b); replace ce_0 := BXe.out.cell0; replace ce_1 := BXe.out.cell1
    replace HB := Lib.hid (HB.out.trans (b.mono hs)); replace hs := HB.out.size
    clear b
    go_wp2_with fail
    refine (same_map_yes w7 Ad Ad' Ae Ae' 0 0 cd cd' 0 0 ce ce' [] [] [] [] HRd.out HRd'.out HRe.out HRe'.out (by omega) (by omega) (by omega) (by omega) (rfl) (rfl)).mono ?_
    rintro e w8 ⟨rfl, b⟩
    replace HRm := Lib.hid (HRm.out.below b)
    replace HRm' := Lib.hid (HRm'.out.below b)
    replace HRd := Lib.hid (HRd.out.below b)
    replace HRd' := Lib.hid (HRd'.out.below b)
    replace HRe := Lib.hid (HRe.out.below b)
    replace HRe' := Lib.hid (HRe'.out.below b)
    replace BXm := Lib.hid (BXm.out.below b); replace cm_0 := BXm.out.cell0; replace cm_1 := BXm.out.cell1
    replace BXd := Lib.hid (BXd.out.below b); replace cd_0 := BXd.out.cell0; replace cd_1 := BXd.out.cell1
    replace BXe := Lib.hid (BXe.out.below b); replace ce_0 := BXe.out.cell0; replace ce_1 := BXe.out.cell1
    replace HB := Lib.hid (HB.out.trans (b.mono hs)); replace hs := HB.out.size
    clear b
    go_wp2_with fail
    go_ret
    exact ⟨rfl, HB.out⟩

end Go.Proofs.Yteajaikgeephmaa
