/-
  CoverDeck: the model's.
-/
import Derived.Test.YthcdhkelpepeeaaCovD
namespace Go.Proofs.Ythcdhkelpepeeaa
open Go.RowKit
set_option linter.unusedVariables false

def comE (vss : List (List Int)) (p : List Int) (m : Nat) : Bool := decide (∀ e, e < m → mulL p (vss.getD e []) = mulL (vss.getD e []) p)
theorem comE_no {vss : List (List Int)} {p : List Int} {m : Nat} (h : comE vss p m = false) : comE vss p (m + 1) = false := by
  simp only [comE, decide_eq_false_iff_not] at h ⊢
  exact fun h' => h fun e he => h' e (by omega)
theorem comE_yes {vss : List (List Int)} {p v : List Int} {m : Nat} (h : comE vss p m = true) (hv : vss.getD m [] = v) : comE vss p (m + 1) = decide (mulL p v = mulL v p) := by
  simp only [comE, decide_eq_true_eq] at h
  simp only [comE, decide_eq_decide]
  constructor
  · intro h'; have := h' m (by omega); rwa [hv] at this
  · intro h' e he
    by_cases e1 : e = m
    · rw [e1, hv]; exact h'
    · exact h e (by omega)

set_option maxRecDepth 20000 in
set_option maxHeartbeats 6400000 in
theorem spec_dkR (w : World) (A A' : Option Addr) (n n' c c' : Nat) (t f : List Int) (h : Rd w A n t) (h' : Rd w A' n' f) (hn : n ≤ 1048576) (hn' : n' ≤ 1048576) (k : Int) (B : Option Addr) (m d : Nat) (vss : List (List Int)) (hs : RdSS w B m vss) (hm : m ≤ 1048576) (htot : total vss ≤ 1048576) {r : Int} (hR : dkR t f k vss = r) :
    Calls Try.prog 46 #[.agg #[.slice A n c, .slice A' n' c'], .int .i64 k, .slice B m d] w fun e w' => e = .returned (.int .i64 r) ∧ Below w.heap.size w w' := by
  obtain ⟨W0, hW0, hx, hb, hz⟩ := Box.local_ w 29 (.slice A n c) (.slice A' n' c')
  have c0 := hx.cell0
  have c1 := hx.cell1
  have HB := Lib.hid hb; have H := Lib.hid h; have H' := Lib.hid h'; have HR := Lib.hid hR; have HS := Lib.hid hs
  clear hx hb h h' hR hs hz
  cases hv : vvB t f k vss with
  | false =>
    have HF : Hid (-1 = r) := by rw [Hid, ← HR.out, dkR, if_neg (fun h => by rw [hv] at h; exact absurd h.1 (by decide))]
    have HV := Lib.hid hv; clear hv
    go_enter Try.func46, Try.ntmps46
    go_wp2_with (go_at_call 16; refine (spec_vvB _ A A' n n' c c' t f (H.out.below HB.out) (H'.out.below HB.out) hn hn' k B m d vss (HS.out.below HB.out) hm htot HV.out).mono ?_; rintro e w1 ⟨rfl, b⟩; have HB1 := Lib.hid (HB.out.trans (b.mono HB.out.size)); clear b c0 c1)
    go_ret
    exact ⟨ret_int HF.out, HB1.out⟩
  | true =>
    have HV := Lib.hid hv
    obtain ⟨kn, rfl, hvt⟩ := Volt_of hv
    have hk1 := hvt.one
    have hk6 := hvt.six
    by_cases h4 : kn ≤ 4
    · have hd4 : decide ((4 : Int) < (kn : Int)) = false := by simp; omega
      have hd0 : decide (0 < kn) = true := by simp; omega
      obtain ⟨F, hF⟩ : ∃ F, fctK kn = F := ⟨_, rfl⟩
      obtain ⟨f1, f24⟩ := fctK_pos kn
      rw [hF] at f1 f24
      have HF : Hid ((dkN vss kn F : Int) = r) := by rw [Hid, ← HR.out, dkR, if_pos ⟨hv, by omega⟩, Int.toNat_natCast, hF]
      have HFF := Lib.hid hF
      have HVT := Lib.hid hvt
      clear hv hvt hF
      go_enter Try.func46, Try.ntmps46
      go_wp2_with (first
        | (go_at_call 16; refine (spec_vvB _ A A' n n' c c' t f (H.out.below HB.out) (H'.out.below HB.out) hn hn' (kn : Int) B m d vss (HS.out.below HB.out) hm htot HV.out).mono ?_; rintro e w1 ⟨rfl, b⟩; have HB1 := Lib.hid (HB.out.trans (b.mono HB.out.size)); clear b c0 c1)
        | (go_at_call 80; refine (l1Same_any kn w1 (by omega)).mono ?_; rintro e w2 ⟨v, rfl, o, b⟩; have HO2 : Hid (Own w2 w1.heap.size v (chn kn 0)) := o; have HB2 : Hid (Below w1.heap.size w1 w2) := b; clear o b))
      clear hd4
      go_loopw [7, 8, 9, 10] (fun nv pv _ _ wr => ∃ i : Nat, i ≤ F ∧ nv = .int .i64 (dkN vss kn i : Nat) ∧ Hid (Own wr w1.heap.size pv (chn kn i)) ∧ Hid (Below w1.heap.size w1 wr)) (fun _ pv _ _ wr => rankV wr kn pv)
      case atStart => exact ⟨0, Nat.zero_le _, rfl, HO2, HB2⟩
      case round =>
        clear HO2 HB2
        obtain ⟨i, hi, rfl, ho, hb⟩ := hrel
        have hwr := hb.out.size
        have hdk := dkN_le vss kn i
        obtain ⟨s, hs⟩ : ∃ s, dkN vss kn i = s := ⟨_, rfl⟩
        have HSS := Lib.hid hs
        rw [hs] at hdk ⊢
        by_cases hlt : i < F
        · obtain ⟨p1, p2, p3, p4, -⟩ := chn_at hk1 h4 (i := i) (by rw [HFF.out]; exact hlt)
          have hrk := rankV_eq hk1 h4 (i := i) (by rw [HFF.out]; omega) ho.out
          rw [HFF.out] at hrk
          obtain ⟨Ap, cp, rfl, hrp, -⟩ := ho.out.form' p2
          have hcap : kn ≤ cp := by
            obtain ⟨g, rfl, -⟩ := ho.out.cellAt p2 (k := 0) (by omega)
            exact ho.out.cap_ p2
          obtain ⟨P, hP⟩ : ∃ P, chn kn i = P := ⟨_, rfl⟩
          rw [hP] at p1 p2 hrp
          have HP1 := Lib.hid p1; have HP2 := Lib.hid p2; have HRK := Lib.hid hrk; have HRP := Lib.hid hrp; have HPP := Lib.hid hP
          obtain ⟨wo, hwo⟩ : ∃ wo : World, wo = wr := ⟨_, rfl⟩
          subst hwo
          clear p1 p2 p3 p4 hrk hrp hP hs
          go_wp2_with fail
          go_loopw [9, 10] (fun fv ev wr => ∃ e : Nat, e ≤ m ∧ ev = .int .i64 e ∧ fv = .bool (comE vss P e) ∧ Hid (Below wo.heap.size wo wr)) (fun _ ev _ => m - (intOf ev).toNat)
          case atStart => exact ⟨0, Nat.zero_le _, rfl, by simp [comE], Below.refl _ _⟩
          case round =>
            obtain ⟨e, he, rfl, rfl, hb2⟩ := hrel
            have hwr2 := hb2.out.size
            obtain ⟨q, hq⟩ : ∃ q, comE vss P e = q := ⟨_, rfl⟩
            rw [hq]
            have HQ := Lib.hid hq
            by_cases hlt2 : e < m
            · cases q with
              | false =>
                have HN := Lib.hid (comE_no hq)
                clear hq
                go_wp2_with fail
                go_quiet (fail)
                go_wp2_with fail
                go_roundw
                case rel => exact ⟨e + 1, by omega, by go_num, by rw [HN.out], below_drewN hb2.out _⟩
                case measure => simp [intOf]; omega
              | true =>
                have HBw : Hid (Below w.heap.size w wr) := HB1.out.trans ((hb.out.trans (hb2.out.mono hwr)).mono HB1.out.size)
                obtain ⟨ad, Aj, cj, nj, rfl, hc, hr, -⟩ := (HS.out.below HBw.out).at_ hlt2
                obtain ⟨v, hvv⟩ : ∃ v, vss.getD e [] = v := ⟨_, rfl⟩
                have hrow := HVT.out.row e (by rw [HS.out.1]; exact hlt2)
                rw [hvv] at hr hrow
                obtain rfl : nj = kn := hr.1.symm.trans hrow.2
                have HY := Lib.hid (comE_yes hq hvv)
                have HRV := Lib.hid hr; have HROW := Lib.hid hrow
                have HRPr := Lib.hid (HRP.out.below hb2.out)
                obtain ⟨z, hz⟩ : ∃ z, cmpL (mulL P v) (mulL v P) = z := ⟨_, rfl⟩
                have HZ := Lib.hid hz
                have hzb : (z == 0) = decide (mulL P v = mulL v P) := by
                  rw [← hz]
                  by_cases e0 : mulL P v = mulL v P
                  · rw [e0, cmpL_self]; simp
                  · have : cmpL (mulL P v) (mulL v P) ≠ 0 := fun h0 => e0 (cmpL_zero (by rw [mulL_len, mulL_len, HP2.out, hrow.2]) h0)
                    simp [e0, this]
                obtain ⟨u, hu⟩ : ∃ u, (z == 0) = u := ⟨_, rfl⟩
                rw [hu] at hzb
                rw [← hzb] at HY
                have HL1 : Hid ((mulL P v).length = nj) := (mulL_len _ _).trans HP2.out
                have HL2 : Hid ((mulL v P).length = nj) := (mulL_len _ _).trans hrow.2
                clear hr hvv hrow hq hz hzb
                go_wp2_with fail
                obtain ⟨Wd, hWd⟩ : ∃ Wd : World, Wd = wr := ⟨_, rfl⟩
                go_region_held3 (fun w' => w'.cell? (ad.add e) = some (.slice Aj nj cj)) (first
                    | exact hc | exact k5 | exact k6 | exact k7 | exact k8) (first
                  | (have hchk := Q1.out; clear hchk; go_at_call 82; (refine (l2Order_lit A5 A6 nj c5 c6 _ _ w6 Q1.out Q2.out (by omega) HZ.out).mono ?_; rintro e' w9 ⟨rfl, q9, rfl⟩; have HB9 : Hid (Below wo.heap.size wo (w6.drewN q9)) := below_drewN (hb2.out.trans (BL6.out.mono hwr2)) _; have k9 : (w6.drewN q9).cell? (ad.add e) = some (.slice Aj nj cj) := k6))
                  | (have hchk := R1.out; clear hchk; go_at_call 82; (refine (l2Order_lit A8 A7 nj c8 c7 _ _ w8 R1.out R2.out (by omega) HZ.out).mono ?_; rintro e' w9 ⟨rfl, q9, rfl⟩; have HB9 : Hid (Below wo.heap.size wo (w8.drewN q9)) := below_drewN (hb2.out.trans (BL8.out.mono hwr2)) _))
                  | (have hchk := BL5.out; clear hchk; go_at_call_of 83 (Value.slice Aj nj cj); (refine (l1Mul_any Aj Ap nj nj cj cp v P w5 (HRV.out.below BL5.out) (HRPr.out.below BL5.out) (by omega) (by omega) (HROW.out.1.into HROW.out.2)).mono ?_; rintro e' w6 ⟨x, rfl, o, bl⟩; obtain ⟨A6, c6, rfl, -, -⟩ := o.form' HL2.out; have BL6 : Hid (Below wr.heap.size wr w6) := BL5.out.trans (bl.mono BL5.out.size); have Q1 := Lib.hid (Q0.out.below bl); have Q2 := Lib.hid (o.rd HL2.out); have k6 := (BL6.out.cell (World.block_lt_of_cell? wr _ hc)).trans hc; clear o bl))
                  | (have hchk := BL7.out; clear hchk; go_at_call_of 83 (Value.slice Ap nj cp); (refine (l1Mul_any Ap Aj nj nj cp cj P v w7 (HRPr.out.below BL7.out) (HRV.out.below BL7.out) (by omega) (by omega) (HP1.out.into HP2.out)).mono ?_; rintro e' w8 ⟨x, rfl, o, bl⟩; obtain ⟨A8, c8, rfl, -, -⟩ := o.form' HL1.out; have BL8 : Hid (Below wr.heap.size wr w8) := BL7.out.trans (bl.mono BL7.out.size); have R2 := Lib.hid (R0.out.below bl); have R1 := Lib.hid (o.rd HL1.out); have k8 := (BL8.out.cell (World.block_lt_of_cell? wr _ hc)).trans hc; clear o bl))
                  | (go_at_call_of 83 (Value.slice Ap nj cp); (refine (l1Mul_any Ap Aj nj nj cp cj P v _ (HRPr.out.drewN _) (HRV.out.drewN _) (by omega) (by omega) (HP1.out.into HP2.out)).mono ?_; rintro e' w5 ⟨x, rfl, o, bl⟩; obtain ⟨A5, c5, rfl, -, -⟩ := o.form' HL1.out; have BL5 : Hid (Below wr.heap.size wr w5) := Below.of_drewN bl; have Q0 := Lib.hid (o.rd HL1.out); have k5 := (BL5.out.cell (World.block_lt_of_cell? wr _ hc)).trans hc; clear o bl))
                  | (go_at_call_of 83 (Value.slice Aj nj cj); (refine (l1Mul_any Aj Ap nj nj cj cp v P _ (HRV.out.drewN _) (HRPr.out.drewN _) (by omega) (by omega) (HROW.out.1.into HROW.out.2)).mono ?_; rintro e' w7 ⟨x, rfl, o, bl⟩; obtain ⟨A7, c7, rfl, -, -⟩ := o.form' HL2.out; have BL7 : Hid (Below wr.heap.size wr w7) := Below.of_drewN bl; have R0 := Lib.hid (o.rd HL2.out); have k7 := (BL7.out.cell (World.block_lt_of_cell? wr _ hc)).trans hc; clear o bl)))
                go_wp2_with fail
                go_roundw
                case rel => exact ⟨e + 1, by omega, by go_num, by rw [HY.out], by first | exact HB9.out | exact below_drewN HB9.out _⟩
                case measure => simp [intOf]; omega
            · have HCB : Hid (comB vss P = q) := by
                have hem : e = m := by omega
                rw [Hid, ← hq, hem, ← HS.out.1]; rfl
              have HNX : Hid (dkN vss kn (i + 1) = s + if q = true then 1 else 0) := by rw [Hid, dkN, HSS.out, HPP.out, HCB.out]
              have HBo : Hid (Below w1.heap.size w1 wr) := hb.out.trans (hb2.out.mono hwr)
              have hwq : w1.heap.size ≤ wr.heap.size := HBo.out.size
              clear hq
              cases q with
              | false =>
                go_wp2_with (go_at_call 81; refine (l3Next_any Ap kn cp P wr (HRP.out.below hb2.out) hk1 (by omega) hcap).mono ?_; rintro e' w3 ⟨v, rfl, o, b⟩; have HO3 := Lib.hid o; have HB3 := Lib.hid b; clear o b)
                go_roundw
                case rel => exact ⟨i + 1, by omega, by rw [HNX.out]; go_num, by rw [chn, HPP.out]; exact HO3.out.mono hwq, HBo.out.trans (HB3.out.mono hwq)⟩
                case measure =>
                  have h1 := HRK.out
                  have h2 := rankV_eq hk1 h4 (i := i + 1) (by rw [HFF.out]; omega) (w := w3) (lo := wr.heap.size) (by rw [chn, HPP.out]; exact HO3.out)
                  rw [HFF.out] at h2
                  omega
              | true =>
                go_wp2_with (go_at_call 81; refine (l3Next_any Ap kn cp P wr (HRP.out.below hb2.out) hk1 (by omega) hcap).mono ?_; rintro e' w3 ⟨v, rfl, o, b⟩; have HO3 := Lib.hid o; have HB3 := Lib.hid b; clear o b)
                go_roundw
                case rel => exact ⟨i + 1, by omega, by rw [HNX.out]; go_num, by rw [chn, HPP.out]; exact HO3.out.mono hwq, HBo.out.trans (HB3.out.mono hwq)⟩
                case measure =>
                  have h1 := HRK.out
                  have h2 := rankV_eq hk1 h4 (i := i + 1) (by rw [HFF.out]; omega) (w := w3) (lo := wr.heap.size) (by rw [chn, HPP.out]; exact HO3.out)
                  rw [HFF.out] at h2
                  omega
        · have hin : i = F := by omega
          have hl0 : (chn kn i).length = 0 := by rw [hin, ← HFF.out, chn_last hk1 h4]; rfl
          obtain ⟨Ap, cp, rfl, -, -⟩ := ho.out.form' hl0
          have HFS : Hid ((s : Int) = r) := by rw [Hid, ← HF.out, ← hin, hs]
          have HBf : Hid (Below w.heap.size w wr) := HB1.out.trans (hb.out.mono HB1.out.size)
          clear hin hl0 hs
          go_wp2_with fail
          go_ret
          exact ⟨ret_int HFS.out, HBf.out⟩
    · have hd4 : decide ((4 : Int) < (kn : Int)) = true := by simp; omega
      have HF : Hid (-1 = r) := by rw [Hid, ← HR.out, dkR, if_neg (fun h => h4 (by have := h.2; omega))]
      clear hv h4 hvt
      go_enter Try.func46, Try.ntmps46
      go_wp2_with (go_at_call 16; refine (spec_vvB _ A A' n n' c c' t f (H.out.below HB.out) (H'.out.below HB.out) hn hn' (kn : Int) B m d vss (HS.out.below HB.out) hm htot HV.out).mono ?_; rintro e w1 ⟨rfl, b⟩; have HB1 := Lib.hid (HB.out.trans (b.mono HB.out.size)); clear b c0 c1)
      go_ret
      exact ⟨ret_int HF.out, HB1.out⟩

end Go.Proofs.Ythcdhkelpepeeaa
