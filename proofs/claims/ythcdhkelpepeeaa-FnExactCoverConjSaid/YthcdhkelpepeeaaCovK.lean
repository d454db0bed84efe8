/-
  CoverConj: the model's.
-/
import Derived.Test.YthcdhkelpepeeaaCovJ
namespace Go.Proofs.Ythcdhkelpepeeaa
open Go.RowKit
set_option linter.unusedVariables false

set_option maxRecDepth 20000 in
set_option maxHeartbeats 6400000 in
theorem l9Conj_any (w : World) (A A' : Option Addr) (n c c' : Nat) (t f : List Int) (h : Rd w A n t) (h' : Rd w A' n f) (k : Nat) (B : Option Addr) (m d : Nat) (vss : List (List Int)) (hs : RdSS w B m vss) (hv : Volt t f k vss) (nv : Int) (E : Option Addr) (ec : Nat) (bs : List Int) (he : Rd w E k bs) (hbs : Vld bs) :
    Calls Try.prog 68 #[.agg #[.slice A n c, .slice A' n c'], .slice B m d, .int .i64 nv, .slice E k ec] w fun e w' => ∃ v, e = .returned v ∧ OwnSS w' w.heap.size w'.heap.size v (cjL (vertL t) f vss nv bs) ∧ Below w.heap.size w w' := by
  obtain ⟨i1, hinf1, hy0, hy1, hy2⟩ := info_parts info_slice
  obtain ⟨W0, hW0, hx, hb, hz⟩ := Box.local_ w 29 (.slice A n c) (.slice A' n c')
  have c0 := hx.cell0
  have c1 := hx.cell1
  obtain ⟨h2, hh2⟩ : ∃ h2, n / 2 = h2 := ⟨_, rfl⟩
  have hn12 : n ≤ 12 := by rw [← h'.1]; exact hv.map.flip.2.1
  have hk1 := hv.one
  have hk6 := hv.six
  have hh6 : h2 ≤ 6 := by omega
  have hmh : m = h2 := by rw [← hs.1, hv.len, h'.1, hh2]
  subst hmh
  have HVL : Hid ((vertL t).length = n) := by rw [Hid, vertL_len, h.1]
  have HBB : Hid ((backL bs).length = k) := by rw [Hid, backL_len]; exact he.1
  have HCL : Hid ((cjL (vertL t) f vss nv bs).length = m) := by rw [Hid, cjL_len, hs.1]
  have HX := Lib.hid hx; have HB := Lib.hid hb; have H := Lib.hid h; have H' := Lib.hid h'; have HS := Lib.hid hs; have HE := Lib.hid he; have HBV := Lib.hid hbs; have HVO := Lib.hid hv; have HHH := Lib.hid hh2; have HBL := Lib.hid he.1
  clear hx hb h h' hs hz he hbs hv hh2
  go_enter Try.func68, Try.ntmps68
  go_wp2_with (go_at_call 69; refine (l7Vertices_any A n c t W0 (H.out.below HB.out) HVO.out.map.turn).mono ?_; rintro e w1 ⟨v, rfl, o, bl⟩; obtain ⟨A3, c3, rfl, -, -⟩ := o.form' HVL.out; have HRV := Lib.hid (o.rd HVL.out); have HB1 := Lib.hid (HB.out.trans (bl.mono HB.out.size)); have HX1 := Lib.hid (HX.out.below bl); clear o bl c0 c1)
  have hw1 := HB1.out.size
  have HOE : Hid (OwnSS (w1.alloc (.cells #[] 22)) w1.heap.size (w1.alloc (.cells #[] 22)).heap.size (.slice (some ⟨w1.heap.size, 0, none⟩) 0 0) []) := OwnSS.empty (Nat.le_refl _)
  have HBE : Hid (Below w1.heap.size w1 (w1.alloc (.cells #[] 22))) := (Below.refl _ _).alloc (Nat.le_refl _) _
  go_loopw [10, 11, 12, 13] (fun ov ev _ _ wr => ∃ e : Nat, e ≤ m ∧ ev = .int .i64 e ∧ Hid (OwnSS wr w1.heap.size wr.heap.size ov ((cjL (vertL t) f vss nv bs).take e)) ∧ Hid (Below w1.heap.size w1 wr)) (fun _ ev _ _ _ => m - (intOf ev).toNat)
  case atStart => exact ⟨0, Nat.zero_le _, rfl, by rw [List.take_zero]; exact HOE, HBE⟩
  case round =>
    clear HOE HBE
    obtain ⟨e, he, rfl, ho, hb⟩ := hrel
    have hwr := hb.out.size
    by_cases hlt : e < m
    · obtain ⟨x1, x2, x3⟩ := lesD_spec HVO.out.map.flip HVO.out.map.paired (e := e) (by rw [H'.out.1, HHH.out]; exact hlt)
      obtain ⟨x, hxx⟩ : ∃ x, lesD f e = x := ⟨_, rfl⟩
      rw [hxx] at x1 x2 x3
      have hxn : x < n := by rw [← H'.out.1]; exact x1
      obtain ⟨y, hy, hyn, hgy⟩ := (HVO.out.map.flip.into H'.out.1).nat (j := x) x1
      have HX2 := Lib.hid x2; have HX3 := Lib.hid x3
      obtain ⟨a, ha⟩ : ∃ a, vss.getD e [] = a := ⟨_, rfl⟩
      have hrow := HVO.out.row e (by rw [HS.out.1]; exact hlt)
      rw [ha] at hrow
      obtain ⟨vx, hvx⟩ : ∃ vx, gi (vertL t) x = vx := ⟨_, rfl⟩
      obtain ⟨vy, hvy⟩ : ∃ vy, gi (vertL t) y = vy := ⟨_, rfl⟩
      have HBr : Hid (Below w.heap.size w wr) := HB1.out.trans (hb.out.mono hw1)
      have HFX : Hid ((cjL (vertL t) f vss nv bs).getD e [] = if vy = nv then mulL (if vx = nv then mulL (backL bs) a else a) bs else if vx = nv then mulL (backL bs) a else a) := by
        rw [Hid, cjL_get (by rw [HS.out.1]; exact hlt), dC, hxx, ha, hgy, hvx, hvy]
      have HAV := Lib.hid hrow; have HAE := Lib.hid ha; have HVX := Lib.hid hvx; have HVY := Lib.hid hvy; have HY := Lib.hid hy
      have HTL : Hid (((cjL (vertL t) f vss nv bs).take e).length = e) := takeR_len HCL.out (by omega)
      have cr0 := (HX1.out.over hb.out (by have := HX1.out.lt; omega)).cell0
      have cr1 := (HX1.out.over hb.out (by have := HX1.out.lt; omega)).cell1
      clear hxx x1 x2 x3 hy hgy ha hrow hvx hvy
      by_cases e1 : vx = nv
      · have hb1 : (vx == nv) = true := by simp [e1]
        have HE1 := Lib.hid e1; clear e1
        by_cases e2 : vy = nv
        · have hb2 : (vy == nv) = true := by simp [e2]
          have HV5 : Hid (Vld (mulL (backL bs) a) ∧ (mulL (backL bs) a).length = k) := ⟨(backL_vld HBV.out).mulL HAV.out.1 (by rw [HBB.out, HAV.out.2]), (mulL_len _ _).trans HBB.out⟩
          have HFIN : Hid ((cjL (vertL t) f vss nv bs).getD e [] = mulL (mulL (backL bs) a) bs) := by rw [Hid, HFX.out, if_pos e2, if_pos HE1.out]
          have HTK : Hid ((cjL (vertL t) f vss nv bs).take (e + 1) = (cjL (vertL t) f vss nv bs).take e ++ [mulL (mulL (backL bs) a) bs]) := takeR_one (by rw [HCL.out]; exact hlt) HFIN.out
          have HLM : Hid ((mulL (mulL (backL bs) a) bs).length = k) := (mulL_len _ _).trans HV5.out.2
          clear e2
          go_wp2_with (first
            | (go_at_call 99; refine (l7Dart_any A A' n n c c' e x f wr (H'.out.below HBr.out) HVO.out.map.flip HVO.out.map.paired hxn HX2.out HX3.out).mono ?_; rintro e' W ⟨rfl, bl⟩; have HBD := Lib.hid bl; have HBW : Hid (Below w1.heap.size w1 W) := hb.out.trans (bl.mono hwr); have HBw : Hid (Below w.heap.size w W) := HB1.out.trans (HBW.out.mono hw1); obtain ⟨adB, Aj, cj, nj, rfl, hcB, hrB, -⟩ := (HS.out.below HBw.out).at_ hlt; rw [HAE.out] at hrB; obtain rfl : nj = k := (hrB.1.symm.trans HAV.out.2); obtain ⟨ad3, rfl, hcx⟩ := (HRV.out.below HBW.out).at_ hxn; rw [HVX.out] at hcx; have HRB := Lib.hid hrB; clear bl cr0 cr1 hrB)
            | (go_at_call 74; refine (l1Back_any E nj ec bs W (HE.out.below HBw.out) (by omega) HBV.out).mono ?_; rintro e' w3 ⟨v, rfl, o, bl⟩; obtain ⟨Ab, cb, rfl, -, -⟩ := o.form' HBB.out; have BL3 := Lib.hid bl; have HOB := Lib.hid o; clear o bl)
            | (have hchk := HRVv.out; clear hchk; go_at_call 83; refine (l1Mul_any Av E nj nj cv ec (mulL (backL bs) a) bs Wc HRVv.out (HE.out.below HBwc.out) (by omega) (by omega) (HV5.out.1.into HV5.out.2)).mono ?_; rintro e' w6 ⟨v, rfl, o, bl⟩; obtain ⟨An, cn, rfl, -, -⟩ := o.form' HLM.out; have BL6 : Hid (Below wr.heap.size wr w6) := HBc.out.trans (bl.mono HBc.out.size); have HRN := Lib.hid (o.rd HLM.out); clear o bl)
            | (go_at_call 83; refine (l1Mul_any Ab Aj nj nj cb cj (backL bs) a w3 (HOB.out.rd HBB.out) (HRB.out.below BL3.out) (by omega) (by omega) ((backL_vld HBV.out).into HBB.out)).mono ?_; rintro e' Wc ⟨v, rfl, o, bl⟩; obtain ⟨Av, cv, rfl, -, -⟩ := o.form' ((mulL_len _ _).trans HBB.out); have HRVv := Lib.hid (o.rd ((mulL_len _ _).trans HBB.out)); have HBc : Hid (Below wr.heap.size wr Wc) := HBD.out.trans ((BL3.out.trans (bl.mono BL3.out.size)).mono HBD.out.size); clear o bl hcx; have HB1c : Hid (Below w1.heap.size w1 Wc) := hb.out.trans (HBc.out.mono hwr); have HBwc : Hid (Below w.heap.size w Wc) := HB1.out.trans (HB1c.out.mono hw1); have cc1 := (HX1.out.over HB1c.out (by have := HX1.out.lt; omega)).cell1; obtain ⟨adF, rfl, hcF⟩ := (H'.out.below HBwc.out).at_ hxn; rw [HY.out] at hcF; obtain ⟨_, e3, hcy⟩ := (HRV.out.below HB1c.out).at_ hyn; injection e3 with e3; subst e3; rw [HVY.out] at hcy)
            | (go_at_call 77; refine (l2Copy_any An nj cn _ w6 HRN.out hk1 (by omega)).mono ?_; rintro e' w7 ⟨u, rfl, o, b⟩; obtain ⟨Au, cu, rfl, -, -⟩ := o.form' HLM.out; have BL7 : Hid (Below wr.heap.size wr w7) := BL6.out.trans (b.mono BL6.out.size); obtain ⟨vs, hop⟩ := (ho.out.below BL7.out).opn; have HOP := Lib.hid hop; have HROW := Lib.hid (hop.row HTL.out); have HU := Lib.hid (o.mono BL6.out.size); have hws2 := BL7.out.size; clear o b hop)
            | (at_builtin; refine wpList_append_own _ rfl _ _ 25 rfl w1.heap.size 22 i1 (.slice none 0 0) 1 24 Try.underlying25 hinf1 hy0 hy1 hy2 rfl (by decide) _ _ _ rfl (HROW.out.alloc _) ⟨w7.heap.size, 0, none⟩ 1 1 [.slice Au nj cu] rfl rfl (cell_one_new _ _ _) (by intro u hu; simp at hu; subst hu; rfl) (by unfold maxLen; omega) (by omega) (by simp; omega) ?_; intro v8 w8 hown8 hgrow8 _; have HO8 := Lib.hid hown8; have HG8 := Lib.hid hgrow8; clear hown8 hgrow8))
          go_roundw
          case rel =>
            have ha := app_row hwr HTL.out HOP.out BL7.out HU.out HO8.out HG8.out
            exact ⟨e + 1, by omega, by go_num, by rw [Hid, HTK.out]; exact ha.1, hb.out.trans ha.2⟩
          case measure => simp [intOf]; omega
        · have hb2 : (vy == nv) = false := by simp [e2]
          have HV5 : Hid (Vld (mulL (backL bs) a) ∧ (mulL (backL bs) a).length = k) := ⟨(backL_vld HBV.out).mulL HAV.out.1 (by rw [HBB.out, HAV.out.2]), (mulL_len _ _).trans HBB.out⟩
          have HFIN : Hid ((cjL (vertL t) f vss nv bs).getD e [] = mulL (backL bs) a) := by rw [Hid, HFX.out, if_neg e2, if_pos HE1.out]
          have HTK : Hid ((cjL (vertL t) f vss nv bs).take (e + 1) = (cjL (vertL t) f vss nv bs).take e ++ [mulL (backL bs) a]) := takeR_one (by rw [HCL.out]; exact hlt) HFIN.out
          clear e2
          go_wp2_with (first
            | (go_at_call 99; refine (l7Dart_any A A' n n c c' e x f wr (H'.out.below HBr.out) HVO.out.map.flip HVO.out.map.paired hxn HX2.out HX3.out).mono ?_; rintro e' W ⟨rfl, bl⟩; have HBD := Lib.hid bl; have HBW : Hid (Below w1.heap.size w1 W) := hb.out.trans (bl.mono hwr); have HBw : Hid (Below w.heap.size w W) := HB1.out.trans (HBW.out.mono hw1); obtain ⟨adB, Aj, cj, nj, rfl, hcB, hrB, -⟩ := (HS.out.below HBw.out).at_ hlt; rw [HAE.out] at hrB; obtain rfl : nj = k := (hrB.1.symm.trans HAV.out.2); obtain ⟨ad3, rfl, hcx⟩ := (HRV.out.below HBW.out).at_ hxn; rw [HVX.out] at hcx; have HRB := Lib.hid hrB; clear bl cr0 cr1 hrB)
            | (go_at_call 74; refine (l1Back_any E nj ec bs W (HE.out.below HBw.out) (by omega) HBV.out).mono ?_; rintro e' w3 ⟨v, rfl, o, bl⟩; obtain ⟨Ab, cb, rfl, -, -⟩ := o.form' HBB.out; have BL3 := Lib.hid bl; have HOB := Lib.hid o; clear o bl)
            | (go_at_call 83; refine (l1Mul_any Ab Aj nj nj cb cj (backL bs) a w3 (HOB.out.rd HBB.out) (HRB.out.below BL3.out) (by omega) (by omega) ((backL_vld HBV.out).into HBB.out)).mono ?_; rintro e' Wc ⟨v, rfl, o, bl⟩; obtain ⟨Av, cv, rfl, -, -⟩ := o.form' ((mulL_len _ _).trans HBB.out); have HRVv := Lib.hid (o.rd ((mulL_len _ _).trans HBB.out)); have HBc : Hid (Below wr.heap.size wr Wc) := HBD.out.trans ((BL3.out.trans (bl.mono BL3.out.size)).mono HBD.out.size); clear o bl hcx; have HB1c : Hid (Below w1.heap.size w1 Wc) := hb.out.trans (HBc.out.mono hwr); have HBwc : Hid (Below w.heap.size w Wc) := HB1.out.trans (HB1c.out.mono hw1); have cc1 := (HX1.out.over HB1c.out (by have := HX1.out.lt; omega)).cell1; obtain ⟨adF, rfl, hcF⟩ := (H'.out.below HBwc.out).at_ hxn; rw [HY.out] at hcF; obtain ⟨_, e3, hcy⟩ := (HRV.out.below HB1c.out).at_ hyn; injection e3 with e3; subst e3; rw [HVY.out] at hcy)
            | (go_at_call 77; refine (l2Copy_any Av nj cv _ Wc HRVv.out hk1 (by omega)).mono ?_; rintro e' w7 ⟨u, rfl, o, b⟩; obtain ⟨Au, cu, rfl, -, -⟩ := o.form' HV5.out.2; have BL7 : Hid (Below wr.heap.size wr w7) := HBc.out.trans (b.mono HBc.out.size); obtain ⟨vs, hop⟩ := (ho.out.below BL7.out).opn; have HOP := Lib.hid hop; have HROW := Lib.hid (hop.row HTL.out); have HU := Lib.hid (o.mono HBc.out.size); have hws2 := BL7.out.size; clear o b hop)
            | (at_builtin; refine wpList_append_own _ rfl _ _ 25 rfl w1.heap.size 22 i1 (.slice none 0 0) 1 24 Try.underlying25 hinf1 hy0 hy1 hy2 rfl (by decide) _ _ _ rfl (HROW.out.alloc _) ⟨w7.heap.size, 0, none⟩ 1 1 [.slice Au nj cu] rfl rfl (cell_one_new _ _ _) (by intro u hu; simp at hu; subst hu; rfl) (by unfold maxLen; omega) (by omega) (by simp; omega) ?_; intro v8 w8 hown8 hgrow8 _; have HO8 := Lib.hid hown8; have HG8 := Lib.hid hgrow8; clear hown8 hgrow8))
          go_roundw
          case rel =>
            have ha := app_row hwr HTL.out HOP.out BL7.out HU.out HO8.out HG8.out
            exact ⟨e + 1, by omega, by go_num, by rw [Hid, HTK.out]; exact ha.1, hb.out.trans ha.2⟩
          case measure => simp [intOf]; omega
      · have hb1 : (vx == nv) = false := by simp [e1]
        have HE1 := Lib.hid e1; clear e1
        by_cases e2 : vy = nv
        · have hb2 : (vy == nv) = true := by simp [e2]
          have HV5 := HAV
          have HFIN : Hid ((cjL (vertL t) f vss nv bs).getD e [] = mulL (a) bs) := by rw [Hid, HFX.out, if_pos e2, if_neg HE1.out]
          have HTK : Hid ((cjL (vertL t) f vss nv bs).take (e + 1) = (cjL (vertL t) f vss nv bs).take e ++ [mulL (a) bs]) := takeR_one (by rw [HCL.out]; exact hlt) HFIN.out
          have HLM : Hid ((mulL (a) bs).length = k) := (mulL_len _ _).trans HV5.out.2
          clear e2
          go_wp2_with (first
            | (go_at_call 99; refine (l7Dart_any A A' n n c c' e x f wr (H'.out.below HBr.out) HVO.out.map.flip HVO.out.map.paired hxn HX2.out HX3.out).mono ?_; rintro e' W ⟨rfl, bl⟩; have HBD := Lib.hid bl; have HBW : Hid (Below w1.heap.size w1 W) := hb.out.trans (bl.mono hwr); have HBw : Hid (Below w.heap.size w W) := HB1.out.trans (HBW.out.mono hw1); obtain ⟨adB, Aj, cj, nj, rfl, hcB, hrB, -⟩ := (HS.out.below HBw.out).at_ hlt; rw [HAE.out] at hrB; obtain rfl : nj = k := (hrB.1.symm.trans HAV.out.2); obtain ⟨ad3, rfl, hcx⟩ := (HRV.out.below HBW.out).at_ hxn; rw [HVX.out] at hcx; have HRB := Lib.hid hrB; clear bl cr0 cr1 hrB; obtain ⟨Wc, hWc⟩ : ∃ Wc : World, Wc = W := ⟨_, rfl⟩; subst hWc; obtain ⟨Av, hAv⟩ : ∃ Av, Av = Aj := ⟨_, rfl⟩; subst hAv; obtain ⟨cv, hcv⟩ : ∃ cv, cv = cj := ⟨_, rfl⟩; subst hcv; have HRVv := HRB; have HBc := HBD; have HB1c := HBW; have HBwc := HBw; have cc1 := (HX1.out.over HB1c.out (by have := HX1.out.lt; omega)).cell1; obtain ⟨adF, rfl, hcF⟩ := (H'.out.below HBwc.out).at_ hxn; rw [HY.out] at hcF; obtain ⟨_, e3, hcy⟩ := (HRV.out.below HB1c.out).at_ hyn; injection e3 with e3; subst e3; rw [HVY.out] at hcy)
            | (have hchk := HRVv.out; clear hchk; go_at_call 83; refine (l1Mul_any Av E nj nj cv ec (a) bs Wc HRVv.out (HE.out.below HBwc.out) (by omega) (by omega) (HV5.out.1.into HV5.out.2)).mono ?_; rintro e' w6 ⟨v, rfl, o, bl⟩; obtain ⟨An, cn, rfl, -, -⟩ := o.form' HLM.out; have BL6 : Hid (Below wr.heap.size wr w6) := HBc.out.trans (bl.mono HBc.out.size); have HRN := Lib.hid (o.rd HLM.out); clear o bl)
            | (go_at_call 77; refine (l2Copy_any An nj cn _ w6 HRN.out hk1 (by omega)).mono ?_; rintro e' w7 ⟨u, rfl, o, b⟩; obtain ⟨Au, cu, rfl, -, -⟩ := o.form' HLM.out; have BL7 : Hid (Below wr.heap.size wr w7) := BL6.out.trans (b.mono BL6.out.size); obtain ⟨vs, hop⟩ := (ho.out.below BL7.out).opn; have HOP := Lib.hid hop; have HROW := Lib.hid (hop.row HTL.out); have HU := Lib.hid (o.mono BL6.out.size); have hws2 := BL7.out.size; clear o b hop)
            | (at_builtin; refine wpList_append_own _ rfl _ _ 25 rfl w1.heap.size 22 i1 (.slice none 0 0) 1 24 Try.underlying25 hinf1 hy0 hy1 hy2 rfl (by decide) _ _ _ rfl (HROW.out.alloc _) ⟨w7.heap.size, 0, none⟩ 1 1 [.slice Au nj cu] rfl rfl (cell_one_new _ _ _) (by intro u hu; simp at hu; subst hu; rfl) (by unfold maxLen; omega) (by omega) (by simp; omega) ?_; intro v8 w8 hown8 hgrow8 _; have HO8 := Lib.hid hown8; have HG8 := Lib.hid hgrow8; clear hown8 hgrow8))
          go_roundw
          case rel =>
            have ha := app_row hwr HTL.out HOP.out BL7.out HU.out HO8.out HG8.out
            exact ⟨e + 1, by omega, by go_num, by rw [Hid, HTK.out]; exact ha.1, hb.out.trans ha.2⟩
          case measure => simp [intOf]; omega
        · have hb2 : (vy == nv) = false := by simp [e2]
          have HV5 := HAV
          have HFIN : Hid ((cjL (vertL t) f vss nv bs).getD e [] = a) := by rw [Hid, HFX.out, if_neg e2, if_neg HE1.out]
          have HTK : Hid ((cjL (vertL t) f vss nv bs).take (e + 1) = (cjL (vertL t) f vss nv bs).take e ++ [a]) := takeR_one (by rw [HCL.out]; exact hlt) HFIN.out
          clear e2
          go_wp2_with (first
            | (go_at_call 99; refine (l7Dart_any A A' n n c c' e x f wr (H'.out.below HBr.out) HVO.out.map.flip HVO.out.map.paired hxn HX2.out HX3.out).mono ?_; rintro e' W ⟨rfl, bl⟩; have HBD := Lib.hid bl; have HBW : Hid (Below w1.heap.size w1 W) := hb.out.trans (bl.mono hwr); have HBw : Hid (Below w.heap.size w W) := HB1.out.trans (HBW.out.mono hw1); obtain ⟨adB, Aj, cj, nj, rfl, hcB, hrB, -⟩ := (HS.out.below HBw.out).at_ hlt; rw [HAE.out] at hrB; obtain rfl : nj = k := (hrB.1.symm.trans HAV.out.2); obtain ⟨ad3, rfl, hcx⟩ := (HRV.out.below HBW.out).at_ hxn; rw [HVX.out] at hcx; have HRB := Lib.hid hrB; clear bl cr0 cr1 hrB; obtain ⟨Wc, hWc⟩ : ∃ Wc : World, Wc = W := ⟨_, rfl⟩; subst hWc; obtain ⟨Av, hAv⟩ : ∃ Av, Av = Aj := ⟨_, rfl⟩; subst hAv; obtain ⟨cv, hcv⟩ : ∃ cv, cv = cj := ⟨_, rfl⟩; subst hcv; have HRVv := HRB; have HBc := HBD; have HB1c := HBW; have HBwc := HBw; have cc1 := (HX1.out.over HB1c.out (by have := HX1.out.lt; omega)).cell1; obtain ⟨adF, rfl, hcF⟩ := (H'.out.below HBwc.out).at_ hxn; rw [HY.out] at hcF; obtain ⟨_, e3, hcy⟩ := (HRV.out.below HB1c.out).at_ hyn; injection e3 with e3; subst e3; rw [HVY.out] at hcy)
            | (go_at_call 77; refine (l2Copy_any Av nj cv _ Wc HRVv.out hk1 (by omega)).mono ?_; rintro e' w7 ⟨u, rfl, o, b⟩; obtain ⟨Au, cu, rfl, -, -⟩ := o.form' HV5.out.2; have BL7 : Hid (Below wr.heap.size wr w7) := HBc.out.trans (b.mono HBc.out.size); obtain ⟨vs, hop⟩ := (ho.out.below BL7.out).opn; have HOP := Lib.hid hop; have HROW := Lib.hid (hop.row HTL.out); have HU := Lib.hid (o.mono HBc.out.size); have hws2 := BL7.out.size; clear o b hop)
            | (at_builtin; refine wpList_append_own _ rfl _ _ 25 rfl w1.heap.size 22 i1 (.slice none 0 0) 1 24 Try.underlying25 hinf1 hy0 hy1 hy2 rfl (by decide) _ _ _ rfl (HROW.out.alloc _) ⟨w7.heap.size, 0, none⟩ 1 1 [.slice Au nj cu] rfl rfl (cell_one_new _ _ _) (by intro u hu; simp at hu; subst hu; rfl) (by unfold maxLen; omega) (by omega) (by simp; omega) ?_; intro v8 w8 hown8 hgrow8 _; have HO8 := Lib.hid hown8; have HG8 := Lib.hid hgrow8; clear hown8 hgrow8))
          go_roundw
          case rel =>
            have ha := app_row hwr HTL.out HOP.out BL7.out HU.out HO8.out HG8.out
            exact ⟨e + 1, by omega, by go_num, by rw [Hid, HTK.out]; exact ha.1, hb.out.trans ha.2⟩
          case measure => simp [intOf]; omega
    · obtain rfl : e = m := by omega
      go_wp2_with fail
      go_ret
      refine ⟨_, rfl, ?_, HB1.out.trans (hb.out.mono hw1)⟩
      have := ho.out.mono hw1
      rwa [List.take_of_length_le (by rw [HCL.out]; exact Nat.le_refl _)] at this

set_option maxRecDepth 20000 in
set_option maxHeartbeats 6400000 in
theorem spec_cvjR (w : World) (A A' : Option Addr) (n n' c c' : Nat) (t f : List Int) (h : Rd w A n t) (h' : Rd w A' n' f) (hn : n ≤ 1048576) (hn' : n' ≤ 1048576) (k : Int) (B : Option Addr) (m d : Nat) (vss : List (List Int)) (hs : RdSS w B m vss) (hm : m ≤ 1048576) (htot : total vss ≤ 1048576) (x : Int) (E : Option Addr) (ec en : Nat) (bs : List Int) (he : Rd w E en bs) (hen : en ≤ 1048576) {ok : Bool} {ys : List (List Int)} (hR : cvjR t f k vss x bs = (ok, ys)) :
    Calls Try.prog 38 #[.agg #[.slice A n c, .slice A' n' c'], .int .i64 k, .slice B m d, .int .i64 x, .slice E en ec] w fun e w' => ∃ v, e = .returned (.tuple #[v, .bool ok]) ∧ OwnSS w' w.heap.size w'.heap.size v ys ∧ Below w.heap.size w w' := by
  obtain ⟨W0, hW0, hx, hb, hz⟩ := Box.local_ w 29 (.slice A n c) (.slice A' n' c')
  have c0 := hx.cell0
  have c1 := hx.cell1
  have HX := Lib.hid hx; have HB := Lib.hid hb; have H := Lib.hid h; have H' := Lib.hid h'; have HR := Lib.hid hR; have HS := Lib.hid hs; have HE := Lib.hid he; have HEL := Lib.hid he.1
  clear hx hb h h' hR hs hz he
  cases hv : vvB t f k vss with
  | false =>
    have HF : Hid (cvjR t f k vss x bs = (false, [])) := by rw [Hid, cvjR, if_neg (fun h => by rw [hv] at h; exact absurd h.1 (by decide))]
    obtain ⟨rfl, rfl⟩ : ok = false ∧ ys = [] := by have := HR.out; rw [HF.out] at this; simpa [eq_comm] using this
    have HV := Lib.hid hv; clear hv
    go_enter Try.func38, Try.ntmps38
    go_wp2_with (go_at_call 16; refine (spec_vvB _ A A' n n' c c' t f (H.out.below HB.out) (H'.out.below HB.out) hn hn' k B m d vss (HS.out.below HB.out) hm htot HV.out).mono ?_; rintro e w1 ⟨rfl, b⟩; have HB1 := Lib.hid (HB.out.trans (b.mono HB.out.size)); clear b c0 c1)
    go_ret2
    have hw1 := HB1.out.size
    exact ⟨_, rfl, OwnSS.empty hw1, HB1.out.alloc hw1 _⟩
  | true =>
    have HV := Lib.hid hv
    obtain ⟨kn, rfl, hvt⟩ := Volt_of hv
    have hn2 : n' = n := by rw [← H.out.1, ← H'.out.1]; exact hvt.map.len.symm
    subst hn2
    have hn12 : n' ≤ 12 := by rw [← H.out.1]; exact hvt.map.turn.2.1
    have hmv := mapV_iff.2 hvt.map
    cases hd : dartB n' x with
    | false =>
      have HF : Hid (cvjR t f (kn : Int) vss x bs = (false, [])) := by rw [Hid, cvjR, if_neg (fun h => by have := h.2.1; rw [H.out.1, hd] at this; exact absurd this (by decide))]
      obtain ⟨rfl, rfl⟩ : ok = false ∧ ys = [] := by have := HR.out; rw [HF.out] at this; simpa [eq_comm] using this
      have HD : Hid ((mapV t f && dartB n' x) = false) := by rw [Hid, hd, Bool.and_false]
      clear hd hv hvt hmv
      go_enter Try.func38, Try.ntmps38
      go_wp2_with (first
        | (go_at_call 16; refine (spec_vvB _ A A' n' n' c c' t f (H.out.below HB.out) (H'.out.below HB.out) hn hn' (kn : Int) B m d vss (HS.out.below HB.out) hm htot HV.out).mono ?_; rintro e w1 ⟨rfl, b⟩; have HB1 := Lib.hid (HB.out.trans (b.mono HB.out.size)); have hx1 := HX.out.below b; have d0 := hx1.cell0; have d1 := hx1.cell1; clear b c0 c1 hx1)
        | (go_at_call 57; refine (l2Dart_lit w1 A A' n' n' c c' t f (H.out.below HB1.out) (H'.out.below HB1.out) hn hn' x HD.out).mono ?_; rintro e w2 ⟨rfl, b⟩; have HB2 := Lib.hid (HB1.out.trans (b.mono HB1.out.size)); clear b d0 d1))
      go_ret2
      have hw2 := HB2.out.size
      exact ⟨_, rfl, OwnSS.empty hw2, HB2.out.alloc hw2 _⟩
    | true =>
      have HD : Hid ((mapV t f && dartB n' x) = true) := by rw [Hid, hd, hmv]; rfl
      cases hp : vld bs with
      | false =>
        have HF : Hid (cvjR t f (kn : Int) vss x bs = (false, [])) := by rw [Hid, cvjR, if_neg (fun h => by have := h.2.2.1; rw [hp] at this; exact absurd this (by decide))]
        obtain ⟨rfl, rfl⟩ : ok = false ∧ ys = [] := by have := HR.out; rw [HF.out] at this; simpa [eq_comm] using this
        have HP := Lib.hid hp
        clear hd hv hvt hmv hp
        go_enter Try.func38, Try.ntmps38
        go_wp2_with (first
          | (go_at_call 16; refine (spec_vvB _ A A' n' n' c c' t f (H.out.below HB.out) (H'.out.below HB.out) hn hn' (kn : Int) B m d vss (HS.out.below HB.out) hm htot HV.out).mono ?_; rintro e w1 ⟨rfl, b⟩; have HB1 := Lib.hid (HB.out.trans (b.mono HB.out.size)); have hx1 := HX.out.below b; have d0 := hx1.cell0; have d1 := hx1.cell1; clear b c0 c1 hx1)
          | (go_at_call 57; refine (l2Dart_lit w1 A A' n' n' c c' t f (H.out.below HB1.out) (H'.out.below HB1.out) hn hn' x HD.out).mono ?_; rintro e w2 ⟨rfl, b⟩; have HB2 := Lib.hid (HB1.out.trans (b.mono HB1.out.size)); clear b d0 d1)
          | (go_at_call 53; refine (specValid_any E en ec bs w2 (HE.out.below HB2.out) (by omega)).mono ?_; rintro e w3 ⟨rfl, q, hw3⟩; rw [HP.out]; have HB3 : Hid (Below w.heap.size w w3) := (by rw [Hid, hw3]; exact below_drewN HB2.out q); clear hw3))
        go_ret2
        have hw3 := HB3.out.size
        exact ⟨_, rfl, OwnSS.empty hw3, HB3.out.alloc hw3 _⟩
      | true =>
        have HP := Lib.hid hp
        by_cases hl : en = kn
        · subst hl
          have hne : ((en : Int) != (en : Int)) = false := by simp
          obtain ⟨hx0, hx1⟩ : 0 ≤ x ∧ x < n' := by simpa [dartB] using hd
          obtain ⟨xn, rfl⟩ : ∃ xn : Nat, x = xn := ⟨x.toNat, by omega⟩
          have hxn : xn < n' := by omega
          obtain ⟨nv, hnv⟩ : ∃ nv, gi (vertL t) xn = nv := ⟨_, rfl⟩
          have HF : Hid (cvjR t f (en : Int) vss (xn : Int) bs = (true, cjL (vertL t) f vss nv bs)) := by rw [Hid, cvjR, if_pos ⟨hv, by rw [H.out.1]; exact hd, hp, by rw [HEL.out]⟩, Int.toNat_natCast, hnv]
          obtain ⟨rfl, rfl⟩ : ok = true ∧ ys = cjL (vertL t) f vss nv bs := by have := HR.out; rw [HF.out] at this; simpa [eq_comm] using this
          have HBS := Lib.hid (Vld_of hp); have HVT := Lib.hid hvt; have HNV := Lib.hid hnv
          have HVL : Hid ((vertL t).length = n') := by rw [Hid, vertL_len, H.out.1]
          clear hv hp hvt hd hnv hx0 hx1 hmv
          go_enter Try.func38, Try.ntmps38
          go_wp2_with (first
            | (go_at_call 16; refine (spec_vvB _ A A' n' n' c c' t f (H.out.below HB.out) (H'.out.below HB.out) hn hn' (en : Int) B m d vss (HS.out.below HB.out) hm htot HV.out).mono ?_; rintro e w1 ⟨rfl, b⟩; have HB1 := Lib.hid (HB.out.trans (b.mono HB.out.size)); have hx1 := HX.out.below b; have d0 := hx1.cell0; have d1 := hx1.cell1; have HX1 := Lib.hid hx1; clear b c0 c1 hx1)
            | (go_at_call 57; refine (l2Dart_lit w1 A A' n' n' c c' t f (H.out.below HB1.out) (H'.out.below HB1.out) hn hn' (xn : Int) HD.out).mono ?_; rintro e w2 ⟨rfl, b⟩; have HB2 := Lib.hid (HB1.out.trans (b.mono HB1.out.size)); have HX2 := Lib.hid (HX1.out.below b); clear b d0 d1)
            | (go_at_call 53; refine (specValid_any E en ec bs w2 (HE.out.below HB2.out) (by omega)).mono ?_; rintro e w3 ⟨rfl, q, hw3⟩; rw [HP.out]; have HB3 : Hid (Below w.heap.size w w3) := (by rw [Hid, hw3]; exact below_drewN HB2.out q); have HX3 : Hid (Box w3 w.heap.size 29 (.slice A n' c) (.slice A' n' c')) := (by rw [Hid, hw3]; exact HX2.out.drewN q); clear hw3))
          have c0 := HX3.out.cell0
          have c1 := HX3.out.cell1
          go_region_with (first
            | (go_at_call 69; (refine (l7Vertices_any A n' c t _ ((H.out.below HB3.out).drewN _) HVT.out.map.turn).mono ?_; rintro e w4 ⟨v, rfl, o, b⟩; obtain ⟨A3, c3, rfl, -, -⟩ := o.form' HVL.out; obtain ⟨ad3, rfl, hcv⟩ := (o.rd HVL.out).at_ hxn; rw [HNV.out] at hcv; have BL : Hid (Below w3.heap.size w3 w4) := Below.of_drewN b; have hx4 := HX3.out.below BL.out; have f0 := hx4.cell0; have f1 := hx4.cell1; clear hx4; have HB4 : Hid (Below w.heap.size w w4) := HB3.out.trans (BL.out.mono HB3.out.size); clear o b))
            | (go_at_call 68; (refine (l9Conj_any _ A A' n' c c' t f (H.out.below HB4.out) (H'.out.below HB4.out) en B m d vss (HS.out.below HB4.out) HVT.out nv E ec bs (HE.out.below HB4.out) HBS.out).mono ?_; rintro e w5 ⟨v, rfl, o, b⟩; have HO5 := Lib.hid o; have BL5 := Lib.hid b; have HB5 := Lib.hid (HB4.out.trans (b.mono HB4.out.size)); clear o b)))
          all_goals
            go_wp2_with fail
            go_ret2
            exact ⟨_, rfl, HO5.out.mono HB4.out.size, HB5.out⟩
        · have hne : ((en : Int) != (kn : Int)) = true := by simp; omega
          have HF : Hid (cvjR t f (kn : Int) vss x bs = (false, [])) := by rw [Hid, cvjR, if_neg (fun h => hl (by have := h.2.2.2; rw [HEL.out] at this; omega))]
          obtain ⟨rfl, rfl⟩ : ok = false ∧ ys = [] := by have := HR.out; rw [HF.out] at this; simpa [eq_comm] using this
          clear hd hv hvt hmv hp hl
          go_enter Try.func38, Try.ntmps38
          go_wp2_with (first
            | (go_at_call 16; refine (spec_vvB _ A A' n' n' c c' t f (H.out.below HB.out) (H'.out.below HB.out) hn hn' (kn : Int) B m d vss (HS.out.below HB.out) hm htot HV.out).mono ?_; rintro e w1 ⟨rfl, b⟩; have HB1 := Lib.hid (HB.out.trans (b.mono HB.out.size)); have hx1 := HX.out.below b; have d0 := hx1.cell0; have d1 := hx1.cell1; clear b c0 c1 hx1)
            | (go_at_call 57; refine (l2Dart_lit w1 A A' n' n' c c' t f (H.out.below HB1.out) (H'.out.below HB1.out) hn hn' x HD.out).mono ?_; rintro e w2 ⟨rfl, b⟩; have HB2 := Lib.hid (HB1.out.trans (b.mono HB1.out.size)); clear b d0 d1)
            | (go_at_call 53; refine (specValid_any E en ec bs w2 (HE.out.below HB2.out) (by omega)).mono ?_; rintro e w3 ⟨rfl, q, hw3⟩; rw [HP.out]; have HB3 : Hid (Below w.heap.size w w3) := (by rw [Hid, hw3]; exact below_drewN HB2.out q); clear hw3))
          go_ret2
          have hw3 := HB3.out.size
          exact ⟨_, rfl, OwnSS.empty hw3, HB3.out.alloc hw3 _⟩

end Go.Proofs.Ythcdhkelpepeeaa
