/-
  CoverConj: the model's.
  CoverTree: plain; the program's.
  The permutation of a dart, the model's.
-/
import Derived.Test.YthcdhkelpepeeaaCovJ
import Derived.Deep.RegionHeld3
namespace Go.Proofs.Ythcdhkelpepeeaa
open Go.RowKit
set_option linter.unusedVariables false

set_option maxRecDepth 20000 in
set_option maxHeartbeats 6400000 in
theorem l9Conj_any (w : World) (A A' : Option Addr) (n c c' : Nat) (t f : List Int) (h : Rd w A n t) (h' : Rd w A' n f) (k : Nat) (B : Option Addr) (m d : Nat) (vss : List (List Int)) (hs : RdSS w B m vss) (hv : Volt t f k vss) (nv : Int) (E : Option Addr) (ec : Nat) (bs : List Int) (he : Rd w E k bs) (hbs : Vld bs) :
    Calls Try.prog 68 #[.agg #[.slice A n c, .slice A' n c'], .slice B m d, .int .i64 nv, .slice E k ec] w fun e w' => ∃ v, e = .returned v ∧ OwnSS w' w.heap.size w'.heap.size v (cjL (vertL t) f vss nv bs) ∧ Below w.heap.size w w' := by
  obtain ⟨i1, hinf1, hy0, hy1, hy2⟩ := info_parts info_slice
  obtain ⟨W0, hW0, hx, hb, hz⟩ := Box.local_ w 29 (.slice A n c) (.slice A' n c')
  have c0 := hx.cell0
  have c1 := hx.cell1
  obtain ⟨h2, hh2⟩ : ∃ h2, n / 2 = h2 := ⟨_, rfl⟩
  have hn12 : n ≤ 12 := by rw [← h'.1]; exact hv.map.flip.2.1
  have hk1 := hv.one
  have hk6 := hv.six
  have hh6 : h2 ≤ 6 := by omega
  have hmh : m = h2 := by rw [← hs.1, hv.len, h'.1, hh2]
  subst hmh
  have HVL : Hid ((vertL t).length = n) := by rw [Hid, vertL_len, h.1]
  have HBB : Hid ((backL bs).length = k) := by rw [Hid, backL_len]; exact he.1
  have HCL : Hid ((cjL (vertL t) f vss nv bs).length = m) := by rw [Hid, cjL_len, hs.1]
  have HX := Lib.hid hx; have HB := Lib.hid hb; have H := Lib.hid h; have H' := Lib.hid h'; have HS := Lib.hid hs; have HE := Lib.hid he; have HBV := Lib.hid hbs; have HVO := Lib.hid hv; have HHH := Lib.hid hh2; have HBL := Lib.hid he.1
  clear hx hb h h' hs hz he hbs hv hh2
  go_enter Try.func68, Try.ntmps68
  go_wp2_with (go_at_call 69; refine (l7Vertices_any A n c t W0 (H.out.below HB.out) HVO.out.map.turn).mono ?_; rintro e w1 ⟨v, rfl, o, bl⟩; obtain ⟨A3, c3, rfl, -, -⟩ := o.form' HVL.out; have HRV := Lib.hid (o.rd HVL.out); have HB1 := Lib.hid (HB.out.trans (bl.mono HB.out.size)); have HX1 := Lib.hid (HX.out.below bl); clear o bl c0 c1)
  have hw1 := HB1.out.size
  have HOE : Hid (OwnSS (w1.alloc (.cells #[] 22)) w1.heap.size (w1.alloc (.cells #[] 22)).heap.size (.slice (some ⟨w1.heap.size, 0, none⟩) 0 0) []) := OwnSS.empty (Nat.le_refl _)
  have HBE : Hid (Below w1.heap.size w1 (w1.alloc (.cells #[] 22))) := (Below.refl _ _).alloc (Nat.le_refl _) _
  go_loopw [10, 11, 12, 13] (fun ov ev _ _ wr => ∃ e : Nat, e ≤ m ∧ ev = .int .i64 e ∧ Hid (OwnSS wr w1.heap.size wr.heap.size ov ((cjL (vertL t) f vss nv bs).take e)) ∧ Hid (Below w1.heap.size w1 wr)) (fun _ ev _ _ _ => m - (intOf ev).toNat)
  case atStart => exact ⟨0, Nat.zero_le _, rfl, by rw [List.take_zero]; exact HOE, HBE⟩
  case round =>
    clear HOE HBE
    obtain ⟨e, he, rfl, ho, hb⟩ := hrel
    have hwr := hb.out.size
    by_cases hlt : e < m
    · obtain ⟨x1, x2, x3⟩ := lesD_spec HVO.out.map.flip HVO.out.map.paired (e := e) (by rw [H'.out.1, HHH.out]; exact hlt)
      obtain ⟨x, hxx⟩ : ∃ x, lesD f e = x := ⟨_, rfl⟩
      rw [hxx] at x1 x2 x3
      have hxn : x < n := by rw [← H'.out.1]; exact x1
      obtain ⟨y, hy, hyn, hgy⟩ := (HVO.out.map.flip.into H'.out.1).nat (j := x) x1
      have HX2 := Lib.hid x2; have HX3 := Lib.hid x3
      obtain ⟨a, ha⟩ : ∃ a, vss.getD e [] = a := ⟨_, rfl⟩
      have hrow := HVO.out.row e (by rw [HS.out.1]; exact hlt)
      rw [ha] at hrow
      obtain ⟨vx, hvx⟩ : ∃ vx, gi (vertL t) x = vx := ⟨_, rfl⟩
      obtain ⟨vy, hvy⟩ : ∃ vy, gi (vertL t) y = vy := ⟨_, rfl⟩
      have HBr : Hid (Below w.heap.size w wr) := HB1.out.trans (hb.out.mono hw1)
      have HFX : Hid ((cjL (vertL t) f vss nv bs).getD e [] = if vy = nv then mulL (if vx = nv then mulL (backL bs) a else a) bs else if vx = nv then mulL (backL bs) a else a) := by
        rw [Hid, cjL_get (by rw [HS.out.1]; exact hlt), dC, hxx, ha, hgy, hvx, hvy]
      have HAV := Lib.hid hrow; have HAE := Lib.hid ha; have HVX := Lib.hid hvx; have HVY := Lib.hid hvy; have HY := Lib.hid hy
      have HTL : Hid (((cjL (vertL t) f vss nv bs).take e).length = e) := takeR_len HCL.out (by omega)
      have cr0 := (HX1.out.over hb.out (by have := HX1.out.lt; omega)).cell0
      have cr1 := (HX1.out.over hb.out (by have := HX1.out.lt; omega)).cell1
      clear hxx x1 x2 x3 hy hgy ha hrow hvx hvy
      by_cases e1 : vx = nv
      · have hb1 : (vx == nv) = true := by simp [e1]
        have HE1 := Lib.hid e1; clear e1
        by_cases e2 : vy = nv
        · have hb2 : (vy == nv) = true := by simp [e2]
          have HV5 : Hid (Vld (mulL (backL bs) a) ∧ (mulL (backL bs) a).length = k) := ⟨(backL_vld HBV.out).mulL HAV.out.1 (by rw [HBB.out, HAV.out.2]), (mulL_len _ _).trans HBB.out⟩
          have HFIN : Hid ((cjL (vertL t) f vss nv bs).getD e [] = mulL (mulL (backL bs) a) bs) := by rw [Hid, HFX.out, if_pos e2, if_pos HE1.out]
          have HTK : Hid ((cjL (vertL t) f vss nv bs).take (e + 1) = (cjL (vertL t) f vss nv bs).take e ++ [mulL (mulL (backL bs) a) bs]) := takeR_one (by rw [HCL.out]; exact hlt) HFIN.out
          have HLM : Hid ((mulL (mulL (backL bs) a) bs).length = k) := (mulL_len _ _).trans HV5.out.2
          clear e2
          go_wp2_with (first
            | (go_at_call 99; refine (l7Dart_any A A' n n c c' e x f wr (H'.out.below HBr.out) HVO.out.map.flip HVO.out.map.paired hxn HX2.out HX3.out).mono ?_; rintro e' W ⟨rfl, bl⟩; have HBD := Lib.hid bl; have HBW : Hid (Below w1.heap.size w1 W) := hb.out.trans (bl.mono hwr); have HBw : Hid (Below w.heap.size w W) := HB1.out.trans (HBW.out.mono hw1); obtain ⟨adB, Aj, cj, nj, rfl, hcB, hrB, -⟩ := (HS.out.below HBw.out).at_ hlt; rw [HAE.out] at hrB; obtain rfl : nj = k := (hrB.1.symm.trans HAV.out.2); obtain ⟨ad3, rfl, hcx⟩ := (HRV.out.below HBW.out).at_ hxn; rw [HVX.out] at hcx; have HRB := Lib.hid hrB; clear bl cr0 cr1 hrB)
            | (go_at_call 74; refine (l1Back_any E nj ec bs W (HE.out.below HBw.out) (by omega) HBV.out).mono ?_; rintro e' w3 ⟨v, rfl, o, bl⟩; obtain ⟨Ab, cb, rfl, -, -⟩ := o.form' HBB.out; have BL3 := Lib.hid bl; have HOB := Lib.hid o; clear o bl)
            | (have hchk := HRVv.out; clear hchk; go_at_call 83; refine (l1Mul_any Av E nj nj cv ec (mulL (backL bs) a) bs Wc HRVv.out (HE.out.below HBwc.out) (by omega) (by omega) (HV5.out.1.into HV5.out.2)).mono ?_; rintro e' w6 ⟨v, rfl, o, bl⟩; obtain ⟨An, cn, rfl, -, -⟩ := o.form' HLM.out; have BL6 : Hid (Below wr.heap.size wr w6) := HBc.out.trans (bl.mono HBc.out.size); have HRN := Lib.hid (o.rd HLM.out); clear o bl)
            | (go_at_call 83; refine (l1Mul_any Ab Aj nj nj cb cj (backL bs) a w3 (HOB.out.rd HBB.out) (HRB.out.below BL3.out) (by omega) (by omega) ((backL_vld HBV.out).into HBB.out)).mono ?_; rintro e' Wc ⟨v, rfl, o, bl⟩; obtain ⟨Av, cv, rfl, -, -⟩ := o.form' ((mulL_len _ _).trans HBB.out); have HRVv := Lib.hid (o.rd ((mulL_len _ _).trans HBB.out)); have HBc : Hid (Below wr.heap.size wr Wc) := HBD.out.trans ((BL3.out.trans (bl.mono BL3.out.size)).mono HBD.out.size); clear o bl hcx; have HB1c : Hid (Below w1.heap.size w1 Wc) := hb.out.trans (HBc.out.mono hwr); have HBwc : Hid (Below w.heap.size w Wc) := HB1.out.trans (HB1c.out.mono hw1); have cc1 := (HX1.out.over HB1c.out (by have := HX1.out.lt; omega)).cell1; obtain ⟨adF, rfl, hcF⟩ := (H'.out.below HBwc.out).at_ hxn; rw [HY.out] at hcF; obtain ⟨_, e3, hcy⟩ := (HRV.out.below HB1c.out).at_ hyn; injection e3 with e3; subst e3; rw [HVY.out] at hcy)
            | (go_at_call 77; refine (l2Copy_any An nj cn _ w6 HRN.out hk1 (by omega)).mono ?_; rintro e' w7 ⟨u, rfl, o, b⟩; obtain ⟨Au, cu, rfl, -, -⟩ := o.form' HLM.out; have BL7 : Hid (Below wr.heap.size wr w7) := BL6.out.trans (b.mono BL6.out.size); obtain ⟨vs, hop⟩ := (ho.out.below BL7.out).opn; have HOP := Lib.hid hop; have HROW := Lib.hid (hop.row HTL.out); have HU := Lib.hid (o.mono BL6.out.size); have hws2 := BL7.out.size; clear o b hop)
            | (at_builtin; refine wpList_append_own _ rfl _ _ 25 rfl w1.heap.size 22 i1 (.slice none 0 0) 1 24 Try.underlying25 hinf1 hy0 hy1 hy2 rfl (by decide) _ _ _ rfl (HROW.out.alloc _) ⟨w7.heap.size, 0, none⟩ 1 1 [.slice Au nj cu] rfl rfl (cell_one_new _ _ _) (by intro u hu; simp at hu; subst hu; rfl) (by unfold maxLen; omega) (by omega) (by simp; omega) ?_; intro v8 w8 hown8 hgrow8 _; have HO8 := Lib.hid hown8; have HG8 := Lib.hid hgrow8; clear hown8 hgrow8))
          go_roundw
          case rel =>
            have ha := app_row hwr HTL.out HOP.out BL7.out HU.out HO8.out HG8.out
            exact ⟨e + 1, by omega, by go_num, by rw [Hid, HTK.out]; exact ha.1, hb.out.trans ha.2⟩
          case measure => simp [intOf]; omega
        · have hb2 : (vy == nv) = false := by simp [e2]
          have HV5 : Hid (Vld (mulL (backL bs) a) ∧ (mulL (backL bs) a).length = k) := ⟨(backL_vld HBV.out).mulL HAV.out.1 (by rw [HBB.out, HAV.out.2]), (mulL_len _ _).trans HBB.out⟩
          have HFIN : Hid ((cjL (vertL t) f vss nv bs).getD e [] = mulL (backL bs) a) := by rw [Hid, HFX.out, if_neg e2, if_pos HE1.out]
          have HTK : Hid ((cjL (vertL t) f vss nv bs).take (e + 1) = (cjL (vertL t) f vss nv bs).take e ++ [mulL (backL bs) a]) := takeR_one (by rw [HCL.out]; exact hlt) HFIN.out
          clear e2
          go_wp2_with (first
            | (go_at_call 99; refine (l7Dart_any A A' n n c c' e x f wr (H'.out.below HBr.out) HVO.out.map.flip HVO.out.map.paired hxn HX2.out HX3.out).mono ?_; rintro e' W ⟨rfl, bl⟩; have HBD := Lib.hid bl; have HBW : Hid (Below w1.heap.size w1 W) := hb.out.trans (bl.mono hwr); have HBw : Hid (Below w.heap.size w W) := HB1.out.trans (HBW.out.mono hw1); obtain ⟨adB, Aj, cj, nj, rfl, hcB, hrB, -⟩ := (HS.out.below HBw.out).at_ hlt; rw [HAE.out] at hrB; obtain rfl : nj = k := (hrB.1.symm.trans HAV.out.2); obtain ⟨ad3, rfl, hcx⟩ := (HRV.out.below HBW.out).at_ hxn; rw [HVX.out] at hcx; have HRB := Lib.hid hrB; clear bl cr0 cr1 hrB)
            | (go_at_call 74; refine (l1Back_any E nj ec bs W (HE.out.below HBw.out) (by omega) HBV.out).mono ?_; rintro e' w3 ⟨v, rfl, o, bl⟩; obtain ⟨Ab, cb, rfl, -, -⟩ := o.form' HBB.out; have BL3 := Lib.hid bl; have HOB := Lib.hid o; clear o bl)
            | (go_at_call 83; refine (l1Mul_any Ab Aj nj nj cb cj (backL bs) a w3 (HOB.out.rd HBB.out) (HRB.out.below BL3.out) (by omega) (by omega) ((backL_vld HBV.out).into HBB.out)).mono ?_; rintro e' Wc ⟨v, rfl, o, bl⟩; obtain ⟨Av, cv, rfl, -, -⟩ := o.form' ((mulL_len _ _).trans HBB.out); have HRVv := Lib.hid (o.rd ((mulL_len _ _).trans HBB.out)); have HBc : Hid (Below wr.heap.size wr Wc) := HBD.out.trans ((BL3.out.trans (bl.mono BL3.out.size)).mono HBD.out.size); clear o bl hcx; have HB1c : Hid (Below w1.heap.size w1 Wc) := hb.out.trans (HBc.out.mono hwr); have HBwc : Hid (Below w.heap.size w Wc) := HB1.out.trans (HB1c.out.mono hw1); have cc1 := (HX1.out.over HB1c.out (by have := HX1.out.lt; omega)).cell1; obtain ⟨adF, rfl, hcF⟩ := (H'.out.below HBwc.out).at_ hxn; rw [HY.out] at hcF; obtain ⟨_, e3, hcy⟩ := (HRV.out.below HB1c.out).at_ hyn; injection e3 with e3; subst e3; rw [HVY.out] at hcy)
            | (go_at_call 77; refine (l2Copy_any Av nj cv _ Wc HRVv.out hk1 (by omega)).mono ?_; rintro e' w7 ⟨u, rfl, o, b⟩; obtain ⟨Au, cu, rfl, -, -⟩ := o.form' HV5.out.2; have BL7 : Hid (Below wr.heap.size wr w7) := HBc.out.trans (b.mono HBc.out.size); obtain ⟨vs, hop⟩ := (ho.out.below BL7.out).opn; have HOP := Lib.hid hop; have HROW := Lib.hid (hop.row HTL.out); have HU := Lib.hid (o.mono HBc.out.size); have hws2 := BL7.out.size; clear o b hop)
            | (at_builtin; refine wpList_append_own _ rfl _ _ 25 rfl w1.heap.size 22 i1 (.slice none 0 0) 1 24 Try.underlying25 hinf1 hy0 hy1 hy2 rfl (by decide) _ _ _ rfl (HROW.out.alloc _) ⟨w7.heap.size, 0, none⟩ 1 1 [.slice Au nj cu] rfl rfl (cell_one_new _ _ _) (by intro u hu; simp at hu; subst hu; rfl) (by unfold maxLen; omega) (by omega) (by simp; omega) ?_; intro v8 w8 hown8 hgrow8 _; have HO8 := Lib.hid hown8; have HG8 := Lib.hid hgrow8; clear hown8 hgrow8))
          go_roundw
          case rel =>
            have ha := app_row hwr HTL.out HOP.out BL7.out HU.out HO8.out HG8.out
            exact ⟨e + 1, by omega, by go_num, by rw [Hid, HTK.out]; exact ha.1, hb.out.trans ha.2⟩
          case measure => simp [intOf]; omega
      · have hb1 : (vx == nv) = false := by simp [e1]
        have HE1 := Lib.hid e1; clear e1
        by_cases e2 : vy = nv
        · have hb2 : (vy == nv) = true := by simp [e2]
          have HV5 := HAV
          have HFIN : Hid ((cjL (vertL t) f vss nv bs).getD e [] = mulL (a) bs) := by rw [Hid, HFX.out, if_pos e2, if_neg HE1.out]
          have HTK : Hid ((cjL (vertL t) f vss nv bs).take (e + 1) = (cjL (vertL t) f vss nv bs).take e ++ [mulL (a) bs]) := takeR_one (by rw [HCL.out]; exact hlt) HFIN.out
          have HLM : Hid ((mulL (a) bs).length = k) := (mulL_len _ _).trans HV5.out.2
          clear e2
          go_wp2_with (first
            | (go_at_call 99; refine (l7Dart_any A A' n n c c' e x f wr (H'.out.below HBr.out) HVO.out.map.flip HVO.out.map.paired hxn HX2.out HX3.out).mono ?_; rintro e' W ⟨rfl, bl⟩; have HBD := Lib.hid bl; have HBW : Hid (Below w1.heap.size w1 W) := hb.out.trans (bl.mono hwr); have HBw : Hid (Below w.heap.size w W) := HB1.out.trans (HBW.out.mono hw1); obtain ⟨adB, Aj, cj, nj, rfl, hcB, hrB, -⟩ := (HS.out.below HBw.out).at_ hlt; rw [HAE.out] at hrB; obtain rfl : nj = k := (hrB.1.symm.trans HAV.out.2); obtain ⟨ad3, rfl, hcx⟩ := (HRV.out.below HBW.out).at_ hxn; rw [HVX.out] at hcx; have HRB := Lib.hid hrB; clear bl cr0 cr1 hrB; obtain ⟨Wc, hWc⟩ : ∃ Wc : World, Wc = W := ⟨_, rfl⟩; subst hWc; obtain ⟨Av, hAv⟩ : ∃ Av, Av = Aj := ⟨_, rfl⟩; subst hAv; obtain ⟨cv, hcv⟩ : ∃ cv, cv = cj := ⟨_, rfl⟩; subst hcv; have HRVv := HRB; have HBc := HBD; have HB1c := HBW; have HBwc := HBw; have cc1 := (HX1.out.over HB1c.out (by have := HX1.out.lt; omega)).cell1; obtain ⟨adF, rfl, hcF⟩ := (H'.out.below HBwc.out).at_ hxn; rw [HY.out] at hcF; obtain ⟨_, e3, hcy⟩ := (HRV.out.below HB1c.out).at_ hyn; injection e3 with e3; subst e3; rw [HVY.out] at hcy)
            | (have hchk := HRVv.out; clear hchk; go_at_call 83; refine (l1Mul_any Av E nj nj cv ec (a) bs Wc HRVv.out (HE.out.below HBwc.out) (by omega) (by omega) (HV5.out.1.into HV5.out.2)).mono ?_; rintro e' w6 ⟨v, rfl, o, bl⟩; obtain ⟨An, cn, rfl, -, -⟩ := o.form' HLM.out; have BL6 : Hid (Below wr.heap.size wr w6) := HBc.out.trans (bl.mono HBc.out.size); have HRN := Lib.hid (o.rd HLM.out); clear o bl)
            | (go_at_call 77; refine (l2Copy_any An nj cn _ w6 HRN.out hk1 (by omega)).mono ?_; rintro e' w7 ⟨u, rfl, o, b⟩; obtain ⟨Au, cu, rfl, -, -⟩ := o.form' HLM.out; have BL7 : Hid (Below wr.heap.size wr w7) := BL6.out.trans (b.mono BL6.out.size); obtain ⟨vs, hop⟩ := (ho.out.below BL7.out).opn; have HOP := Lib.hid hop; have HROW := Lib.hid (hop.row HTL.out); have HU := Lib.hid (o.mono BL6.out.size); have hws2 := BL7.out.size; clear o b hop)
            | (at_builtin; refine wpList_append_own _ rfl _ _ 25 rfl w1.heap.size 22 i1 (.slice none 0 0) 1 24 Try.underlying25 hinf1 hy0 hy1 hy2 rfl (by decide) _ _ _ rfl (HROW.out.alloc _) ⟨w7.heap.size, 0, none⟩ 1 1 [.slice Au nj cu] rfl rfl (cell_one_new _ _ _) (by intro u hu; simp at hu; subst hu; rfl) (by unfold maxLen; omega) (by omega) (by simp; omega) ?_; intro v8 w8 hown8 hgrow8 _; have HO8 := Lib.hid hown8; have HG8 := Lib.hid hgrow8; clear hown8 hgrow8))
          go_roundw
          case rel =>
            have ha := app_row hwr HTL.out HOP.out BL7.out HU.out HO8.out HG8.out
            exact ⟨e + 1, by omega, by go_num, by rw [Hid, HTK.out]; exact ha.1, hb.out.trans ha.2⟩
          case measure => simp [intOf]; omega
        · have hb2 : (vy == nv) = false := by simp [e2]
          have HV5 := HAV
          have HFIN : Hid ((cjL (vertL t) f vss nv bs).getD e [] = a) := by rw [Hid, HFX.out, if_neg e2, if_neg HE1.out]
          have HTK : Hid ((cjL (vertL t) f vss nv bs).take (e + 1) = (cjL (vertL t) f vss nv bs).take e ++ [a]) := takeR_one (by rw [HCL.out]; exact hlt) HFIN.out
          clear e2
          go_wp2_with (first
            | (go_at_call 99; refine (l7Dart_any A A' n n c c' e x f wr (H'.out.below HBr.out) HVO.out.map.flip HVO.out.map.paired hxn HX2.out HX3.out).mono ?_; rintro e' W ⟨rfl, bl⟩; have HBD := Lib.hid bl; have HBW : Hid (Below w1.heap.size w1 W) := hb.out.trans (bl.mono hwr); have HBw : Hid (Below w.heap.size w W) := HB1.out.trans (HBW.out.mono hw1); obtain ⟨adB, Aj, cj, nj, rfl, hcB, hrB, -⟩ := (HS.out.below HBw.out).at_ hlt; rw [HAE.out] at hrB; obtain rfl : nj = k := (hrB.1.symm.trans HAV.out.2); obtain ⟨ad3, rfl, hcx⟩ := (HRV.out.below HBW.out).at_ hxn; rw [HVX.out] at hcx; have HRB := Lib.hid hrB; clear bl cr0 cr1 hrB; obtain ⟨Wc, hWc⟩ : ∃ Wc : World, Wc = W := ⟨_, rfl⟩; subst hWc; obtain ⟨Av, hAv⟩ : ∃ Av, Av = Aj := ⟨_, rfl⟩; subst hAv; obtain ⟨cv, hcv⟩ : ∃ cv, cv = cj := ⟨_, rfl⟩; subst hcv; have HRVv := HRB; have HBc := HBD; have HB1c := HBW; have HBwc := HBw; have cc1 := (HX1.out.over HB1c.out (by have := HX1.out.lt; omega)).cell1; obtain ⟨adF, rfl, hcF⟩ := (H'.out.below HBwc.out).at_ hxn; rw [HY.out] at hcF; obtain ⟨_, e3, hcy⟩ := (HRV.out.below HB1c.out).at_ hyn; injection e3 with e3; subst e3; rw [HVY.out] at hcy)
            | (go_at_call 77; refine (l2Copy_any Av nj cv _ Wc HRVv.out hk1 (by omega)).mono ?_; rintro e' w7 ⟨u, rfl, o, b⟩; obtain ⟨Au, cu, rfl, -, -⟩ := o.form' HV5.out.2; have BL7 : Hid (Below wr.heap.size wr w7) := HBc.out.trans (b.mono HBc.out.size); obtain ⟨vs, hop⟩ := (ho.out.below BL7.out).opn; have HOP := Lib.hid hop; have HROW := Lib.hid (hop.row HTL.out); have HU := Lib.hid (o.mono HBc.out.size); have hws2 := BL7.out.size; clear o b hop)
            | (at_builtin; refine wpList_append_own _ rfl _ _ 25 rfl w1.heap.size 22 i1 (.slice none 0 0) 1 24 Try.underlying25 hinf1 hy0 hy1 hy2 rfl (by decide) _ _ _ rfl (HROW.out.alloc _) ⟨w7.heap.size, 0, none⟩ 1 1 [.slice Au nj cu] rfl rfl (cell_one_new _ _ _) (by intro u hu; simp at hu; subst hu; rfl) (by unfold maxLen; omega) (by omega) (by simp; omega) ?_; intro v8 w8 hown8 hgrow8 _; have HO8 := Lib.hid hown8; have HG8 := Lib.hid hgrow8; clear hown8 hgrow8))
          go_roundw
          case rel =>
            have ha := app_row hwr HTL.out HOP.out BL7.out HU.out HO8.out HG8.out
            exact ⟨e + 1, by omega, by go_num, by rw [Hid, HTK.out]; exact ha.1, hb.out.trans ha.2⟩
          case measure => simp [intOf]; omega
    · obtain rfl : e = m := by omega
      go_wp2_with fail
      go_ret
      refine ⟨_, rfl, ?_, HB1.out.trans (hb.out.mono hw1)⟩
      have := ho.out.mono hw1
      rwa [List.take_of_length_le (by rw [HCL.out]; exact Nat.le_refl _)] at this

set_option maxRecDepth 20000 in
set_option maxHeartbeats 6400000 in
theorem spec_cvjR (w : World) (A A' : Option Addr) (n n' c c' : Nat) (t f : List Int) (h : Rd w A n t) (h' : Rd w A' n' f) (hn : n ≤ 1048576) (hn' : n' ≤ 1048576) (k : Int) (B : Option Addr) (m d : Nat) (vss : List (List Int)) (hs : RdSS w B m vss) (hm : m ≤ 1048576) (htot : total vss ≤ 1048576) (x : Int) (E : Option Addr) (ec en : Nat) (bs : List Int) (he : Rd w E en bs) (hen : en ≤ 1048576) {ok : Bool} {ys : List (List Int)} (hR : cvjR t f k vss x bs = (ok, ys)) :
    Calls Try.prog 38 #[.agg #[.slice A n c, .slice A' n' c'], .int .i64 k, .slice B m d, .int .i64 x, .slice E en ec] w fun e w' => ∃ v, e = .returned (.tuple #[v, .bool ok]) ∧ OwnSS w' w.heap.size w'.heap.size v ys ∧ Below w.heap.size w w' := by
  obtain ⟨W0, hW0, hx, hb, hz⟩ := Box.local_ w 29 (.slice A n c) (.slice A' n' c')
  have c0 := hx.cell0
  have c1 := hx.cell1
  have HX := Lib.hid hx; have HB := Lib.hid hb; have H := Lib.hid h; have H' := Lib.hid h'; have HR := Lib.hid hR; have HS := Lib.hid hs; have HE := Lib.hid he; have HEL := Lib.hid he.1
  clear hx hb h h' hR hs hz he
  cases hv : vvB t f k vss with
  | false =>
    have HF : Hid (cvjR t f k vss x bs = (false, [])) := by rw [Hid, cvjR, if_neg (fun h => by rw [hv] at h; exact absurd h.1 (by decide))]
    obtain ⟨rfl, rfl⟩ : ok = false ∧ ys = [] := by have := HR.out; rw [HF.out] at this; simpa [eq_comm] using this
    have HV := Lib.hid hv; clear hv
    go_enter Try.func38, Try.ntmps38
    go_wp2_with (go_at_call 16; refine (spec_vvB _ A A' n n' c c' t f (H.out.below HB.out) (H'.out.below HB.out) hn hn' k B m d vss (HS.out.below HB.out) hm htot HV.out).mono ?_; rintro e w1 ⟨rfl, b⟩; have HB1 := Lib.hid (HB.out.trans (b.mono HB.out.size)); clear b c0 c1)
    go_ret2
    have hw1 := HB1.out.size
    exact ⟨_, rfl, OwnSS.empty hw1, HB1.out.alloc hw1 _⟩
  | true =>
    have HV := Lib.hid hv
    obtain ⟨kn, rfl, hvt⟩ := Volt_of hv
    have hn2 : n' = n := by rw [← H.out.1, ← H'.out.1]; exact hvt.map.len.symm
    subst hn2
    have hn12 : n' ≤ 12 := by rw [← H.out.1]; exact hvt.map.turn.2.1
    have hmv := mapV_iff.2 hvt.map
    cases hd : dartB n' x with
    | false =>
      have HF : Hid (cvjR t f (kn : Int) vss x bs = (false, [])) := by rw [Hid, cvjR, if_neg (fun h => by have := h.2.1; rw [H.out.1, hd] at this; exact absurd this (by decide))]
      obtain ⟨rfl, rfl⟩ : ok = false ∧ ys = [] := by have := HR.out; rw [HF.out] at this; simpa [eq_comm] using this
      have HD : Hid ((mapV t f && dartB n' x) = false) := by rw [Hid, hd, Bool.and_false]
      clear hd hv hvt hmv
      go_enter Try.func38, Try.ntmps38
      go_wp2_with (first
        | (go_at_call 16; refine (spec_vvB _ A A' n' n' c c' t f (H.out.below HB.out) (H'.out.below HB.out) hn hn' (kn : Int) B m d vss (HS.out.below HB.out) hm htot HV.out).mono ?_; rintro e w1 ⟨rfl, b⟩; have HB1 := Lib.hid (HB.out.trans (b.mono HB.out.size)); have hx1 := HX.out.below b; have d0 := hx1.cell0; have d1 := hx1.cell1; clear b c0 c1 hx1)
        | (go_at_call 57; refine (l2Dart_lit w1 A A' n' n' c c' t f (H.out.below HB1.out) (H'.out.below HB1.out) hn hn' x HD.out).mono ?_; rintro e w2 ⟨rfl, b⟩; have HB2 := Lib.hid (HB1.out.trans (b.mono HB1.out.size)); clear b d0 d1))
      go_ret2
      have hw2 := HB2.out.size
      exact ⟨_, rfl, OwnSS.empty hw2, HB2.out.alloc hw2 _⟩
    | true =>
      have HD : Hid ((mapV t f && dartB n' x) = true) := by rw [Hid, hd, hmv]; rfl
      cases hp : vld bs with
      | false =>
        have HF : Hid (cvjR t f (kn : Int) vss x bs = (false, [])) := by rw [Hid, cvjR, if_neg (fun h => by have := h.2.2.1; rw [hp] at this; exact absurd this (by decide))]
        obtain ⟨rfl, rfl⟩ : ok = false ∧ ys = [] := by have := HR.out; rw [HF.out] at this; simpa [eq_comm] using this
        have HP := Lib.hid hp
        clear hd hv hvt hmv hp
        go_enter Try.func38, Try.ntmps38
        go_wp2_with (first
          | (go_at_call 16; refine (spec_vvB _ A A' n' n' c c' t f (H.out.below HB.out) (H'.out.below HB.out) hn hn' (kn : Int) B m d vss (HS.out.below HB.out) hm htot HV.out).mono ?_; rintro e w1 ⟨rfl, b⟩; have HB1 := Lib.hid (HB.out.trans (b.mono HB.out.size)); have hx1 := HX.out.below b; have d0 := hx1.cell0; have d1 := hx1.cell1; clear b c0 c1 hx1)
          | (go_at_call 57; refine (l2Dart_lit w1 A A' n' n' c c' t f (H.out.below HB1.out) (H'.out.below HB1.out) hn hn' x HD.out).mono ?_; rintro e w2 ⟨rfl, b⟩; have HB2 := Lib.hid (HB1.out.trans (b.mono HB1.out.size)); clear b d0 d1)
          | (go_at_call 53; refine (specValid_any E en ec bs w2 (HE.out.below HB2.out) (by omega)).mono ?_; rintro e w3 ⟨rfl, q, hw3⟩; rw [HP.out]; have HB3 : Hid (Below w.heap.size w w3) := (by rw [Hid, hw3]; exact below_drewN HB2.out q); clear hw3))
        go_ret2
        have hw3 := HB3.out.size
        exact ⟨_, rfl, OwnSS.empty hw3, HB3.out.alloc hw3 _⟩
      | true =>
        have HP := Lib.hid hp
        by_cases hl : en = kn
        · subst hl
          have hne : ((en : Int) != (en : Int)) = false := by simp
          obtain ⟨hx0, hx1⟩ : 0 ≤ x ∧ x < n' := by simpa [dartB] using hd
          obtain ⟨xn, rfl⟩ : ∃ xn : Nat, x = xn := ⟨x.toNat, by omega⟩
          have hxn : xn < n' := by omega
          obtain ⟨nv, hnv⟩ : ∃ nv, gi (vertL t) xn = nv := ⟨_, rfl⟩
          have HF : Hid (cvjR t f (en : Int) vss (xn : Int) bs = (true, cjL (vertL t) f vss nv bs)) := by rw [Hid, cvjR, if_pos ⟨hv, by rw [H.out.1]; exact hd, hp, by rw [HEL.out]⟩, Int.toNat_natCast, hnv]
          obtain ⟨rfl, rfl⟩ : ok = true ∧ ys = cjL (vertL t) f vss nv bs := by have := HR.out; rw [HF.out] at this; simpa [eq_comm] using this
          have HBS := Lib.hid (Vld_of hp); have HVT := Lib.hid hvt; have HNV := Lib.hid hnv
          have HVL : Hid ((vertL t).length = n') := by rw [Hid, vertL_len, H.out.1]
          clear hv hp hvt hd hnv hx0 hx1 hmv
          go_enter Try.func38, Try.ntmps38
          go_wp2_with (first
            | (go_at_call 16; refine (spec_vvB _ A A' n' n' c c' t f (H.out.below HB.out) (H'.out.below HB.out) hn hn' (en : Int) B m d vss (HS.out.below HB.out) hm htot HV.out).mono ?_; rintro e w1 ⟨rfl, b⟩; have HB1 := Lib.hid (HB.out.trans (b.mono HB.out.size)); have hx1 := HX.out.below b; have d0 := hx1.cell0; have d1 := hx1.cell1; have HX1 := Lib.hid hx1; clear b c0 c1 hx1)
            | (go_at_call 57; refine (l2Dart_lit w1 A A' n' n' c c' t f (H.out.below HB1.out) (H'.out.below HB1.out) hn hn' (xn : Int) HD.out).mono ?_; rintro e w2 ⟨rfl, b⟩; have HB2 := Lib.hid (HB1.out.trans (b.mono HB1.out.size)); have HX2 := Lib.hid (HX1.out.below b); clear b d0 d1)
            | (go_at_call 53; refine (specValid_any E en ec bs w2 (HE.out.below HB2.out) (by omega)).mono ?_; rintro e w3 ⟨rfl, q, hw3⟩; rw [HP.out]; have HB3 : Hid (Below w.heap.size w w3) := (by rw [Hid, hw3]; exact below_drewN HB2.out q); have HX3 : Hid (Box w3 w.heap.size 29 (.slice A n' c) (.slice A' n' c')) := (by rw [Hid, hw3]; exact HX2.out.drewN q); clear hw3))
          have c0 := HX3.out.cell0
          have c1 := HX3.out.cell1
          go_region_with (first
            | (go_at_call 69; (refine (l7Vertices_any A n' c t _ ((H.out.below HB3.out).drewN _) HVT.out.map.turn).mono ?_; rintro e w4 ⟨v, rfl, o, b⟩; obtain ⟨A3, c3, rfl, -, -⟩ := o.form' HVL.out; obtain ⟨ad3, rfl, hcv⟩ := (o.rd HVL.out).at_ hxn; rw [HNV.out] at hcv; have BL : Hid (Below w3.heap.size w3 w4) := Below.of_drewN b; have hx4 := HX3.out.below BL.out; have f0 := hx4.cell0; have f1 := hx4.cell1; clear hx4; have HB4 : Hid (Below w.heap.size w w4) := HB3.out.trans (BL.out.mono HB3.out.size); clear o b))
            | (go_at_call 68; (refine (l9Conj_any _ A A' n' c c' t f (H.out.below HB4.out) (H'.out.below HB4.out) en B m d vss (HS.out.below HB4.out) HVT.out nv E ec bs (HE.out.below HB4.out) HBS.out).mono ?_; rintro e w5 ⟨v, rfl, o, b⟩; have HO5 := Lib.hid o; have BL5 := Lib.hid b; have HB5 := Lib.hid (HB4.out.trans (b.mono HB4.out.size)); clear o b)))
          all_goals
            go_wp2_with fail
            go_ret2
            exact ⟨_, rfl, HO5.out.mono HB4.out.size, HB5.out⟩
        · have hne : ((en : Int) != (kn : Int)) = true := by simp; omega
          have HF : Hid (cvjR t f (kn : Int) vss x bs = (false, [])) := by rw [Hid, cvjR, if_neg (fun h => hl (by have := h.2.2.2; rw [HEL.out] at this; omega))]
          obtain ⟨rfl, rfl⟩ : ok = false ∧ ys = [] := by have := HR.out; rw [HF.out] at this; simpa [eq_comm] using this
          clear hd hv hvt hmv hp hl
          go_enter Try.func38, Try.ntmps38
          go_wp2_with (first
            | (go_at_call 16; refine (spec_vvB _ A A' n' n' c c' t f (H.out.below HB.out) (H'.out.below HB.out) hn hn' (kn : Int) B m d vss (HS.out.below HB.out) hm htot HV.out).mono ?_; rintro e w1 ⟨rfl, b⟩; have HB1 := Lib.hid (HB.out.trans (b.mono HB.out.size)); have hx1 := HX.out.below b; have d0 := hx1.cell0; have d1 := hx1.cell1; clear b c0 c1 hx1)
            | (go_at_call 57; refine (l2Dart_lit w1 A A' n' n' c c' t f (H.out.below HB1.out) (H'.out.below HB1.out) hn hn' x HD.out).mono ?_; rintro e w2 ⟨rfl, b⟩; have HB2 := Lib.hid (HB1.out.trans (b.mono HB1.out.size)); clear b d0 d1)
            | (go_at_call 53; refine (specValid_any E en ec bs w2 (HE.out.below HB2.out) (by omega)).mono ?_; rintro e w3 ⟨rfl, q, hw3⟩; rw [HP.out]; have HB3 : Hid (Below w.heap.size w w3) := (by rw [Hid, hw3]; exact below_drewN HB2.out q); clear hw3))
          go_ret2
          have hw3 := HB3.out.size
          exact ⟨_, rfl, OwnSS.empty hw3, HB3.out.alloc hw3 _⟩

end Go.Proofs.Ythcdhkelpepeeaa

namespace Go.Proofs.Ythcdhkelpepeeaa
open Go.RowKit
set_option linter.unusedVariables false

/-- The vertices reached, the last one first, and the voltage, behind the first i darts in the order of their names. -/
noncomputable def trS (t f ord : List Int) (vss : List (List Int)) : Nat → List Nat × List (List Int)
  | 0 => ([vertN t 0], vss)
  | i + 1 => open Classical in if vertN t (gn ord i) ∈ (trS t f ord vss i).1 ∧ vertN t (gn f (gn ord i)) ∉ (trS t f ord vss i).1 then
      (vertN t (gn f (gn ord i)) :: (trS t f ord vss i).1, cjL (vertL t) f (trS t f ord vss i).2 (vertN t (gn f (gn ord i)) : Int) (backL (dV f (trS t f ord vss i).2 (gn ord i)))) else trS t f ord vss i
noncomputable def ordL (t f : List Int) : List Int := backL (namesL t f 0)
noncomputable def cvtR (t f : List Int) (k : Int) (vss : List (List Int)) : Bool × List (List Int) := if vvB t f k vss = true then (true, (trS t f (ordL t f) vss t.length).2) else (false, [])
theorem gi_vertL {t : List Int} {x : Nat} (h : x < t.length) : gi (vertL t) x = (vertN t x : Int) := gi_tab h
theorem vertN_lt {t : List Int} (ht : Vld t) {d : Nat} (hd : d < t.length) : vertN t d < t.length := by
  obtain ⟨h1, h2, h3⟩ := cyclesL_spec ht
  obtain ⟨c, hc, hcd⟩ := h2 d hd
  obtain ⟨j, hj, rfl⟩ := List.getElem_of_mem hc
  have hgd : (cyclesL t).getD j [] = (cyclesL t)[j] := by simp [List.getD, hj]
  obtain ⟨⟨k1, _⟩, _⟩ := leastOf_spec (p := fun j => j < (cyclesL t).length ∧ inC ((cyclesL t).getD j []) d) ⟨j, hj, by rw [hgd]; exact hcd⟩
  have := cyclesL_len (p := t)
  unfold vertN
  omega
theorem ordL_vld {t f : List Int} (hm : IsMap t f) : Vld (ordL t f) ∧ (ordL t f).length = t.length := by
  obtain ⟨h1, h2⟩ := namesL_vld hm (root := 0) (by have := hm.turn.1; omega)
  exact ⟨backL_vld h1, by rw [ordL, backL_len, h2]⟩
theorem trS_volt {t f : List Int} {k : Nat} {vss : List (List Int)} (h : Volt t f k vss) : ∀ i, i ≤ t.length → Volt t f k (trS t f (ordL t f) vss i).2
  | 0, _ => h
  | i + 1, hi => by
    have ih := trS_volt h i (by omega)
    obtain ⟨h1, h2⟩ := ordL_vld h.map
    have h3 : gn (ordL t f) i < f.length := by have := h1.gn_lt (j := i) (by omega); rw [← h.map.len]; omega
    rw [trS]
    split
    · obtain ⟨h4, h5⟩ := ih.dV h3
      exact ih.cj (backL_vld h4) (by rw [backL_len]; exact h5)
    · exact ih
theorem trS_lt {t f : List Int} {k : Nat} {vss : List (List Int)} (h : Volt t f k vss) : ∀ i, i ≤ t.length → ∀ v, v ∈ (trS t f (ordL t f) vss i).1 → v < t.length
  | 0, _ => fun v hv => by
    have : v = vertN t 0 := by simpa [trS] using hv
    rw [this]; exact vertN_lt h.map.turn (by have := h.map.turn.1; omega)
  | i + 1, hi => by
    have ih := trS_lt h i (by omega)
    obtain ⟨h1, h2⟩ := ordL_vld h.map
    have h3 : gn (ordL t f) i < f.length := by have := h1.gn_lt (j := i) (by omega); rw [← h.map.len]; omega
    rw [trS]
    split
    · intro v hv
      rcases List.mem_cons.1 hv with rfl | hv
      · exact vertN_lt h.map.turn (by rw [h.map.len]; exact h.map.flip.gn_lt h3)
      · exact ih v hv
    · exact ih
theorem trS_few {t f : List Int} {vss : List (List Int)} : ∀ i, (trS t f (ordL t f) vss i).1.length ≤ i + 1
  | 0 => by simp [trS]
  | i + 1 => by
    have ih := trS_few (t := t) (f := f) (vss := vss) i
    rw [trS]
    split
    · simp only [List.length_cons]; omega
    · omega
theorem cvtR_len {t f : List Int} {k : Int} {vss ys : List (List Int)} {ok : Bool} (h : cvtR t f k vss = (ok, ys)) : ys.length ≤ 12 ∧ total ys ≤ 100 := by
  unfold cvtR at h
  split at h
  · rename_i hc
    obtain ⟨kn, rfl, hv⟩ := Volt_of hc
    simp only [Prod.mk.injEq] at h
    have := (trS_volt hv _ (Nat.le_refl _)).few_total
    rw [h.2] at this
    omega
  · simp only [Prod.mk.injEq] at h
    rw [← h.2]; simp [total]

theorem seen_ne_int {w : World} {b N : Nat} {t : TypeId} {vis : List Nat} {a : Addr} {kd : IntKind} {z : Int} (hs : SeenT w b t N vis) (h : w.cell? a = some (.int kd z)) : a.block ≠ b := by
  intro e
  obtain ⟨cs, h1, h2, h3⟩ := hs
  unfold World.cell? at h
  rw [e, h1] at h
  simp only at h
  split at h
  · cases h
  · have hlt : a.off < cs.size := by
      rcases Nat.lt_or_ge a.off cs.size with h4 | h4
      · exact h4
      · rw [Array.getElem?_eq_none h4] at h; cases h
    rw [h3 a.off (by omega)] at h
    cases h
theorem Rd.seen {w w' : World} {b N n : Nat} {t : TypeId} {vis : List Nat} {A : Option Addr} {xs : List Int} (h : Rd w A n xs) (hs : SeenT w b t N vis) (hg : w.grownBy w' (some b)) : Rd w' A n xs :=
  ⟨h.1, fun hn => by
    obtain ⟨ad, e, hc⟩ := h.2 hn
    exact ⟨ad, e, fun j hj => cell_kept hg (hc j hj) (fun e' => seen_ne_int hs (hc j hj) (by injection e' with e'; exact e'.symm))⟩⟩
theorem VBox.seen {w w' : World} {b g N n c n' c' k g2 cg : Nat} {vis : List Nat} {A A' : Option Addr} (h1 : VBox w b A n c A' n' c' k g2 cg) (hs : SeenT w g 4 N vis) (hg : w.grownBy w' (some g)) : VBox w' b A n c A' n' c' k g2 cg := by
  refine h1.kept_ hg (fun e => ?_)
  injection e with e
  subst e
  obtain ⟨cs, h4, -⟩ := hs
  unfold VBox at h1
  rw [h4] at h1
  injection h1 with h1
  injection h1 with _ h1
  exact absurd h1 (by decide)
theorem Alg.seen {w w' : World} {lo g2 n c g N : Nat} {vis : List Nat} {F : Nat → Option (List Int)} (h : Alg w lo g2 n c F) (hs : SeenT w g 4 N vis) (hg : w.grownBy w' (some g)) : Alg w' lo g2 n c F := by
  obtain ⟨vs, hl, ho, hr⟩ := h
  refine ⟨vs, hl, ho.kept hg (.inr (own_ne_seen ho hs (by decide))), fun j hj p hp => ?_⟩
  obtain ⟨Aj, cj, h5, h6, h7⟩ := hr j hj p hp
  exact ⟨Aj, cj, h5, h6.seen hs hg, h7⟩
theorem VAt.seen {w w' : World} {b g N k : Nat} {vis : List Nat} {t f : List Int} {vss : List (List Int)} (h : VAt w b t f k vss) (hs : SeenT w g 4 N vis) (hg : w.grownBy w' (some g)) : VAt w' b t f k vss := by
  obtain ⟨A, c, A', c', lo, g2, cg, h1, h2, h3, h4⟩ := h
  exact ⟨A, c, A', c', lo, g2, cg, h1.seen hs hg, h2.seen hs hg, h3.seen hs hg, h4.seen hs hg⟩
theorem trS_yes {t f ord : List Int} {vss vi : List (List Int)} {i a y va vb : Nat} {vis : List Nat} (h1 : (trS t f ord vss i).1 = vis) (h2 : (trS t f ord vss i).2 = vi) (ha : gn ord i = a) (hy : gn f a = y) (hva : vertN t a = va) (hvb : vertN t y = vb) (h : va ∈ vis) (h' : vb ∉ vis) :
    (trS t f ord vss (i + 1)).1 = vb :: vis ∧ (trS t f ord vss (i + 1)).2 = cjL (vertL t) f vi (vb : Int) (backL (dV f vi a)) := by
  rw [trS, if_pos (by rw [h1, ha, hy, hva, hvb]; exact ⟨h, h'⟩), ha, hy, hvb, h1, h2]
  exact ⟨rfl, rfl⟩
theorem trS_no {t f ord : List Int} {vss : List (List Int)} {i a y va vb : Nat} {vis : List Nat} (h1 : (trS t f ord vss i).1 = vis) (ha : gn ord i = a) (hy : gn f a = y) (hva : vertN t a = va) (hvb : vertN t y = vb) (h : ¬ (va ∈ vis ∧ vb ∉ vis)) :
    trS t f ord vss (i + 1) = trS t f ord vss i := by
  rw [trS, if_neg (by rw [h1, ha, hy, hva, hvb]; exact h)]

set_option maxRecDepth 20000 in
set_option maxHeartbeats 6400000 in
theorem stillTree_any (w : World) (b : Nat) (t f : List Int) (k : Nat) (vss : List (List Int)) (hv : Volt t f k vss) (h : VAt w b t f k vss) :
    Calls Try.prog 78 #[.pointer (some ⟨b, 0, none⟩)] w fun e w' => ∃ b', e = .returned (.pointer (some ⟨b', 0, none⟩)) ∧ VAt w' b' t f k (trS t f (ordL t f) vss t.length).2 ∧ Below w.heap.size w w' := by
  obtain ⟨i2, hinf2, hx0, hx1, hx2⟩ := info_parts info_bool
  obtain ⟨n, hn⟩ : ∃ n, f.length = n := ⟨_, rfl⟩
  obtain ⟨A, c, A', c', lo, g, cg, hvb, hr1, hr2, hal⟩ := h.open_ hn
  have hn12 : n ≤ 12 := by rw [← hn]; exact hv.map.flip.2.1
  have hn1 : 1 ≤ n := by rw [← hn]; exact hv.map.flip.1
  have htl : t.length = n := by rw [hv.map.len, hn]
  have HVL : Hid ((vertL t).length = n) := by rw [Hid, vertL_len, htl]
  have HNM : Hid (Vld (namesL t f 0) ∧ (namesL t f 0).length = n) := by have := namesL_vld hv.map (root := 0) (by omega); rw [htl] at this; exact this
  have HOL : Hid (Vld (ordL t f) ∧ (ordL t f).length = n) := by have := ordL_vld hv.map; rw [htl] at this; exact this
  have hv0 : gi (vertL t) 0 = (vertN t 0 : Int) := gi_vertL (by omega)
  obtain ⟨z, hz⟩ : ∃ z, vertN t 0 = z := ⟨_, rfl⟩
  rw [hz] at hv0
  have hzn : z < n := by have := vertN_lt hv.map.turn (d := 0) (by omega); omega
  have HNN := Lib.hid hn; have HTL := Lib.hid htl; have HVO := Lib.hid hv; have HVB := Lib.hid hvb; have H1 := Lib.hid hr1; have H2 := Lib.hid hr2; have HVA := Lib.hid h; have HV0 := Lib.hid hv0; have HZZ := Lib.hid hz
  clear hv h hn hvb hr1 hr2 hal htl hv0 hz
  go_enter Try.func78, Try.ntmps78
  go_wp2_with (first
    | (go_at_call 101; (refine (vertexNumbers_at b A A' n n c c' t w HVB.out.at_ H1.out HVO.out.map.turn).mono ?_; rintro e w1 ⟨v, rfl, o, bl⟩; obtain ⟨A3, c3', rfl, -, -⟩ := o.form' HVL.out; have HRV := Lib.hid (o.rd HVL.out); have HB1 := Lib.hid bl; have HVB1 := Lib.hid (HVB.out.below bl); have HVA1 := Lib.hid (HVA.out.below bl); clear o bl))
    | (at_make; refine wpList_make_full _ rfl _ _ 98 rfl w1.heap.size 4 i2 (.bool false) 1 Try.underlying98 hinf2 hx0 hx1 .i64 .i64 _ _ n rfl rfl rfl rfl (by rw [hx2]; omega) (by unfold maxLen; omega) (Nat.le_refl _) ?_; intro w2 hown2 hgrow2; have hs2 := SeenT.made hown2 rfl; have hb2 := below_of_grown hgrow2 (Nat.le_refl _) (fun k hk => by cases hk); have HS2 := Lib.hid hs2; have HB2 := Lib.hid (HB1.out.trans (hb2.mono HB1.out.size)); have HVB2 := Lib.hid (HVB1.out.below hb2); have HVA2 := Lib.hid (HVA1.out.below hb2); have hrv2 := HRV.out.below hb2; have HRV2 := Lib.hid hrv2; obtain ⟨ad3, rfl, hcz⟩ := hrv2.at_ (k := 0) (by omega); rw [HV0.out, Addr.add_zero'] at hcz; have hcs := hs2.cell hzn; have hfs := hs2.frozen z; have HG3 : Hid (w2.grownBy (w2.setCell ⟨w1.heap.size, z, none⟩ (.bool true)) (some w1.heap.size)) := grown_set _ _ _ _; have HVB3 := Lib.hid (HVB2.out.seen HS2.out HG3.out); have HVA3 := Lib.hid (HVA2.out.seen HS2.out HG3.out); have HS3 := Lib.hid (HS2.out.set z); have HRV3 := Lib.hid (hrv2.seen HS2.out HG3.out); have HB3 : Hid (Below w.heap.size w (w2.setCell ⟨w1.heap.size, z, none⟩ (.bool true))) := HB2.out.setCell HB1.out.size _; clear hown2 hgrow2 hs2 hb2 hrv2)
    | (go_at_call 105; (refine (names_at b A A' n c c' 0 t f _ HVB3.out.at_ (H1.out.below HB3.out) (H2.out.below HB3.out) HVO.out.map (by omega)).mono ?_; rintro e w4 ⟨v, rfl, o, bl⟩; obtain ⟨A4, c4, rfl, -, -⟩ := o.form' HNM.out.2; have HR4 := Lib.hid (o.rd HNM.out.2); have HB4 := Lib.hid (HB3.out.trans (bl.mono HB3.out.size)); have HVA4 := Lib.hid (HVA3.out.below bl); have HS4 := Lib.hid (HS3.out.same (bl.block _ HS3.out.lt)); have HRV4 := Lib.hid (HRV3.out.below bl); clear o bl hcs hfs hcz))
    | (go_at_call 92; (refine (back_any A4 n c4 (namesL t f 0) w4 HR4.out (by omega) HNM.out.1).mono ?_; rintro e w5 ⟨v, rfl, o, bl⟩; obtain ⟨A5, c5, rfl, -, -⟩ := o.form' HOL.out.2; have HRO : Hid (Rd w5 A5 n (ordL t f)) := (o.rd HOL.out.2); have HLO : Hid (∀ ad : Addr, A5 = some ad → w1.heap.size < ad.block) := (fun ad e => by have := (o.lt ad.block (by rw [e]; rfl)).1; have := HS4.out.lt; omega); have HB5 := Lib.hid (HB4.out.trans (bl.mono HB4.out.size)); have HVA5 := Lib.hid (HVA4.out.below bl); have HS5 := Lib.hid (HS4.out.same (bl.block _ HS4.out.lt)); have HRV5 := Lib.hid (HRV4.out.below bl); clear o bl)))
  have hw1 := HB1.out.size
  have HSC := HS5
  clear HVB HVB1 HVB2 HVB3 HVA HVA1 HVA2 HVA3 HVA4 HS2 HS3 HS4 HRV HRV2 HRV3 HRV4 HR4 HG3 hinf2 hx0 hx1 hx2
  go_loopw [0, 6, 7, 26] (fun vv _ _ iv wr => ∃ i bi : Nat, i ≤ n ∧ iv = .int .i64 i ∧ vv = .pointer (some ⟨bi, 0, none⟩) ∧ Hid (VAt wr bi t f k (trS t f (ordL t f) vss i).2) ∧ Hid (SeenT wr w1.heap.size 4 n (trS t f (ordL t f) vss i).1) ∧ Hid (w5.grownBy wr (some w1.heap.size))) (fun _ _ _ iv _ => n - (intOf iv).toNat)
  case atStart => exact ⟨0, b, Nat.zero_le _, rfl, rfl, HVA5, by rw [trS, HZZ.out]; exact HS5, World.grownBy.refl _ _⟩
  case round =>
    clear HVA5 HS5
    obtain ⟨i, bi, hi, rfl, rfl, hva, hse, hg⟩ := hrel
    have HBW : Hid (Below w.heap.size w wr) := HB5.out.grown hg.out HB5.out.size (fun q hq => by cases hq; omega)
    by_cases hlt : i < n
    · obtain ⟨a, hoa, han, hga⟩ := (HOL.out.1.into HOL.out.2).nat (j := i) (by rw [HOL.out.2]; exact hlt)
      obtain ⟨y, hy, hyn, hgy⟩ := (HVO.out.map.flip.into HNN.out).nat (j := a) (by rw [HNN.out]; exact han)
      obtain ⟨va, hva1⟩ : ∃ va, vertN t a = va := ⟨_, rfl⟩
      obtain ⟨vb, hvb1⟩ : ∃ vb, vertN t y = vb := ⟨_, rfl⟩
      have hvan : va < n := by have := vertN_lt HVO.out.map.turn (d := a) (by rw [HTL.out]; exact han); rw [HTL.out] at this; omega
      have hvbn : vb < n := by have := vertN_lt HVO.out.map.turn (d := y) (by rw [HTL.out]; exact hyn); rw [HTL.out] at this; omega
      have hvx : gi (vertL t) a = (va : Int) := by rw [gi_vertL (by rw [HTL.out]; exact han), hva1]
      have hvy : gi (vertL t) y = (vb : Int) := by rw [gi_vertL (by rw [HTL.out]; exact hyn), hvb1]
      obtain ⟨vis, hvis⟩ : ∃ vis, (trS t f (ordL t f) vss i).1 = vis := ⟨_, rfl⟩
      obtain ⟨vi, hvi⟩ : ∃ vi, (trS t f (ordL t f) vss i).2 = vi := ⟨_, rfl⟩
      have hvv : Volt t f k vi := by rw [← hvi]; exact trS_volt HVO.out i (by rw [HTL.out]; omega)
      have HYES := Lib.hid (fun h h' => trS_yes hvis hvi hga hgy hva1 hvb1 h h')
      have HNO := Lib.hid (fun h => trS_no (t := t) (f := f) (ord := ordL t f) (vss := vss) hvis hga hgy hva1 hvb1 h)
      have HVIS := Lib.hid hvis; have HVI := Lib.hid hvi
      rw [hvi] at hva
      rw [hvis] at hse
      obtain ⟨ad5, rfl, hco⟩ := (HRO.out.kept_ hg.out (fun ad e h => by injection h with h; have := HLO.out ad e; omega)).at_ hlt
      rw [hoa] at hco
      obtain ⟨A6, c6, A7, c7, lo2, g2, cg2, hvb, hr1, hr2, hal⟩ := hva.out.open_ HNN.out
      have k1 := hvb.at_.cell1
      obtain ⟨adF, rfl, hcF⟩ := hr2.at_ han
      rw [hy] at hcF
      have hrvr : Rd wr (some ad3) n (vertL t) := HRV5.out.seen HSC.out hg.out
      obtain ⟨_, e3, hca⟩ := hrvr.at_ han
      injection e3 with e3; subst e3
      obtain ⟨_, e3, hcb⟩ := hrvr.at_ hyn
      injection e3 with e3; subst e3
      rw [hvx] at hca
      rw [hvy] at hcb
      have hsa := hse.out.cell hvan
      have hsb := hse.out.cell hvbn
      have HGY := Lib.hid hgy; have HVY := Lib.hid hvy; have HVV := Lib.hid hvv; have HVB := Lib.hid hvb; have HR1 := Lib.hid hr1; have HR2 := Lib.hid hr2; have HAL := Lib.hid hal; have HHY := Lib.hid hy
      clear hy hgy hvb hr1 hr2 hal hvv hoa hga hva1 hvb1 hvis hvi hvx hvy
      by_cases hina : va ∈ vis
      · have hda : decide (va ∈ vis) = true := by simpa using hina
        by_cases hinb : vb ∈ vis
        · have hdb : decide (vb ∈ vis) = true := by simpa using hinb
          have HSAME := Lib.hid (HNO.out (fun h => h.2 hinb))
          rw [hda] at hsa
          rw [hdb] at hsb
          clear hina hinb hda hdb
          go_wp2_with fail
          go_roundw
          case rel => exact ⟨i + 1, bi, by omega, by go_num, rfl, by rw [Hid, HSAME.out, HVI.out]; exact hva.out, by rw [Hid, HSAME.out, HVIS.out]; exact hse.out, hg⟩
          case measure => simp [intOf]; omega
        · have hdb : decide (vb ∈ vis) = false := by simpa using hinb
          obtain ⟨y1, y2⟩ := HYES.out hina hinb
          have HY1 := Lib.hid y1; have HY2 := Lib.hid y2
          rw [hda] at hsa
          rw [hdb] at hsb
          have hfb := hse.out.frozen vb
          have HGS : Hid (wr.grownBy (wr.setCell ⟨w1.heap.size, vb, none⟩ (.bool true)) (some w1.heap.size)) := grown_set _ _ _ _
          have hvb4 := HVB.out.seen hse.out HGS.out
          have q3 := hvb4.cell3
          have hdy := HVV.out.dV (d := y) (by rw [HNN.out]; exact hyn)
          have hfl := HVV.out.dV_flip (d := a) (by rw [HNN.out]; exact han)
          rw [HGY.out] at hfl
          obtain ⟨bb, hbb⟩ : ∃ bb, dV f vi y = bb := ⟨_, rfl⟩
          rw [hbb] at hdy hfl
          obtain ⟨Ay, cy, hcy, hry⟩ := (HAL.out.seen hse.out HGS.out).at_ hyn (p := bb) (by rw [hbb]) hdy.2
          have HRY := Lib.hid hry
          have HVA4 : Hid (VAt (wr.setCell ⟨w1.heap.size, vb, none⟩ (.bool true)) bi t f k vi) := hva.out.seen hse.out HGS.out
          have HS4 := Lib.hid (hse.out.set vb)
          have HDY := Lib.hid hdy.1; have HFL := Lib.hid hfl
          clear hina hinb hda hdb y1 y2 hvb4 hdy hfl hbb hry
          go_wp2_with (go_at_call 72; refine (renamedAt_any _ bi t f k vi HVV.out HVA4.out y (by rw [HNN.out]; exact hyn) Ay cy bb HRY.out HDY.out HVY.out).mono ?_; rintro e w6 ⟨b6, rfl, va6, bl⟩; have HVA6 := Lib.hid va6; have HB6 := Lib.hid bl; clear va6 bl)
          go_roundw
          case rel =>
            refine ⟨i + 1, b6, by omega, by go_num, rfl, by rw [Hid, HY2.out, ← HFL.out]; exact HVA6.out, by rw [Hid, HY1.out]; exact HS4.out.same (HB6.out.block _ HS4.out.lt), grownBy_trans (grownBy_trans hg.out HGS.out) (grown_of_below HB6.out)⟩
          case measure => simp [intOf]; omega
      · have hda : decide (va ∈ vis) = false := by simpa using hina
        have HSAME := Lib.hid (HNO.out (fun h => hina h.1))
        rw [hda] at hsa
        clear hina hda
        go_wp2_with fail
        go_roundw
        case rel => exact ⟨i + 1, bi, by omega, by go_num, rfl, by rw [Hid, HSAME.out, HVI.out]; exact hva.out, by rw [Hid, HSAME.out, HVIS.out]; exact hse.out, hg⟩
        case measure => simp [intOf]; omega
    · have hin : i = n := by omega
      have HF : Hid (VAt wr bi t f k (trS t f (ordL t f) vss t.length).2) := by rw [Hid, HTL.out, ← hin]; exact hva.out
      clear hin
      go_wp2_with fail
      go_ret
      exact ⟨_, rfl, HF.out, HBW.out⟩

set_option maxRecDepth 20000 in
set_option maxHeartbeats 3200000 in
theorem impl_cvtR (w : World) (A A' : Option Addr) (n n' c c' : Nat) (t f : List Int) (h : Rd w A n t) (h' : Rd w A' n' f) (hn : n ≤ 1048576) (hn' : n' ≤ 1048576) (k : Int) (B : Option Addr) (m d : Nat) (vss : List (List Int)) (hs : RdSS w B m vss) (hm : m ≤ 1048576) (htot : total vss ≤ 1048576) {ok : Bool} {ys : List (List Int)} (hR : cvtR t f k vss = (ok, ys)) :
    Calls Try.prog 43 #[.agg #[.slice A n c, .slice A' n' c'], .int .i64 k, .slice B m d] w fun e w' => ∃ v, e = .returned (.tuple #[v, .bool ok]) ∧ OwnSS w' w.heap.size w'.heap.size v ys ∧ Below w.heap.size w w' := by
  obtain ⟨W0, hW0, hx, hb, hz⟩ := Box.local_ w 29 (.slice A n c) (.slice A' n' c')
  have c0 := hx.cell0
  have c1 := hx.cell1
  have HB := Lib.hid hb; have H := Lib.hid h; have H' := Lib.hid h'; have HR := Lib.hid hR; have HS := Lib.hid hs
  clear hx hb h h' hR hs hz
  cases hv : vvB t f k vss with
  | false =>
    have HF : Hid (cvtR t f k vss = (false, [])) := by rw [Hid, cvtR, if_neg (by rw [hv]; decide)]
    obtain ⟨rfl, rfl⟩ : ok = false ∧ ys = [] := by have := HR.out; rw [HF.out] at this; simpa [eq_comm] using this
    have HV := Lib.hid hv; clear hv
    go_enter Try.func43, Try.ntmps43
    go_wp2_with (go_at_call 54; refine (voltageOf_any _ A A' n n' c c' t f (H.out.below HB.out) (H'.out.below HB.out) hn hn' k B m d vss (HS.out.below HB.out) hm htot HV.out).mono ?_; rintro e w1 ⟨p, rfl, b, -⟩; have HB1 := Lib.hid (HB.out.trans (b.mono HB.out.size)); clear b c0 c1)
    go_ret2
    exact ⟨_, rfl, OwnSS.nil_, HB1.out⟩
  | true =>
    have HV := Lib.hid hv
    obtain ⟨kn, rfl, hvt⟩ := Volt_of hv
    have HF : Hid (cvtR t f (kn : Int) vss = (true, (trS t f (ordL t f) vss t.length).2)) := by rw [Hid, cvtR, if_pos hv]
    obtain ⟨rfl, rfl⟩ : ok = true ∧ ys = (trS t f (ordL t f) vss t.length).2 := by have := HR.out; rw [HF.out] at this; simpa [eq_comm] using this
    have HVT := Lib.hid hvt
    have HVJ := Lib.hid (trS_volt hvt t.length (Nat.le_refl _))
    clear hv hvt
    go_enter Try.func43, Try.ntmps43
    go_wp2_with (first
      | (go_at_call 54; refine (voltageOf_any _ A A' n n' c c' t f (H.out.below HB.out) (H'.out.below HB.out) hn hn' (kn : Int) B m d vss (HS.out.below HB.out) hm htot HV.out).mono ?_; rintro e w1 ⟨p, rfl, b, hva⟩; obtain ⟨bv, kn', rfl, hkn, hva⟩ := hva rfl; obtain rfl : kn = kn' := (by omega); have HVA := Lib.hid hva; have HB1 := Lib.hid (HB.out.trans (b.mono HB.out.size)); clear b c0 c1 hva hkn)
      | (go_at_call 78; refine (stillTree_any w1 bv t f kn vss HVT.out HVA.out).mono ?_; rintro e w3 ⟨b3, rfl, va, b⟩; have HVA3 := Lib.hid va; have HB3 := Lib.hid (HB1.out.trans (b.mono HB1.out.size)); clear va b)
      | (go_at_call 73; refine (lists_any w3 b3 t f kn _ HVJ.out HVA3.out).mono ?_; rintro e w4 ⟨v, rfl, o, b⟩; have HO4 := Lib.hid o; have HB4 := Lib.hid (HB3.out.trans (b.mono HB3.out.size)); clear o b))
    go_ret2
    exact ⟨_, rfl, HO4.out.mono HB3.out.size, HB4.out⟩

end Go.Proofs.Ythcdhkelpepeeaa

namespace Go.Proofs.Ythcdhkelpepeeaa
open Go.RowKit
set_option linter.unusedVariables false

set_option maxRecDepth 20000 in
set_option maxHeartbeats 3200000 in
theorem l9Volt_any (w : World) (A A' : Option Addr) (n c c' : Nat) (t f : List Int) (h : Rd w A n t) (h' : Rd w A' n f) (k : Nat) (B : Option Addr) (m d : Nat) (vss : List (List Int)) (hs : RdSS w B m vss) (hv : Volt t f k vss) (x : Nat) (hx : x < n) {p : List Int} (hp : dV f vss x = p) :
    Calls Try.prog 76 #[.agg #[.slice A n c, .slice A' n c'], .slice B m d, .int .i64 x] w fun e w' => ∃ Av cv, e = .returned (.slice Av k cv) ∧ Rd w' Av k p ∧ Below w.heap.size w w' := by
  obtain ⟨W0, hW0, hbx, hb, hz⟩ := Box.local_ w 29 (.slice A n c) (.slice A' n c')
  have c0 := hbx.cell0
  have c1 := hbx.cell1
  have hn12 : n ≤ 12 := by rw [← h'.1]; exact hv.map.flip.2.1
  have hk6 := hv.six
  have hxf : x < f.length := by rw [h'.1]; exact hx
  obtain ⟨y, hy, hyn, hgy⟩ := (hv.map.flip.into h'.1).nat (j := x) hxf
  obtain ⟨e, he⟩ : ∃ e, edgN f x = e := ⟨_, rfl⟩
  have hem : e < m := by rw [← he, ← hs.1]; exact hv.edge hxf
  obtain ⟨a, ha⟩ : ∃ a, vss.getD e [] = a := ⟨_, rfl⟩
  have hrow := hv.row e (by rw [hs.1]; exact hem)
  rw [ha] at hrow
  have HP : Hid (p = if x < y then a else backL a) := by rw [Hid, ← hp, dV, he, ha, hgy]
  have HX := Lib.hid hbx; have HB := Lib.hid hb; have H := Lib.hid h; have H' := Lib.hid h'; have HS := Lib.hid hs; have HVO := Lib.hid hv; have HY := Lib.hid hy; have HE := Lib.hid he; have HA := Lib.hid ha; have HROW := Lib.hid hrow; have HXF := Lib.hid hxf
  clear hbx hb h h' hs hv hy he ha hrow hgy hp hz hxf
  by_cases hlt : x < y
  · have HPA : Hid (p = a) := by rw [Hid, HP.out, if_pos hlt]
    go_enter Try.func76, Try.ntmps76
    go_wp2_with (go_at_call 104; refine (l7Edges_any A A' n n c c' f W0 (H'.out.below HB.out) HVO.out.map.flip HVO.out.map.paired).mono ?_; rintro e' w1 ⟨v, rfl, o, bl⟩; obtain ⟨A2, c2, rfl, -, -⟩ := o.form' ((edgL_len f).trans H'.out.1); obtain ⟨ad2, rfl, hc2⟩ := (o.rd ((edgL_len f).trans H'.out.1)).at_ hx; rw [gi_edgL HXF.out, HE.out] at hc2; have HB1 := Lib.hid (HB.out.trans (bl.mono HB.out.size)); have hx1 := HX.out.below bl; have d1 := hx1.cell1; obtain ⟨adF, rfl, hcF⟩ := (H'.out.below HB1.out).at_ hx; rw [HY.out] at hcF; obtain ⟨adB, Aj, cj, nj, rfl, hcB, hrB, -⟩ := (HS.out.below HB1.out).at_ hem; rw [HA.out] at hrB; obtain rfl : nj = k := (hrB.1.symm.trans HROW.out.2); have HRB := Lib.hid hrB; clear o bl c0 c1 hx1 hrB)
    go_ret
    exact ⟨_, _, rfl, by rw [HPA.out]; exact HRB.out, HB1.out⟩
  · have HPA : Hid (p = backL a) := by rw [Hid, HP.out, if_neg hlt]
    have HLB : Hid ((backL a).length = k) := by rw [Hid, backL_len]; exact HROW.out.2
    go_enter Try.func76, Try.ntmps76
    go_wp2_with (first
      | (go_at_call 104; refine (l7Edges_any A A' n n c c' f W0 (H'.out.below HB.out) HVO.out.map.flip HVO.out.map.paired).mono ?_; rintro e' w1 ⟨v, rfl, o, bl⟩; obtain ⟨A2, c2, rfl, -, -⟩ := o.form' ((edgL_len f).trans H'.out.1); obtain ⟨ad2, rfl, hc2⟩ := (o.rd ((edgL_len f).trans H'.out.1)).at_ hx; rw [gi_edgL HXF.out, HE.out] at hc2; have HB1 := Lib.hid (HB.out.trans (bl.mono HB.out.size)); have hx1 := HX.out.below bl; have d1 := hx1.cell1; obtain ⟨adF, rfl, hcF⟩ := (H'.out.below HB1.out).at_ hx; rw [HY.out] at hcF; obtain ⟨adB, Aj, cj, nj, rfl, hcB, hrB, -⟩ := (HS.out.below HB1.out).at_ hem; rw [HA.out] at hrB; obtain rfl : nj = k := (hrB.1.symm.trans HROW.out.2); have HRB := Lib.hid hrB; clear o bl c0 c1 hx1 hrB)
      | (go_at_call 74; refine (l1Back_any Aj nj cj a w1 HRB.out (by omega) HROW.out.1).mono ?_; rintro e' w2 ⟨v, rfl, o, bl⟩; obtain ⟨Av, cv, rfl, -, -⟩ := o.form' HLB.out; have HRV := Lib.hid (o.rd HLB.out); have HB2 := Lib.hid (HB1.out.trans (bl.mono HB1.out.size)); clear o bl))
    go_ret
    exact ⟨_, _, rfl, by rw [HPA.out]; exact HRV.out, HB2.out⟩

/-- The vertices reached as a row of numbers, the first one first. -/
def seenL (l : List Nat) : List Int := l.reverse.map fun (x : Nat) => (x : Int)
theorem seenL_cons (v : Nat) (l : List Nat) : seenL (v :: l) = seenL l ++ [(v : Int)] := by simp [seenL]
theorem seenL_len (l : List Nat) : (seenL l).length = l.length := by simp [seenL]
theorem hasL_seen (l : List Nat) (v : Nat) : hasL (seenL l) (v : Int) = decide (v ∈ l) := by
  unfold hasL seenL
  rw [decide_eq_decide]
  constructor
  · intro h
    obtain ⟨x, hx, e⟩ := List.mem_map.1 h
    have : x = v := by omega
    rw [← this]; exact List.mem_reverse.1 hx
  · intro h
    exact List.mem_map.2 ⟨v, List.mem_reverse.2 h, rfl⟩

set_option maxRecDepth 20000 in
set_option maxHeartbeats 6400000 in
theorem spec_cvtR (w : World) (A A' : Option Addr) (n n' c c' : Nat) (t f : List Int) (h : Rd w A n t) (h' : Rd w A' n' f) (hn : n ≤ 1048576) (hn' : n' ≤ 1048576) (k : Int) (B : Option Addr) (m d : Nat) (vss : List (List Int)) (hs : RdSS w B m vss) (hm : m ≤ 1048576) (htot : total vss ≤ 1048576) {ok : Bool} {ys : List (List Int)} (hR : cvtR t f k vss = (ok, ys)) :
    Calls Try.prog 42 #[.agg #[.slice A n c, .slice A' n' c'], .int .i64 k, .slice B m d] w fun e w' => ∃ v, e = .returned (.tuple #[v, .bool ok]) ∧ OwnSS w' w.heap.size w'.heap.size v ys ∧ Below w.heap.size w w' := by
  obtain ⟨i0, hinf, hz0, hz1, hz2⟩ := info_parts info_int
  obtain ⟨i1, hinf1, hy0, hy1, hy2⟩ := info_parts info_slice
  obtain ⟨W0, hW0, hx, hb, hz⟩ := Box.local_ w 29 (.slice A n c) (.slice A' n' c')
  have c0 := hx.cell0
  have c1 := hx.cell1
  have HX := Lib.hid hx; have HB := Lib.hid hb; have H := Lib.hid h; have H' := Lib.hid h'; have HR := Lib.hid hR; have HS := Lib.hid hs
  clear hx hb h h' hR hs hz
  cases hv : vvB t f k vss with
  | false =>
    have HF : Hid (cvtR t f k vss = (false, [])) := by rw [Hid, cvtR, if_neg (by rw [hv]; decide)]
    obtain ⟨rfl, rfl⟩ : ok = false ∧ ys = [] := by have := HR.out; rw [HF.out] at this; simpa [eq_comm] using this
    have HV := Lib.hid hv; clear hv
    go_enter Try.func42, Try.ntmps42
    go_wp2_with (go_at_call 16; refine (spec_vvB _ A A' n n' c c' t f (H.out.below HB.out) (H'.out.below HB.out) hn hn' k B m d vss (HS.out.below HB.out) hm htot HV.out).mono ?_; rintro e w1 ⟨rfl, b⟩; have HB1 := Lib.hid (HB.out.trans (b.mono HB.out.size)); clear b c0 c1)
    go_ret2
    have hw1 := HB1.out.size
    exact ⟨_, rfl, OwnSS.empty hw1, HB1.out.alloc hw1 _⟩
  | true =>
    have HV := Lib.hid hv
    obtain ⟨kn, rfl, hvt⟩ := Volt_of hv
    have HF : Hid (cvtR t f (kn : Int) vss = (true, (trS t f (ordL t f) vss t.length).2)) := by rw [Hid, cvtR, if_pos hv]
    obtain ⟨rfl, rfl⟩ : ok = true ∧ ys = (trS t f (ordL t f) vss t.length).2 := by have := HR.out; rw [HF.out] at this; simpa [eq_comm] using this
    have hn2 : n' = n := by rw [← H.out.1, ← H'.out.1]; exact hvt.map.len.symm
    subst hn2
    have hn12 : n' ≤ 12 := by rw [← H.out.1]; exact hvt.map.turn.2.1
    have hn1 : 1 ≤ n' := by rw [← H.out.1]; exact hvt.map.turn.1
    have hm6 : m ≤ 6 := by rw [← HS.out.1]; exact hvt.few_total.1
    have hk1 := hvt.one
    have hk6 := hvt.six
    have htl : t.length = n' := H.out.1
    have HVL : Hid ((vertL t).length = n') := by rw [Hid, vertL_len, htl]
    have HNM : Hid (Vld (namesL t f 0) ∧ (namesL t f 0).length = n') := by have := namesL_vld hvt.map (root := 0) (by omega); rw [htl] at this; exact this
    have HOL : Hid (Vld (ordL t f) ∧ (ordL t f).length = n') := by have := ordL_vld hvt.map; rw [htl] at this; exact this
    have hv0 : gi (vertL t) 0 = (vertN t 0 : Int) := gi_vertL (by omega)
    obtain ⟨z, hz⟩ : ∃ z, vertN t 0 = z := ⟨_, rfl⟩
    rw [hz] at hv0
    have HTL := Lib.hid htl; have HVO := Lib.hid hvt; have HV0 := Lib.hid hv0; have HZZ := Lib.hid hz
    have HVJ := Lib.hid (trS_volt hvt t.length (Nat.le_refl _))
    clear hv hvt htl hv0 hz
    go_enter Try.func42, Try.ntmps42
    go_wp2_with (first
      | (go_at_call 16; refine (spec_vvB _ A A' n' n' c c' t f (H.out.below HB.out) (H'.out.below HB.out) hn hn' (kn : Int) B m d vss (HS.out.below HB.out) hm htot HV.out).mono ?_; rintro e w1 ⟨rfl, b⟩; have HB1 := Lib.hid (HB.out.trans (b.mono HB.out.size)); have hx1 := HX.out.below b; have HX1 := Lib.hid hx1; have d0 := hx1.cell0; have d1 := hx1.cell1; clear b c0 c1 hx1)
      | (go_at_call 69; refine (l7Vertices_any A n' c t w1 (H.out.below HB1.out) HVO.out.map.turn).mono ?_; rintro e w2 ⟨v, rfl, o, b⟩; obtain ⟨A3, c3, rfl, -, -⟩ := o.form' HVL.out; have HRV2 := Lib.hid (o.rd HVL.out); have HB2 := Lib.hid (HB1.out.trans (b.mono HB1.out.size)); have hx2 := HX1.out.below b; have HX2 := Lib.hid hx2; have f0 := hx2.cell0; have f1 := hx2.cell1; clear o b d0 d1 hx2)
      | (go_at_call 75; refine (l2Names_any A A' n' c c' 0 t f w2 (H.out.below HB2.out) (H'.out.below HB2.out) HVO.out.map (by omega)).mono ?_; rintro e w3 ⟨v, rfl, o, b⟩; obtain ⟨A4, c4, rfl, -, -⟩ := o.form' HNM.out.2; have HR4 := Lib.hid (o.rd HNM.out.2); have HB3 := Lib.hid (HB2.out.trans (b.mono HB2.out.size)); have HX3 := Lib.hid (HX2.out.below b); have HRV3 := Lib.hid (HRV2.out.below b); clear o b f0 f1)
      | (go_at_call 74; refine (l1Back_any A4 n' c4 (namesL t f 0) w3 HR4.out (by omega) HNM.out.1).mono ?_; rintro e w4 ⟨v, rfl, o, b⟩; obtain ⟨A5, c5, rfl, -, -⟩ := o.form' HOL.out.2; have HRO4 : Hid (Rd w4 A5 n' (ordL t f)) := (o.rd HOL.out.2); have HB4 := Lib.hid (HB3.out.trans (b.mono HB3.out.size)); have HX4 := Lib.hid (HX3.out.below b); have hrv4 := HRV3.out.below b; have HRV4 := Lib.hid hrv4; obtain ⟨ad3, rfl, hcz⟩ := hrv4.at_ (k := 0) (by omega); rw [HV0.out, Addr.add_zero'] at hcz; clear o b hrv4))
    clear HX HX1 HX2 HX3 HRV2 HRV3 HR4 hcz HB HB1 HB2 HB3
    have hw4 := HB4.out.size
    have hx4 := HX4.out.lt
    have HSE : Hid (Own (w4.alloc (.cells #[.int .i64 (z : Int)] 3)) w4.heap.size (.slice (some ⟨w4.heap.size, 0, none⟩) 1 1) (seenL [z])) := World.ownsRow_lit w4 #[.int .i64 (z : Int)] 1 (Nat.le_refl _) (by unfold maxLen; omega) rfl
    have HBE : Hid (Below w4.heap.size w4 (w4.alloc (.cells #[.int .i64 (z : Int)] 3))) := (Below.refl _ _).alloc (Nat.le_refl _) _
    go_loopw [2, 10, 11, 12, 13] (fun vv sv iv _ _ wr => ∃ (i : Nat) (Bi : Option Addr) (di : Nat), i ≤ n' ∧ iv = .int .i64 i ∧ vv = .slice Bi m di ∧ Hid (RdSS wr Bi m (trS t f (ordL t f) vss i).2) ∧ Hid (Own wr w4.heap.size sv (seenL (trS t f (ordL t f) vss i).1)) ∧ Hid (Below w4.heap.size w4 wr)) (fun _ _ iv _ _ _ => n' - (intOf iv).toNat)
    case atStart => exact ⟨0, B, d, Nat.zero_le _, rfl, rfl, (HS.out.below HB4.out).below HBE.out, by rw [trS, HZZ.out]; exact HSE, HBE⟩
    case round =>
      clear HSE HBE
      obtain ⟨i, Bi, di, hi, rfl, rfl, hvs, hse, hbr⟩ := hrel
      have HBr : Hid (Below w.heap.size w wr) := HB4.out.trans (hbr.out.mono hw4)
      have hwr := hbr.out.size
      have HXr : Hid (Box wr w.heap.size 29 (.slice A n' c) (.slice A' n' c')) := HX4.out.over hbr.out hx4
      by_cases hlt : i < n'
      · obtain ⟨a, hoa, han, hga⟩ := (HOL.out.1.into HOL.out.2).nat (j := i) (by rw [HOL.out.2]; exact hlt)
        obtain ⟨y, hy, hyn, hgy⟩ := (HVO.out.map.flip.into H'.out.1).nat (j := a) (by rw [H'.out.1]; exact han)
        obtain ⟨va, hva1⟩ : ∃ va, vertN t a = va := ⟨_, rfl⟩
        obtain ⟨vb, hvb1⟩ : ∃ vb, vertN t y = vb := ⟨_, rfl⟩
        have hvan : va < n' := by have := vertN_lt HVO.out.map.turn (d := a) (by rw [HTL.out]; exact han); rw [HTL.out] at this; omega
        have hvbn : vb < n' := by have := vertN_lt HVO.out.map.turn (d := y) (by rw [HTL.out]; exact hyn); rw [HTL.out] at this; omega
        have hvx : gi (vertL t) a = (va : Int) := by rw [gi_vertL (by rw [HTL.out]; exact han), hva1]
        have hvy : gi (vertL t) y = (vb : Int) := by rw [gi_vertL (by rw [HTL.out]; exact hyn), hvb1]
        obtain ⟨vis, hvis⟩ : ∃ vis, (trS t f (ordL t f) vss i).1 = vis := ⟨_, rfl⟩
        obtain ⟨vi, hvi⟩ : ∃ vi, (trS t f (ordL t f) vss i).2 = vi := ⟨_, rfl⟩
        obtain ⟨L, hL⟩ : ∃ L, vis.length = L := ⟨_, rfl⟩
        have hL13 : L ≤ 13 := by have := trS_few (t := t) (f := f) (vss := vss) i; rw [hvis, hL] at this; omega
        have hvv : Volt t f kn vi := by rw [← hvi]; exact trS_volt HVO.out i (by rw [HTL.out]; omega)
        have HYES := Lib.hid (fun h h' => trS_yes hvis hvi hga hgy hva1 hvb1 h h')
        have HNO := Lib.hid (fun h => trS_no (t := t) (f := f) (ord := ordL t f) (vss := vss) hvis hga hgy hva1 hvb1 h)
        have HVIS := Lib.hid hvis; have HVI := Lib.hid hvi
        have HLA := Lib.hid (hasL_seen vis va); have HLB := Lib.hid (hasL_seen vis vb)
        have HLL : Hid ((seenL vis).length = L) := by rw [Hid, seenL_len, hL]
        rw [hvi] at hvs
        rw [hvis] at hse
        obtain ⟨As, cs, rfl, hrs, -⟩ := hse.out.form' HLL.out
        have HRS := Lib.hid hrs
        obtain ⟨ad5, rfl, hco⟩ := (HRO4.out.below hbr.out).at_ hlt
        rw [hoa] at hco
        have c0 := HXr.out.cell0
        have c1 := HXr.out.cell1
        obtain ⟨adF, rfl, hcF⟩ := (H'.out.below HBr.out).at_ han
        rw [hy] at hcF
        obtain ⟨_, e3, hca⟩ := (HRV4.out.below hbr.out).at_ han
        injection e3 with e3; subst e3
        obtain ⟨_, e3, hcb⟩ := (HRV4.out.below hbr.out).at_ hyn
        injection e3 with e3; subst e3
        rw [hvx] at hca
        rw [hvy] at hcb
        have HVV := Lib.hid hvv; have HAF : Hid (a < f.length) := by rw [Hid, H'.out.1]; exact han
        clear hy hgy hvv hoa hga hva1 hvb1 hvis hvi hvx hvy hL hrs
        by_cases hina : va ∈ vis
        · have hda : decide (va ∈ vis) = true := by simpa using hina
          rw [hda] at HLA
          by_cases hinb : vb ∈ vis
          · have hdb : decide (vb ∈ vis) = true := by simpa using hinb
            rw [hdb] at HLB
            have HSAME := Lib.hid (HNO.out (fun h => h.2 hinb))
            clear hina hinb hda hdb
            go_wp2_with (go_at_call 60; refine (l7Has_any As cs L (seenL vis) _ wr HRS.out (by omega)).mono ?_; rintro e w5 ⟨rfl, rfl⟩; first | rw [HLA.out] | rw [HLB.out])
            go_roundw
            case rel => exact ⟨i + 1, Bi, di, by omega, by go_num, rfl, by rw [Hid, HSAME.out, HVI.out]; exact hvs.out, by rw [Hid, HSAME.out, HVIS.out]; exact hse.out, hbr⟩
            case measure => simp [intOf]; omega
          · have hdb : decide (vb ∈ vis) = false := by simpa using hinb
            rw [hdb] at HLB
            obtain ⟨y1, y2⟩ := HYES.out hina hinb
            have HY1 := Lib.hid y1; have HY2 := Lib.hid y2
            have hne : va ≠ vb := fun e => hinb (e ▸ hina)
            have HDA := Lib.hid (HVV.out.dV HAF.out)
            obtain ⟨p, hp⟩ : ∃ p, dV f vi a = p := ⟨_, rfl⟩
            rw [hp] at HDA HY2
            have HPP := Lib.hid hp
            have HLP : Hid ((backL p).length = kn) := by rw [Hid, backL_len]; exact HDA.out.2
            have HCL : Hid ((cjL (vertL t) f vi (vb : Int) (backL p)).length = m) := by rw [Hid, cjL_len, hvs.out.1]
            clear hina hinb hda hdb y1 y2 hp
            go_wp2_with (first
              | (go_at_call_of 60 (Value.int IntKind.i64 (va : Int)); refine (l7Has_any As cs L (seenL vis) _ wr HRS.out (by omega)).mono ?_; rintro e w5 ⟨rfl, rfl⟩; rw [HLA.out])
              | (go_at_call_of 60 (Value.int IntKind.i64 (vb : Int)); refine (l7Has_any As cs L (seenL vis) _ wr HRS.out (by omega)).mono ?_; rintro e w5 ⟨rfl, rfl⟩; rw [HLB.out]))
            go_region_held3 (fun w' => w'.cell? ⟨w.heap.size, 0, none⟩ = some (.slice A n' c) ∧ w'.cell? ⟨w.heap.size, 1, none⟩ = some (.slice (some adF) n' c') ∧ w'.cell? (ad3.add y) = some (.int .i64 vb)) (first
                | exact ⟨c0, c1, hcb⟩ | exact ⟨g0, g1, g2⟩ | exact ⟨h0, h1, h2⟩ | exact ⟨j0, j1, j2⟩) (first
              | (go_at_call 76; (refine (l9Volt_any _ A (some adF) n' c c' t f ((H.out.below HBr.out).drewN _) ((H'.out.below HBr.out).drewN _) kn Bi m di vi (hvs.out.drewN _) HVV.out a han HPP.out).mono ?_; rintro e w5 ⟨Av, cv, rfl, hr, bl⟩; have BL5 : Hid (Below wr.heap.size wr w5) := Below.of_drewN bl; have HRP := Lib.hid hr; have hx5 := HXr.out.below BL5.out; have g0 := hx5.cell0; have g1 := hx5.cell1; have g2 := (BL5.out.cell (World.block_lt_of_cell? wr _ hcb)).trans hcb; clear hr bl hx5))
              | (go_at_call 74; (refine (l1Back_any Av kn cv p _ HRP.out (by omega) HDA.out.1).mono ?_; rintro e w6 ⟨v, rfl, o, bl⟩; obtain ⟨Ab, cb, rfl, -, -⟩ := o.form' HLP.out; have BL6 : Hid (Below wr.heap.size wr w6) := BL5.out.trans (bl.mono BL5.out.size); have HRB := Lib.hid (o.rd HLP.out); have hx6 := HXr.out.below BL6.out; have h0 := hx6.cell0; have h1 := hx6.cell1; have h2 := (BL6.out.cell (World.block_lt_of_cell? wr _ hcb)).trans hcb; clear o bl hx6))
              | (go_at_call 68; (refine (l9Conj_any _ A (some adF) n' c c' t f ((H.out.below HBr.out).below BL6.out) ((H'.out.below HBr.out).below BL6.out) kn Bi m di vi (hvs.out.below BL6.out) HVV.out (vb : Int) Ab cb (backL p) HRB.out (backL_vld HDA.out.1)).mono ?_; rintro e w7 ⟨v, rfl, o, bl⟩; obtain ⟨A8, c8, rfl, -⟩ := o.form HCL.out; have BL7 : Hid (Below wr.heap.size wr w7) := BL6.out.trans (bl.mono BL6.out.size); have HO7 := Lib.hid o; have hx7 := HXr.out.below BL7.out; have j0 := hx7.cell0; have j1 := hx7.cell1; have j2 := (BL7.out.cell (World.block_lt_of_cell? wr _ hcb)).trans hcb; clear o bl hx7)))
            have HO6 := Lib.hid (hse.out.below BL7.out)
            have HOA := HO6.out.asRow HLL.out
            have HSB : Hid (∀ q, (Value.slice As L cs).ownBlock = some q → q < wr.heap.size) := fun q hq => (hse.out.lt q hq).2
            have hw7 := BL7.out.size
            have hw6 : wr.heap.size ≤ w6.heap.size := BL6.out.size
            clear h0 h1 h2 g0 g1 g2 c0 c1
            go_wp2_with (at_builtin; refine wpList_append_own _ rfl _ _ 22 rfl w4.heap.size 3 i0 (.int .i64 0) 1 8 Try.underlying22 hinf hz0 hz1 hz2 rfl (by decide) _ _ _ rfl (HOA.out.alloc _) ⟨w7.heap.size, 0, none⟩ 1 1 [.int .i64 (vb : Int)] rfl rfl (cell_one_new _ _ _) (by intro u hu; simp at hu; subst hu; rfl) (by unfold maxLen; omega) (by omega) (by simp; omega) ?_; intro v9 w9 hown9 hgrow9 _; have HO9 := Lib.hid hown9; have HG9 := Lib.hid hgrow9; clear hown9 hgrow9)
            go_roundw
            case rel =>
              have ha := app_int (by omega) HO6.out HLL.out HO9.out HG9.out
              have hss := (HO7.out.below ((Below.refl _ w7).alloc (Nat.le_refl _) (.cells #[.int .i64 (vb : Int)] 3))).over HG9.out (fun q hq => by have := HSB.out q hq; omega)
              refine ⟨i + 1, A8, c8, by omega, by go_num, rfl, by rw [Hid, HY2.out]; exact hss.rd HCL.out, by rw [Hid, HY1.out, seenL_cons]; exact ha.1, (hbr.out.trans (BL7.out.mono hwr)).trans ha.2⟩
            case measure => simp [intOf]; omega
        · have hda : decide (va ∈ vis) = false := by simpa using hina
          rw [hda] at HLA
          have HSAME := Lib.hid (HNO.out (fun h => hina h.1))
          clear hina hda
          go_wp2_with (go_at_call 60; refine (l7Has_any As cs L (seenL vis) _ wr HRS.out (by omega)).mono ?_; rintro e w5 ⟨rfl, rfl⟩; rw [HLA.out])
          go_roundw
          case rel => exact ⟨i + 1, Bi, di, by omega, by go_num, rfl, by rw [Hid, HSAME.out, HVI.out]; exact hvs.out, by rw [Hid, HSAME.out, HVIS.out]; exact hse.out, hbr⟩
          case measure => simp [intOf]; omega
      · have hin : i = n' := by omega
        obtain ⟨ys, hys⟩ : ∃ ys, (trS t f (ordL t f) vss t.length).2 = ys := ⟨_, rfl⟩
        have HVJ' : Hid (Volt t f kn ys) := by rw [Hid, ← hys]; exact HVJ.out
        rw [hin, ← HTL.out, hys] at hvs
        have HYS := Lib.hid hys
        have HYL : Hid (ys.length = m) := by have := HVJ'.out.len; have h2 := HVO.out.len; rw [Hid, this, ← h2, HS.out.1]
        obtain ⟨wo, hwo⟩ : ∃ wo : World, wo = wr := ⟨_, rfl⟩
        subst hwo
        have hwx : w.heap.size ≤ wo.heap.size := HBr.out.size
        have HOE : Hid (OwnSS (wo.alloc (.cells #[] 22)) wo.heap.size (wo.alloc (.cells #[] 22)).heap.size (.slice (some ⟨wo.heap.size, 0, none⟩) 0 0) []) := OwnSS.empty (Nat.le_refl _)
        have HBE : Hid (Below wo.heap.size wo (wo.alloc (.cells #[] 22))) := (Below.refl _ _).alloc (Nat.le_refl _) _
        clear hin hys hse
        go_wp2_with fail
        go_loopw [14, 15] (fun ov ev w2 => ∃ e : Nat, e ≤ m ∧ ev = .int .i64 e ∧ Hid (OwnSS w2 wo.heap.size w2.heap.size ov (ys.take e)) ∧ Hid (Below wo.heap.size wo w2)) (fun _ ev _ => m - (intOf ev).toNat)
        case atStart => exact ⟨0, Nat.zero_le _, rfl, by rw [List.take_zero]; exact HOE, HBE⟩
        case round =>
          clear HOE HBE
          obtain ⟨e, he, rfl, ho, hb2⟩ := hrel
          have hwr2 := hb2.out.size
          by_cases hlt : e < m
          · obtain ⟨ad, Aj, cj, nj, rfl, hc, hr, -⟩ := (hvs.out.below hb2.out).at_ hlt
            obtain ⟨p, hp⟩ : ∃ p, ys.getD e [] = p := ⟨_, rfl⟩
            have hrow := HVJ'.out.row e (by rw [HYL.out]; exact hlt)
            rw [hp] at hr hrow
            obtain rfl : nj = kn := hr.1.symm.trans hrow.2
            have HTK : Hid (ys.take (e + 1) = ys.take e ++ [p]) := takeR_one (by rw [HYL.out]; exact hlt) hp
            have HTL2 : Hid ((ys.take e).length = e) := takeR_len HYL.out (by omega)
            have HRP := Lib.hid hr; have HLP := Lib.hid hrow.2
            clear hp hrow hr
            go_wp2_with (first
              | (go_at_call 77; refine (l2Copy_any Aj nj cj p wr HRP.out hk1 (by omega)).mono ?_; rintro e' w5 ⟨u, rfl, o, b⟩; obtain ⟨Au, cu, rfl, -, -⟩ := o.form' HLP.out; obtain ⟨vs, hop⟩ := (ho.out.below b).opn; have HOP := Lib.hid hop; have HROW := Lib.hid (hop.row HTL2.out); have HU := Lib.hid o; have HB5 := Lib.hid b; have hws5 := b.size; clear o b hop)
              | (at_builtin; refine wpList_append_own _ rfl _ _ 25 rfl wo.heap.size 22 i1 (.slice none 0 0) 1 24 Try.underlying25 hinf1 hy0 hy1 hy2 rfl (by decide) _ _ _ rfl (HROW.out.alloc _) ⟨w5.heap.size, 0, none⟩ 1 1 [.slice Au nj cu] rfl rfl (cell_one_new _ _ _) (by intro u hu; simp at hu; subst hu; rfl) (by unfold maxLen; omega) (by omega) (by simp; omega) ?_; intro v6 w6 hown6 hgrow6 _; have HO6 := Lib.hid hown6; have HG6 := Lib.hid hgrow6; clear hown6 hgrow6))
            go_roundw
            case rel =>
              have ha := app_row hwr2 HTL2.out HOP.out HB5.out HU.out HO6.out HG6.out
              exact ⟨e + 1, by omega, by go_num, by rw [Hid, HTK.out]; exact ha.1, hb2.out.trans ha.2⟩
            case measure => simp [intOf]; omega
          · obtain rfl : e = m := by omega
            have hfin := ho.out.mono hwx
            rw [List.take_of_length_le (by rw [HYL.out]; exact Nat.le_refl _), ← HYS.out] at hfin
            have HFIN := Lib.hid hfin; clear hfin
            go_wp2_with fail
            go_ret2
            exact ⟨_, rfl, HFIN.out, HBr.out.trans (hb2.out.mono hwx)⟩

end Go.Proofs.Ythcdhkelpepeeaa
