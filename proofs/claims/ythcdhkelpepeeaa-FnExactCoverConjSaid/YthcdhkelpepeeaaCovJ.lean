/-
  CoverConj: the program's.
-/
import Derived.Test.YthcdhkelpepeeaaCovR
import Derived.Test.YthcdhkelpepeeaaFormR
namespace Go.Proofs.Ythcdhkelpepeeaa
open Go.RowKit
set_option linter.unusedVariables false

noncomputable def cvjR (t f : List Int) (k : Int) (vss : List (List Int)) (d : Int) (b : List Int) : Bool × List (List Int) :=
  if vvB t f k vss = true ∧ dartB t.length d = true ∧ vld b = true ∧ (b.length : Int) = k then (true, cjL (vertL t) f vss (gi (vertL t) d.toNat) b) else (false, [])
theorem Volt.few_total {t f : List Int} {k : Nat} {vss : List (List Int)} (h : Volt t f k vss) : vss.length ≤ 6 ∧ total vss ≤ 36 := by
  have h1 := h.len
  have h2 := h.map.flip.2.1
  have h3 := h.six
  have := total_le (b := 6) (xss := vss) fun j hj => by have := (h.row j hj).2; omega
  omega
theorem cvjR_len {t f : List Int} {k d : Int} {vss ys : List (List Int)} {b : List Int} {ok : Bool} (h : cvjR t f k vss d b = (ok, ys)) : ys.length ≤ 12 ∧ total ys ≤ 100 := by
  unfold cvjR at h
  split at h
  · rename_i hc
    obtain ⟨kn, rfl, hv⟩ := Volt_of hc.1
    simp only [Prod.mk.injEq] at h
    have := (hv.cj (V := vertL t) (nv := gi (vertL t) d.toNat) (b := b) (Vld_of hc.2.2.1) (by have := hc.2.2.2; omega)).few_total
    rw [h.2] at this
    omega
  · simp only [Prod.mk.injEq] at h
    rw [← h.2]; simp [total]

set_option maxRecDepth 20000 in
set_option maxHeartbeats 3200000 in
theorem lists_any (w : World) (b : Nat) (t f : List Int) (k : Nat) (vss : List (List Int)) (hv : Volt t f k vss) (h : VAt w b t f k vss) :
    Calls Try.prog 73 #[.pointer (some ⟨b, 0, none⟩)] w fun e w' => ∃ v, e = .returned v ∧ OwnSS w' w.heap.size w'.heap.size v vss ∧ Below w.heap.size w w' := by
  obtain ⟨i1, hinf1, hy0, hy1, hy2⟩ := info_parts info_slice
  obtain ⟨n, hn⟩ : ∃ n, f.length = n := ⟨_, rfl⟩
  obtain ⟨h2, hh2⟩ : ∃ h2, n / 2 = h2 := ⟨_, rfl⟩
  obtain ⟨A, c, A', c', lo, g, cg, hvb, hr1, hr2, hal⟩ := h.open_ hn
  have hn12 : n ≤ 12 := by rw [← hn]; exact hv.map.flip.2.1
  have hk1 := hv.one
  have hk6 := hv.six
  have hh6 : h2 ≤ 6 := by omega
  have HLES : Hid ((lesPre f n).length = h2) := by
    rw [Hid, lesPre_len, ← hh2]; have := lesN_half hv.map.flip hv.map.paired; rw [hn] at this; omega
  have HLEN : Hid (vss.length = h2) := by rw [Hid, hv.len, hn, hh2]
  have HNN := Lib.hid hn; have HHH := Lib.hid hh2; have HVO := Lib.hid hv; have HVB := Lib.hid hvb; have H1 := Lib.hid hr1; have H2 := Lib.hid hr2; have HAL := Lib.hid hal
  clear hv h hn hh2 hvb hr1 hr2 hal
  go_enter Try.func73, Try.ntmps73
  go_wp2_with (go_at_call 91; refine (lesserDarts_at b A A' n n c c' f w HVB.out.at_ H2.out HVO.out.map.flip).mono ?_; rintro e w1 ⟨v, rfl, o, bl⟩; obtain ⟨A3, c3, rfl, -, -⟩ := o.form' HLES.out; have HRL := Lib.hid (o.rd HLES.out); have HB1 := Lib.hid bl; have HVB1 := Lib.hid (HVB.out.below bl); have HAL1 := Lib.hid (HAL.out.below bl); clear o bl)
  have hw1 := HB1.out.size
  go_loopw [3, 5, 11] (fun ov _ ev wr => ∃ e : Nat, e ≤ h2 ∧ ev = .int .i64 e ∧ Hid (OwnSS wr w1.heap.size wr.heap.size ov (vss.take e)) ∧ Hid (Below w1.heap.size w1 wr)) (fun _ _ ev _ => h2 - (intOf ev).toNat)
  case atStart => exact ⟨0, Nat.zero_le _, rfl, by rw [List.take_zero]; exact OwnSS.nil_, Below.refl _ _⟩
  case round =>
    obtain ⟨e, he, rfl, ho, hb⟩ := hrel
    have hwr := hb.out.size
    by_cases hlt : e < h2
    · obtain ⟨x1, x2, x3⟩ := lesD_spec HVO.out.map.flip HVO.out.map.paired (e := e) (by rw [HNN.out, HHH.out]; exact hlt)
      obtain ⟨x, hxx⟩ : ∃ x, lesD f e = x := ⟨_, rfl⟩
      rw [hxx] at x1 x2 x3
      have hle := lesPre_at x2 (k := n) (by rw [← HNN.out]; exact x1)
      rw [x3] at hle
      obtain ⟨ad, rfl, hc⟩ := (HRL.out.below hb.out).at_ hlt
      rw [hle] at hc
      have hxn : x < n := by rw [← HNN.out]; exact x1
      have hdx : dV f vss x = vss.getD e [] := by rw [dV_less x2, x3]
      obtain ⟨a, ha⟩ : ∃ a, vss.getD e [] = a := ⟨_, rfl⟩
      rw [ha] at hdx
      have hrow := HVO.out.row e (by rw [HLEN.out]; exact hlt)
      rw [ha] at hrow
      obtain ⟨Ax, cx, hcx0, hrx⟩ := (HAL1.out.below hb.out).at_ hxn (p := a) (by rw [hdx]) hrow.2
      have c3' := (HVB1.out.below hb.out).cell3
      have HTK : Hid (vss.take (e + 1) = vss.take e ++ [a]) := takeR_one (by rw [HLEN.out]; exact hlt) ha
      have HTL : Hid ((vss.take e).length = e) := takeR_len HLEN.out (by omega)
      have HRX := Lib.hid hrx; have HLA := Lib.hid hrow.2
      clear hle hxx x1 x2 x3 hdx ha hrow hrx
      go_wp2_with (first
        | (go_at_call 103; refine (clone_perm Ax k cx a wr HRX.out (by omega) (by omega)).mono ?_; rintro e' w2 ⟨u, rfl, o, b⟩; obtain ⟨Au, cu, rfl, -, -⟩ := o.form' HLA.out; obtain ⟨vs, hop⟩ := (ho.out.below b).opn; have HOP := Lib.hid hop; have HROW := Lib.hid (hop.row HTL.out); have HU := Lib.hid o; have HB2 := Lib.hid b; have hws2 := b.size; clear o b hop)
        | (at_builtin; refine wpList_append_own _ rfl _ _ 25 rfl w1.heap.size 22 i1 (.slice none 0 0) 1 24 Try.underlying25 hinf1 hy0 hy1 hy2 rfl (by decide) _ _ _ rfl (HROW.out.alloc _) ⟨w2.heap.size, 0, none⟩ 1 1 [.slice Au k cu] rfl rfl (cell_one_new _ _ _) (by intro u hu; simp at hu; subst hu; rfl) (by unfold maxLen; omega) (by omega) (by simp; omega) ?_; intro v3 w3 hown3 hgrow3 _; have HO3 := Lib.hid hown3; have HG3 := Lib.hid hgrow3; clear hown3 hgrow3))
      go_roundw
      case rel =>
        have ha := app_row hwr HTL.out HOP.out HB2.out HU.out HO3.out HG3.out
        exact ⟨e + 1, by omega, by go_num, by rw [Hid, HTK.out]; exact ha.1, hb.out.trans ha.2⟩
      case measure => simp [intOf]; omega
    · obtain rfl : e = h2 := by omega
      go_wp2_with fail
      go_ret
      refine ⟨_, rfl, ?_, HB1.out.trans (hb.out.mono hw1)⟩
      have := ho.out.mono hw1
      rwa [List.take_of_length_le (by rw [HLEN.out]; exact Nat.le_refl _)] at this

set_option maxRecDepth 20000 in
set_option maxHeartbeats 3200000 in
theorem impl_cvjR (w : World) (A A' : Option Addr) (n n' c c' : Nat) (t f : List Int) (h : Rd w A n t) (h' : Rd w A' n' f) (hn : n ≤ 1048576) (hn' : n' ≤ 1048576) (k : Int) (B : Option Addr) (m d : Nat) (vss : List (List Int)) (hs : RdSS w B m vss) (hm : m ≤ 1048576) (htot : total vss ≤ 1048576) (x : Int) (E : Option Addr) (ec en : Nat) (bs : List Int) (he : Rd w E en bs) (hen : en ≤ 1048576) {ok : Bool} {ys : List (List Int)} (hR : cvjR t f k vss x bs = (ok, ys)) :
    Calls Try.prog 40 #[.agg #[.slice A n c, .slice A' n' c'], .int .i64 k, .slice B m d, .int .i64 x, .slice E en ec] w fun e w' => ∃ v, e = .returned (.tuple #[v, .bool ok]) ∧ OwnSS w' w.heap.size w'.heap.size v ys ∧ Below w.heap.size w w' := by
  obtain ⟨W0, hW0, hx, hb, hz⟩ := Box.local_ w 29 (.slice A n c) (.slice A' n' c')
  have c0 := hx.cell0
  have c1 := hx.cell1
  have HX := Lib.hid hx; have HB := Lib.hid hb; have H := Lib.hid h; have H' := Lib.hid h'; have HR := Lib.hid hR; have HS := Lib.hid hs; have HE := Lib.hid he; have HEL := Lib.hid he.1
  clear hx hb h h' hR hs hz he
  cases hv : vvB t f k vss with
  | false =>
    have HF : Hid (cvjR t f k vss x bs = (false, [])) := by rw [Hid, cvjR, if_neg (fun h => by rw [hv] at h; exact absurd h.1 (by decide))]
    obtain ⟨rfl, rfl⟩ : ok = false ∧ ys = [] := by have := HR.out; rw [HF.out] at this; simpa [eq_comm] using this
    have HV := Lib.hid hv; clear hv
    go_enter Try.func40, Try.ntmps40
    go_wp2_with (go_at_call 54; refine (voltageOf_any _ A A' n n' c c' t f (H.out.below HB.out) (H'.out.below HB.out) hn hn' k B m d vss (HS.out.below HB.out) hm htot HV.out).mono ?_; rintro e w1 ⟨p, rfl, b, -⟩; have HB1 := Lib.hid (HB.out.trans (b.mono HB.out.size)); clear b c0 c1)
    go_ret2
    exact ⟨_, rfl, OwnSS.nil_, HB1.out⟩
  | true =>
    have HV := Lib.hid hv
    obtain ⟨kn, rfl, hvt⟩ := Volt_of hv
    have hn2 : n' = n := by rw [← H.out.1, ← H'.out.1]; exact hvt.map.len.symm
    subst hn2
    have hn12 : n' ≤ 12 := by rw [← H.out.1]; exact hvt.map.turn.2.1
    cases hd : dartB n' x with
    | false =>
      have HF : Hid (cvjR t f (kn : Int) vss x bs = (false, [])) := by rw [Hid, cvjR, if_neg (fun h => by have := h.2.1; rw [H.out.1, hd] at this; exact absurd this (by decide))]
      obtain ⟨rfl, rfl⟩ : ok = false ∧ ys = [] := by have := HR.out; rw [HF.out] at this; simpa [eq_comm] using this
      have HD := Lib.hid hd; clear hd hv hvt
      go_enter Try.func40, Try.ntmps40
      go_wp2_with (first
        | (go_at_call 54; refine (voltageOf_any _ A A' n' n' c c' t f (H.out.below HB.out) (H'.out.below HB.out) hn hn' (kn : Int) B m d vss (HS.out.below HB.out) hm htot HV.out).mono ?_; rintro e w1 ⟨p, rfl, b, -⟩; have HX1 := Lib.hid (HX.out.below b); have HB1 := Lib.hid (HB.out.trans (b.mono HB.out.size)); clear b c0 c1)
        | (go_at_call 70; refine (hasDart_lit w1 w.heap.size A A' n' n' c c' HX1.out x HD.out).mono ?_; rintro e w2 ⟨rfl, rfl⟩))
      go_ret2
      exact ⟨_, rfl, OwnSS.nil_, HB1.out⟩
    | true =>
      have HD := Lib.hid hd
      obtain ⟨q, hq⟩ : ∃ q, (vld bs && ((en : Int) == (kn : Int))) = q := ⟨_, rfl⟩
      have HQ := Lib.hid hq
      cases q with
      | false =>
        have HF : Hid (cvjR t f (kn : Int) vss x bs = (false, [])) := by
          rw [Hid, cvjR, if_neg (fun h => by
            rw [h.2.2.1, Bool.true_and] at hq
            have := h.2.2.2; rw [HEL.out] at this
            simp [this] at hq)]
        obtain ⟨rfl, rfl⟩ : ok = false ∧ ys = [] := by have := HR.out; rw [HF.out] at this; simpa [eq_comm] using this
        clear hv hq hvt hd
        go_enter Try.func40, Try.ntmps40
        go_wp2_with (first
          | (go_at_call 54; refine (voltageOf_any _ A A' n' n' c c' t f (H.out.below HB.out) (H'.out.below HB.out) hn hn' (kn : Int) B m d vss (HS.out.below HB.out) hm htot HV.out).mono ?_; rintro e w1 ⟨p, rfl, b, -⟩; have HX1 := Lib.hid (HX.out.below b); have HB1 := Lib.hid (HB.out.trans (b.mono HB.out.size)); clear b c0 c1)
          | (go_at_call 70; refine (hasDart_lit w1 w.heap.size A A' n' n' c c' HX1.out x HD.out).mono ?_; rintro e w2 ⟨rfl, rfl⟩)
          | (go_at_call 71; refine (sheetsPerm_any E en ec bs (kn : Int) w1 (HE.out.below HB1.out) hen HQ.out).mono ?_; rintro e w2 ⟨rfl, b⟩; have HB2 := Lib.hid (HB1.out.trans (b.mono HB1.out.size)); clear b))
        go_ret2
        exact ⟨_, rfl, OwnSS.nil_, HB2.out⟩
      | true =>
        obtain ⟨hp, hl⟩ : vld bs = true ∧ (en : Int) = (kn : Int) := by simpa [Bool.and_eq_true] using hq
        obtain rfl : en = kn := by omega
        obtain ⟨hx0, hx1⟩ : 0 ≤ x ∧ x < n' := by simpa [dartB] using hd
        obtain ⟨xn, rfl⟩ : ∃ xn : Nat, x = xn := ⟨x.toNat, by omega⟩
        have hxn : xn < f.length := by rw [H'.out.1]; omega
        obtain ⟨nv, hnv⟩ : ∃ nv, gi (vertL t) xn = nv := ⟨_, rfl⟩
        have HF : Hid (cvjR t f (en : Int) vss (xn : Int) bs = (true, cjL (vertL t) f vss nv bs)) := by rw [Hid, cvjR, if_pos ⟨hv, by rw [H.out.1]; exact hd, hp, by rw [HEL.out]⟩, Int.toNat_natCast, hnv]
        obtain ⟨rfl, rfl⟩ : ok = true ∧ ys = cjL (vertL t) f vss nv bs := by have := HR.out; rw [HF.out] at this; simpa [eq_comm] using this
        have HBS := Lib.hid (Vld_of hp); have HVT := Lib.hid hvt; have HNV := Lib.hid hnv; have HXN := Lib.hid hxn
        have HVJ := Lib.hid (hvt.cj (V := vertL t) (nv := nv) (Vld_of hp) HEL.out)
        clear hv hp hvt hq hl hd hnv hx0 hx1 hxn
        go_enter Try.func40, Try.ntmps40
        go_wp2_with (first
          | (go_at_call 54; refine (voltageOf_any _ A A' n' n' c c' t f (H.out.below HB.out) (H'.out.below HB.out) hn hn' (en : Int) B m d vss (HS.out.below HB.out) hm htot HV.out).mono ?_; rintro e w1 ⟨p, rfl, b, hva⟩; obtain ⟨bv, kn, rfl, hkn, hva⟩ := hva rfl; obtain rfl : en = kn := (by omega); have HVA := Lib.hid hva; have HX1 := Lib.hid (HX.out.below b); have HB1 := Lib.hid (HB.out.trans (b.mono HB.out.size)); clear b c0 c1 hva hkn)
          | (go_at_call 70; refine (hasDart_lit w1 w.heap.size A A' n' n' c c' HX1.out (xn : Int) HD.out).mono ?_; rintro e w2 ⟨rfl, rfl⟩)
          | (go_at_call 71; refine (sheetsPerm_any E en ec bs (en : Int) w1 (HE.out.below HB1.out) hen HQ.out).mono ?_; rintro e w2 ⟨rfl, b⟩; have HB2 := Lib.hid (HB1.out.trans (b.mono HB1.out.size)); have HVA2 := Lib.hid (HVA.out.below b); clear b)
          | (go_at_call 72; refine (renamedAt_any w2 bv t f en vss HVT.out HVA2.out xn HXN.out E ec bs (HE.out.below HB2.out) HBS.out HNV.out).mono ?_; rintro e w3 ⟨b3, rfl, va, b⟩; have HVA3 := Lib.hid va; have HB3 := Lib.hid (HB2.out.trans (b.mono HB2.out.size)); clear va b)
          | (go_at_call 73; refine (lists_any w3 b3 t f en _ HVJ.out HVA3.out).mono ?_; rintro e w4 ⟨v, rfl, o, b⟩; have HO4 := Lib.hid o; have HB4 := Lib.hid (HB3.out.trans (b.mono HB3.out.size)); clear o b))
        go_ret2
        exact ⟨_, rfl, HO4.out.mono HB3.out.size, HB4.out⟩

end Go.Proofs.Ythcdhkelpepeeaa
