/-
  EdgeKind: the model's and the program's. Without one edge a map has one part or two.
-/
import Derived.Test.YtcenffndclpjoaaVtx
import Derived.Test.YtcenffndclpjoaaRibC
import Derived.Test.YtcenffndclpjoaaL7D
import Derived.Deep.RegionHeld3
import Derived.Deep.RegionWith
namespace Go.Proofs.Ytcenffndclpjoaa
open Go.RowKit

/-! ### Plain -/
theorem fixN_sm (xs : List Int) : ∀ k, fixN xs k = sm k fun i => ch (gi xs i = (i : Int))
  | 0 => rfl
  | k + 1 => by
    rw [fixN, sm, fixN_sm xs k]
    by_cases h : gi xs k = (k : Int)
    · rw [if_pos h, ch_true h]
    · rw [if_neg h, ch_false h]
theorem sm_at_most {n a : Nat} : sm n (fun i => ch (i = a)) ≤ 1 := by
  by_cases h : a < n
  · rw [sm_one n h (fun k _ hne => ch_false hne)]; exact ch_le _
  · rw [sm_congr (G := fun _ => 0) n (fun i hi => ch_false (by omega)), sm_zero]; omega
theorem parts_two {t f : List Int} (hm : IsMap t f) {d s : Nat} (hd : d < f.length) (hs : ∀ y, y < f.length → chB f s y = false → edgN f y = edgN f d) : ptsN t f s = 1 ∨ ptsN t f s = 2 := by
  have hl := hm.len
  have hq := flipS_vld hm.flip hm.paired s
  have hql : t.length = (flipS f s).length := by rw [flipS_len, hl]
  have key : ∀ y, Lead t f d y → Lead t (flipS f s) d y ∨ Lead t (flipS f s) (gn f d) y := by
    intro y h
    have hlt : ∀ {y}, Lead t f d y → y < f.length := fun h => by rw [← hl]; exact h.lt hm.turn hm.flip hl (by rw [hl]; exact hd)
    induction h with
    | refl => exact .inl (.refl _)
    | one h' ih =>
      rcases ih with ih | ih
      · exact .inl (.one ih)
      · exact .inr (.one ih)
    | two h' ih =>
      rename_i u
      have hu := hlt h'
      cases hc : chB f s u with
      | true =>
        have e : gn (flipS f s) u = gn f u := by rw [gn_flipS hu, if_pos hc]
        rw [← e]
        rcases ih with ih | ih
        · exact .inl (.two ih)
        · exact .inr (.two ih)
      | false =>
        rcases edgN_inj hm.flip hm.paired hd hu (hs u hu hc).symm with h | h
        · rw [h]; exact .inr (.refl _)
        · rw [h, (hm.paired d hd).2]; exact .inl (.refl _)
  have hdt : d < t.length := by rw [hl]; exact hd
  have hfd : gn f d < t.length := by rw [hl]; exact hm.flip.gn_lt hd
  have horb : ∀ y, y < t.length → orb t (flipS f s) y = orb t (flipS f s) d ∨ orb t (flipS f s) y = orb t (flipS f s) (gn f d) := by
    intro y hy
    rcases key y (hm.lead hdt hy) with h | h
    · exact .inl (orb_eq hm.turn hq hql h hdt)
    · exact .inr (orb_eq hm.turn hq hql h hfd)
  have h1 : ptsN t f s = sm t.length fun i => ch (orb t (flipS f s) i = i) := by
    rw [ptsN, fixN_sm]
    refine sm_congr _ fun i hi => ch_congr ?_
    rw [gi_orbL hi]
    exact ⟨fun h => by omega, fun h => by omega⟩
  have h2 : ptsN t f s ≤ 2 := by
    rw [h1]
    refine Nat.le_trans (sm_le (G := fun i => ch (i = orb t (flipS f s) d) + ch (i = orb t (flipS f s) (gn f d))) _ fun i hi => ?_) ?_
    · by_cases h : orb t (flipS f s) i = i
      · rw [ch_true h]
        rcases horb i hi with h' | h'
        · rw [ch_true (h.symm.trans h')]; omega
        · rw [ch_true (P := i = orb t (flipS f s) (gn f d)) (h.symm.trans h')]; omega
      · rw [ch_false h]; omega
    · rw [sm_add]
      have a1 := sm_at_most (n := t.length) (a := orb t (flipS f s) d)
      have a2 := sm_at_most (n := t.length) (a := orb t (flipS f s) (gn f d))
      omega
  have h3 : 1 ≤ ptsN t f s := by
    rw [h1]
    have hlt : orb t (flipS f s) d < t.length := Nat.lt_of_le_of_lt orb_le hdt
    have := sm_le (F := fun i => ch (i = orb t (flipS f s) d)) (G := fun i => ch (orb t (flipS f s) i = i)) t.length (fun i _ => by
      by_cases h : i = orb t (flipS f s) d
      · rw [ch_true h, ch_true]
        · exact Nat.le_refl _
        · rw [h]; exact orb_orb hm.turn hq hql hdt
      · rw [ch_false h]; omega)
    rw [sm_one t.length hlt (fun k _ hne => ch_false hne), ch_true rfl] at this
    exact this
  omega
/-- The lesser dart of an edge. -/
def dE (f : List Int) (e : Nat) : Nat := gn (lesPre f f.length) e
theorem dE_of {f : List Int} (hf : Vld f) (hp : Paired f) {e : Nat} (he : e < f.length / 2) : dE f e < f.length ∧ dE f e < gn f (dE f e) ∧ lesN f (dE f e) = e ∧ gi (lesPre f f.length) e = (dE f e : Int) := by
  have hh : lesN f f.length = f.length / 2 := by have := lesN_half hf hp; omega
  obtain ⟨d, h1, h2, h3⟩ := lesPre_find (f := f) (k := f.length) (e := e) (by rw [hh]; exact he)
  have := lesPre_at h2 h1
  rw [h3] at this
  have e1 : dE f e = d := gn_of this
  rw [e1]
  exact ⟨h1, h2, h3, this⟩
/-- All edges but one. -/
def butE (h e : Nat) : Nat := 2 ^ h - 1 - 2 ^ e
theorem but_in : ∀ h : Nat, h < 7 → ∀ e : Nat, e < h → butE h e < 2 ^ h ∧ butE h e < 64 ∧ bL (2 ^ e) = [(e : Int)] ∧ 2 ^ e < 2 ^ h ∧ (∀ j : Nat, j < 7 → (butE h e).testBit j = (decide (j < h) && decide (j ≠ e))) ∧ bits BinOp.andNot IntKind.u64 ((2 ^ h - 1 : Nat) : Int) (IntKind.u64.wrap (2 ^ min e 64)) = (butE h e : Int) := by decide +kernel
theorem rest_one {h e : Nat} (hh : h < 7) (he : e < h) : restP [(e : Int)] h = bL (butE h e) := by
  obtain ⟨b1, b2, b3, b4, -, -⟩ := but_in h hh e he
  have h64 : 2 ^ e < 64 := lt_of_pow b4 (by omega)
  rw [← b3, rest_bits h64 h (by omega), ← (rest_in h hh _ h64 b4).2.1]; rfl
theorem but_parts {t f : List Int} (hm : IsMap t f) {e : Nat} (he : e < f.length / 2) : ptsN t f (butE (f.length / 2) e) = 1 ∨ ptsN t f (butE (f.length / 2) e) = 2 := by
  obtain ⟨d1, d2, d3, -⟩ := dE_of hm.flip hm.paired he
  have h12 := hm.flip.2.1
  have hh : lesN f f.length = f.length / 2 := by have := lesN_half hm.flip hm.paired; omega
  refine parts_two hm d1 fun y hy hc => ?_
  rw [edgN_less d2, d3]
  have hlt := edgN_lt hm.flip hm.paired hy
  rw [hh] at hlt
  unfold chB at hc
  rw [(but_in (f.length / 2) (by omega) e he).2.2.2.2.1 _ (by omega)] at hc
  by_cases h : edgN f y = e
  · exact h
  · simp [hlt, h] at hc
noncomputable def kindE (t f : List Int) (e : Nat) : Int := if vertN t (dE f e) = vertN t (gn f (dE f e)) then 2 else (ptsN t f (butE (f.length / 2) e) : Int) - 1
noncomputable def kdR (t f : List Int) (x : Int) : Int := if mapV t f = true ∧ hasEB (f.length / 2) x = true then kindE t f x.toNat else -1
theorem chV_one {t f : List Int} (hm : IsMap t f) {e : Nat} (he : e < f.length / 2) : chV t f [(e : Int)] = true := by
  rw [chV, mapV_iff.2 hm, ascB_true, Bool.true_and]
  intro i hi
  have : i = 0 := by simp at hi; omega
  subst this
  exact inB_true (by show (-1 : Int) + 1 ≤ gi [(e : Int)] 0; simp [gi]) (by show gi [(e : Int)] 0 ≤ _; simp [gi]; omega)
theorem vertN_le {t : List Int} (ht : Vld t) {d : Nat} (hd : d < t.length) : vertN t d ≤ 12 := by
  obtain ⟨h1, h2, h3⟩ := cyclesL_spec ht
  obtain ⟨c, hc, hcd⟩ := h2 d hd
  obtain ⟨j, hj, rfl⟩ := List.getElem_of_mem hc
  have hgd : (cyclesL t).getD j [] = (cyclesL t)[j] := by simp [List.getD, hj]
  obtain ⟨⟨k1, _⟩, _⟩ := leastOf_spec (p := fun j => j < (cyclesL t).length ∧ inC ((cyclesL t).getD j []) d) ⟨j, hj, by rw [hgd]; exact hcd⟩
  have := cyclesL_len (p := t)
  have := ht.2.1
  unfold vertN
  omega

set_option maxRecDepth 20000 in
set_option maxHeartbeats 3200000 in
theorem spec_kdR (w : World) (A A' : Option Addr) (n n' c c' : Nat) (t f : List Int) (h : Rd w A n t) (h' : Rd w A' n' f) (hn : n ≤ 1048576) (hn' : n' ≤ 1048576) (x : Int) (_hw : (Lit.int .i64 x).wf = true) {r : Int} (hR : kdR t f x = r) :
    Calls Try.prog 26 #[.agg #[.slice A n c, .slice A' n' c'], .int .i64 x] w fun e w' => e = .returned (.int .i64 r) ∧ Below w.heap.size w w' := by
  obtain ⟨W0, hW0, hx, hb, -⟩ := Box.local_ w 25 (.slice A n c) (.slice A' n' c')
  have c0 := hx.cell0
  have c1 := hx.cell1
  have HX := Lib.hid hx; have HB := Lib.hid hb; have H := Lib.hid h; have H' := Lib.hid h'; clear hx hb h h'
  by_cases hv : mapV t f = true
  · have hm := mapV_iff.1 hv
    obtain rfl : n = n' := hm.same H.out.1 H'.out.1
    have hn12 : n ≤ 12 := by rw [← H'.out.1]; exact hm.flip.2.1
    obtain ⟨h2, hh2⟩ : ∃ h2, n / 2 = h2 := ⟨_, rfl⟩
    have h26 : h2 ≤ 6 := by omega
    have g2 : (n : Int) / 2 = (h2 : Int) := by omega
    have HV := Lib.hid hv; have HM := Lib.hid hm
    have HLE : Hid (f.length / 2 = h2) := by rw [Hid, H'.out.1, hh2]
    by_cases hin : 0 ≤ x ∧ x ≤ (h2 : Int) - 1
    · obtain ⟨e, rfl⟩ := Int.eq_ofNat_of_zero_le hin.1
      have he : e < h2 := by omega
      obtain ⟨d1, d2, d3, d4⟩ := dE_of hm.flip hm.paired (e := e) (by rw [HLE.out]; exact he)
      rw [H'.out.1] at d1
      obtain ⟨d, hd⟩ : ∃ d, dE f e = d := ⟨_, rfl⟩
      rw [hd] at d1 d2 d3
      have hbe := inB_true hin.1 hin.2
      have HBE := Lib.hid hbe
      have hRK : kindE t f e = r := by rw [← hR, kdR, if_pos ⟨hv, by rw [HLE.out]; exact hbe⟩, Int.toNat_natCast]
      obtain ⟨z, hz⟩ : ∃ z, gn f d = z := ⟨_, rfl⟩
      have hzn : z < n := by rw [← hz, ← H'.out.1]; exact hm.flip.gn_lt (by rw [H'.out.1]; exact d1)
      obtain ⟨vd, hvd⟩ : ∃ vd, vertN t d = vd := ⟨_, rfl⟩
      obtain ⟨vz, hvz⟩ : ∃ vz, vertN t z = vz := ⟨_, rfl⟩
      have HRK : Hid ((if vd = vz then 2 else (ptsN t f (butE h2 e) : Int) - 1) = r) := by
        rw [Hid, ← hRK, kindE, hd, hz, hvd, hvz, HLE.out]
      have HD2 := Lib.hid d2; have HD3 := Lib.hid d3; have HVD := Lib.hid hvd; have HVZ := Lib.hid hvz; have HZ := Lib.hid hz
      clear hv hm hR hh2 hin hbe d2 d3 d4 hd hRK hvd hvz hz
      go_enter Try.func26, Try.ntmps26
      go_wp2_with fail
      refine (spec_mapV W0 A A' n n c c' t f (H.out.below HB.out) (H'.out.below HB.out) hn hn' HV.out).mono ?_
      rintro e' w1 ⟨rfl, b⟩
      have hx1 := HX.out.below b
      have e0 := hx1.cell0
      have e1 := hx1.cell1
      have HB1 := Lib.hid (HB.out.trans (b.mono HB.out.size)); have HX1 := Lib.hid hx1
      clear b c0 c1 hx1
      go_wp2_with fail
      refine (in_any (e : Int) 0 ((h2 : Int) - 1) w1).mono ?_
      rintro e' w2 ⟨rfl, rfl⟩
      rw [HBE.out]
      go_wp2_with fail
      refine (l7Dart_any A A' n n c c' e d f w1 (H'.out.below HB1.out) HM.out.flip HM.out.paired d1 HD2.out HD3.out).mono ?_
      rintro e' w2 ⟨rfl, b⟩
      have hx2 := HX1.out.below b
      have c0 := hx2.cell0
      have HB2 := Lib.hid (HB1.out.trans (b.mono HB1.out.size)); have HX2 := Lib.hid hx2
      clear b e0 e1 hx2
      go_wp2_with fail
      refine (l7Vertices_any A n c t w2 (H.out.below HB2.out) HM.out.turn).mono ?_
      rintro e' w3 ⟨v, rfl, o, b⟩
      obtain ⟨A5, c5, rfl, -, -⟩ := o.form' ((vertL_len t).trans H.out.1)
      have hrv := o.rd ((vertL_len t).trans H.out.1)
      obtain ⟨adv, rfl, hcd⟩ := hrv.at_ d1
      obtain ⟨adv', ev, hcz⟩ := hrv.at_ hzn
      simp only [Option.some.injEq] at ev
      subst ev
      rw [vertL, gi_tab (by rw [H.out.1]; exact d1), HVD.out] at hcd
      rw [vertL, gi_tab (by rw [H.out.1]; exact hzn), HVZ.out] at hcz
      have hx3 := HX2.out.below b
      have e0 := hx3.cell0
      have e1 := hx3.cell1
      have HB3 := Lib.hid (HB2.out.trans (b.mono HB2.out.size)); have HX3 := Lib.hid hx3
      obtain ⟨adf, rfl, hcf⟩ := (H'.out.below HB3.out).at_ d1
      rw [HM.out.flip.gi_gn (by rw [H'.out.1]; exact d1), HZ.out] at hcf
      have hd0 : (0 : Int) ≤ (d : Int) := by omega
      have hdI : (d : Int) < (n : Int) := by omega
      have hz0 : (0 : Int) ≤ (z : Int) := by omega
      have hzI : (z : Int) < (n : Int) := by omega
      clear o b c0 hrv hx3
      by_cases hvv : vd = vz
      · have hb : ((vd : Int) == (vz : Int)) = true := by simp [hvv]
        have HR2 : Hid (r = 2) := by have := HRK.out; rw [if_pos hvv] at this; exact this.symm
        clear hvv
        go_wp2_with fail
        go_quiet (fail)
        go_wp2_with fail
        go_ret
        exact ⟨by rw [HR2.out]; rfl, below_drewN HB3.out _⟩
      · have hb : ((vd : Int) == (vz : Int)) = false := by simp; omega
        have HR2 : Hid ((ptsN t f (butE h2 e) : Int) - 1 = r) := by have := HRK.out; rwa [if_neg hvv] at this
        clear hvv
        go_wp2_with fail
        go_quiet (fail)
        clear hd0 hdI hz0 hzI hcd hcz hcf hb
        go_wp2_with fail
        have HBA : Hid (Below w.heap.size w ((w3.drewN nq).alloc (.cells #[.int .i64 (e : Int)] 3))) := (below_drewN HB3.out nq).alloc (below_drewN HB3.out nq).size _
        have HRE : Hid (Rd ((w3.drewN nq).alloc (.cells #[.int .i64 (e : Int)] 3)) (some ⟨w3.heap.size, 0, none⟩) 1 [(e : Int)]) := ⟨rfl, fun _ => ⟨_, rfl, fun j hj => by
          obtain rfl : j = 0 := by omega
          exact cell_one_new (w3.drewN nq) _ _ 0 _ rfl⟩⟩
        have HBX : Hid (Below w3.heap.size w3 ((w3.drewN nq).alloc (.cells #[.int .i64 (e : Int)] 3))) := (below_drewN (Below.refl _ _) nq).alloc (Nat.le_refl _) _
        have HCR : Hid (chRestR t f [(e : Int)] = (true, bL (butE h2 e))) := by
          rw [Hid, chRestR, chV_one HM.out (by rw [HLE.out]; exact he), HLE.out, chRestR', if_pos rfl, rest_one (by omega) he]
        obtain ⟨b1, b2, -⟩ := but_in h2 (by omega) e he
        obtain ⟨s, hs⟩ : ∃ s, butE h2 e = s := ⟨_, rfl⟩
        rw [hs] at HCR b1 b2
        have HS := Lib.hid hs
        clear hs
        refine (spec_chRestR _ A (some adf) n n c c' t f (H.out.below HBA.out) (H'.out.below HBA.out) hn hn' _ 1 1 [(e : Int)] HRE.out (by omega) HCR.out).mono ?_
        rintro e' w4 ⟨v, rfl, o, b⟩
        obtain ⟨l, hl⟩ : ∃ l, (bL s).length = l := ⟨_, rfl⟩
        obtain ⟨A6, c6, rfl, -, -⟩ := o.form' hl
        have HRR := Lib.hid (o.rd hl)
        have hx4 := HX3.out.below (HBX.out.trans (b.mono HBX.out.size))
        have k0 := hx4.cell0
        have k1 := hx4.cell1
        have HB4 := Lib.hid (HBA.out.trans (b.mono HBA.out.size))
        clear o b hl hx4 e0 e1
        go_wp2_with fail
        refine (l7Parts_any A (some adf) n c c' s _ t f w4 (H.out.below HB4.out) (H'.out.below HB4.out) HM.out A6 c6 l (bL s) HRR.out b2 rfl rfl).mono ?_
        rintro e' w5 ⟨rfl, b⟩
        have HB5 := Lib.hid (HB4.out.trans (b.mono HB4.out.size)); clear b
        obtain ⟨p, hp⟩ : ∃ p, ptsN t f s = p := ⟨_, rfl⟩
        have hp12 : p ≤ 12 := by rw [← hp]; have := fixN_le (orbL t (flipS f s)) t.length; have := HM.out.turn.2.1; unfold ptsN; omega
        rw [hp]
        have HE : Hid ((p : Int) - 1 = r) := by rw [Hid, ← hp, ← HS.out]; exact HR2.out
        clear hp
        go_wp2_with fail
        go_ret
        exact ⟨ret_int HE.out, HB5.out⟩
    · have hbe := inB_false hin
      have HBE := Lib.hid hbe
      obtain rfl : r = -1 := by rw [← hR, kdR, if_neg (fun h => by rw [HLE.out] at h; rw [show hasEB h2 x = false from hbe] at h; exact absurd h.2 (by decide))]
      clear hv hm hR hh2 hin hbe
      go_enter Try.func26, Try.ntmps26
      go_wp2_with fail
      refine (spec_mapV W0 A A' n n c c' t f (H.out.below HB.out) (H'.out.below HB.out) hn hn' HV.out).mono ?_
      rintro e' w1 ⟨rfl, b⟩
      have hx1 := HX.out.below b
      have e0 := hx1.cell0
      have e1 := hx1.cell1
      have HB1 := Lib.hid (HB.out.trans (b.mono HB.out.size))
      clear b c0 c1 hx1
      go_wp2_with fail
      refine (in_any x 0 ((h2 : Int) - 1) w1).mono ?_
      rintro e' w2 ⟨rfl, rfl⟩
      rw [HBE.out]
      go_wp2_with fail
      go_ret
      exact ⟨rfl, HB1.out⟩
  · have hv' : mapV t f = false := by simpa using hv
    obtain rfl : r = -1 := by rw [← hR, kdR, if_neg (fun h => hv h.1)]
    have HV := Lib.hid hv'; clear hR hv hv'
    go_enter Try.func26, Try.ntmps26
    go_wp2_with fail
    refine (spec_mapV W0 A A' n n' c c' t f (H.out.below HB.out) (H'.out.below HB.out) hn hn' HV.out).mono ?_
    rintro e' w1 ⟨rfl, b⟩
    have HB1 := Lib.hid (HB.out.trans (b.mono HB.out.size)); clear b
    go_wp2_with fail
    go_ret
    exact ⟨rfl, HB1.out⟩

/-! ### The program's -/
set_option maxRecDepth 20000 in
set_option maxHeartbeats 3200000 in
theorem impl_kdR (w : World) (A A' : Option Addr) (n n' c c' : Nat) (t f : List Int) (h : Rd w A n t) (h' : Rd w A' n' f) (hn : n ≤ 1048576) (hn' : n' ≤ 1048576) (x : Int) (_hw : (Lit.int .i64 x).wf = true) {r : Int} (hR : kdR t f x = r) :
    Calls Try.prog 25 #[.agg #[.slice A n c, .slice A' n' c'], .int .i64 x] w fun e w' => e = .returned (.int .i64 r) ∧ Below w.heap.size w w' := by
  obtain ⟨W0, hW0, hx, hb, -⟩ := Box.local_ w 25 (.slice A n c) (.slice A' n' c')
  have HX := Lib.hid hx; have HB := Lib.hid hb; have H := Lib.hid h; have H' := Lib.hid h'; clear hx hb h h'
  by_cases hv : mapV t f = true
  · have hm := mapV_iff.1 hv
    obtain rfl : n = n' := hm.same H.out.1 H'.out.1
    have hn12 : n ≤ 12 := by rw [← H'.out.1]; exact hm.flip.2.1
    obtain ⟨h2, hh2⟩ : ∃ h2, n / 2 = h2 := ⟨_, rfl⟩
    have h26 : h2 ≤ 6 := by omega
    have HH := Lib.hid hh2
    have HV := Lib.hid hv; have HM := Lib.hid hm
    have HLE : Hid (f.length / 2 = h2) := by rw [Hid, H'.out.1, hh2]
    have HLN : Hid (lesN f n = h2) := by have := lesN_half hm.flip hm.paired; rw [H'.out.1] at this; rw [Hid]; omega
    by_cases hin : 0 ≤ x ∧ x ≤ (h2 : Int) - 1
    · obtain ⟨e, rfl⟩ := Int.eq_ofNat_of_zero_le hin.1
      have he : e < h2 := by omega
      obtain ⟨d1, d2, d3, d4⟩ := dE_of hm.flip hm.paired (e := e) (by rw [HLE.out]; exact he)
      rw [H'.out.1] at d1 d4
      obtain ⟨d, hd⟩ : ∃ d, dE f e = d := ⟨_, rfl⟩
      rw [hd] at d1 d2 d3 d4
      have hbe := inB_true hin.1 hin.2
      have HBE := Lib.hid hbe
      have hRK : kindE t f e = r := by rw [← hR, kdR, if_pos ⟨hv, by rw [HLE.out]; exact hbe⟩, Int.toNat_natCast]
      obtain ⟨z, hz⟩ : ∃ z, gn f d = z := ⟨_, rfl⟩
      have hzn : z < n := by rw [← hz, ← H'.out.1]; exact hm.flip.gn_lt (by rw [H'.out.1]; exact d1)
      obtain ⟨vd, hvd⟩ : ∃ vd, vertN t d = vd := ⟨_, rfl⟩
      obtain ⟨vz, hvz⟩ : ∃ vz, vertN t z = vz := ⟨_, rfl⟩
      have HRK : Hid ((if vd = vz then 2 else (ptsN t f (butE h2 e) : Int) - 1) = r) := by
        rw [Hid, ← hRK, kindE, hd, hz, hvd, hvz, HLE.out]
      have HD4 := Lib.hid d4; have HVD := Lib.hid hvd; have HVZ := Lib.hid hvz; have HZ := Lib.hid hz
      clear hv hm hR hh2 hin hbe d2 d3 d4 hd hRK hvd hvz hz
      go_enter Try.func25, Try.ntmps25
      go_wp2_with fail
      refine (valid_lit w.heap.size A A' n n c c' t f W0 HX.out (H.out.below HB.out) (H'.out.below HB.out) hn hn' HV.out).mono ?_
      rintro e' w1 ⟨rfl, b⟩
      have HX1 := Lib.hid (HX.out.below b)
      have HB1 := Lib.hid (HB.out.trans (b.mono HB.out.size)); clear b
      go_wp2_with fail
      refine (hasEdge_any w.heap.size A A' n n c c' h2 (e : Int) w1 HX1.out (by omega) HH.out HBE.out).mono ?_
      rintro e' w2 ⟨rfl, rfl⟩
      go_wp2_with fail
      have he0 : (0 : Int) ≤ (e : Int) := by omega
      have heI : (e : Int) < (h2 : Int) := by omega
      have HXD : Hid (Box2 w1.drew w.heap.size A n c A' n c') := HX1.out
      have HRT : Hid (Rd w1.drew A n t) := (H.out.below HB1.out).drew
      have HRF : Hid (Rd w1.drew A' n f) := (H'.out.below HB1.out).drew
      have HBD : Hid (Below w.heap.size w w1.drew) := ⟨HB1.out.os, HB1.out.tape, HB1.out.output, HB1.out.size, HB1.out.block⟩
      go_region_with (first
        | (have hchk := HLL.out; clear hchk; go_at_call 48; refine (vertexNumbers_any w.heap.size A A' n n c c' t w3 HX3.out (H.out.below HB3.out) HM.out.turn).mono ?_; rintro e' w4 ⟨v, rfl, o, bl⟩; obtain ⟨A5, c5, rfl, -, -⟩ := o.form' ((vertL_len t).trans H.out.1); have HRV := Lib.hid (o.rd ((vertL_len t).trans H.out.1)); have cl4 := (bl.cell (World.block_lt_of_cell? _ _ HCL.out)).trans HCL.out; have HB4 := Lib.hid (HB3.out.trans (bl.mono HB3.out.size)); have HX4 := Lib.hid (HX3.out.below bl); clear o bl)
        | (have hchk := HVF.out; clear hchk; go_at_call 49; refine (lesserDarts_any w.heap.size A A' n n c c' f w3 HX3.out (H'.out.below HB3.out) HM.out.flip).mono ?_; rintro e' w4 ⟨v, rfl, o, bl⟩; obtain ⟨A6, c6, rfl, -, -⟩ := o.form' ((lesPre_len f n).trans HLN.out); obtain ⟨adl, rfl, cl4⟩ := (o.rd ((lesPre_len f n).trans HLN.out)).at_ he; rw [HD4.out] at cl4; have HRV := Lib.hid (HVF.out.below bl); have HB4 := Lib.hid (HB3.out.trans (bl.mono HB3.out.size)); have HX4 := Lib.hid (HX3.out.below bl); clear o bl)
        | (go_at_call 48; refine (vertexNumbers_any w.heap.size A A' n n c c' t w1.drew HXD.out HRT.out HM.out.turn).mono ?_; rintro e' w3 ⟨v, rfl, o, bl⟩; obtain ⟨A5, c5, rfl, -, -⟩ := o.form' ((vertL_len t).trans H.out.1); have HVF := Lib.hid (o.rd ((vertL_len t).trans H.out.1)); have HB3 := Lib.hid (HBD.out.trans (bl.mono HBD.out.size)); have HX3 := Lib.hid (HXD.out.below bl); clear o bl)
        | (go_at_call 49; refine (lesserDarts_any w.heap.size A A' n n c c' f w1.drew HXD.out HRF.out HM.out.flip).mono ?_; rintro e' w3 ⟨v, rfl, o, bl⟩; obtain ⟨A6, c6, rfl, -, -⟩ := o.form' ((lesPre_len f n).trans HLN.out); obtain ⟨adl, rfl, cl3⟩ := (o.rd ((lesPre_len f n).trans HLN.out)).at_ he; rw [HD4.out] at cl3; have HCL := Lib.hid cl3; have HLL := Lib.hid o; have HB3 := Lib.hid (HBD.out.trans (bl.mono HBD.out.size)); have HX3 := Lib.hid (HXD.out.below bl); clear o bl)
        | fail)
      all_goals
        clear cl4
        try clear cl3
        obtain ⟨adv, rfl, hcd⟩ := HRV.out.at_ d1
        obtain ⟨adv', ev, hcz⟩ := HRV.out.at_ hzn
        simp only [Option.some.injEq] at ev
        subst ev
        rw [vertL, gi_tab (by rw [H.out.1]; exact d1), HVD.out] at hcd
        rw [vertL, gi_tab (by rw [H.out.1]; exact hzn), HVZ.out] at hcz
        have k0 := HX4.out.cell0
        have k1 := HX4.out.cell1
        obtain ⟨adf, hAf, hcf⟩ := (H'.out.below HB4.out).at_ d1
        rw [HM.out.flip.gi_gn (by rw [H'.out.1]; exact d1), HZ.out] at hcf
        have HAF := Lib.hid hAf
        rw [hAf] at k1
        have hd0 : (0 : Int) ≤ (d : Int) := by omega
        have hdI : (d : Int) < (n : Int) := by omega
        have hz0 : (0 : Int) ≤ (z : Int) := by omega
        have hzI : (z : Int) < (n : Int) := by omega
        clear he0 heI hAf
        by_cases hvv : vd = vz
        · have hb : ((vd : Int) == (vz : Int)) = true := by simp [hvv]
          have HR2 : Hid (r = 2) := by have := HRK.out; rw [if_pos hvv] at this; exact this.symm
          clear hvv
          go_wp2_with fail
          go_quiet (fail)
          go_wp2_with fail
          go_ret
          exact ⟨by rw [HR2.out]; rfl, below_drewN HB4.out _⟩
        · have hb : ((vd : Int) == (vz : Int)) = false := by simp; omega
          have HR2 : Hid ((ptsN t f (butE h2 e) : Int) - 1 = r) := by have := HRK.out; rwa [if_neg hvv] at this
          have HP2 : Hid (ptsN t f (butE h2 e) = 1 ∨ ptsN t f (butE h2 e) = 2) := by have := but_parts HM.out (e := e) (by rw [HLE.out]; exact he); rwa [HLE.out] at this
          clear hvv
          go_wp2_with fail
          go_quiet (fail)
          clear hd0 hdI hz0 hzI hcd hcz hcf hb k0 k1
          obtain ⟨W5, hW5⟩ : ∃ W5, w4.drewN nq = W5 := ⟨_, rfl⟩
          rw [hW5]
          have HX5 : Hid (Box2 W5 w.heap.size A n c A' n c') := by rw [← hW5]; exact HX4.out
          have HB5 : Hid (Below w.heap.size w W5) := by rw [← hW5]; exact below_drewN HB4.out _
          clear hW5
          have HXW : Hid (Box2 W5.drew w.heap.size A n c A' n c') := HX5.out
          have HTW : Hid (Rd W5.drew A n t) := (H.out.below HB5.out).drew
          have HFW : Hid (Rd W5.drew A' n f) := (H'.out.below HB5.out).drew
          obtain ⟨b1, b2, -, -, -, b6⟩ := but_in h2 (by omega) e he
          obtain ⟨s, hs⟩ : ∃ s, butE h2 e = s := ⟨_, rfl⟩
          obtain ⟨al, hal⟩ : ∃ al : Nat, 2 ^ h2 - 1 = al := ⟨_, rfl⟩
          rw [hs] at b1 b2 b6 HR2 HP2
          rw [hal, Nat.min_eq_left (show e ≤ 64 by omega)] at b6
          obtain ⟨x0, x1, x2, x3, x4, h5⟩ := subL_five t f s
          have hx0 : x0 = (ptsN t f s : Int) := by simp only [subL, subI, List.cons.injEq] at h5; exact h5.1.symm
          have HX0 := Lib.hid hx0; have H5 := Lib.hid h5; have HS := Lib.hid hs; have HAL := Lib.hid hal
          clear hx0 h5 hs hal
          have he0 : (0 : Int) ≤ (e : Int) := by omega
          have hfd : ∀ w : World, (Instr.field 51 (.agg #[.int .i64 x0, .int .i64 x1, .int .i64 x2, .int .i64 x3, .int .i64 x4]) 0).run Try.prog w = .ok (.int .i64 x0) w := fun _ => by kernel_rfl
          rcases HP2.out with hp | hp
          · have hb : (x0 == 2) = false := by rw [HX0.out, hp]; rfl
            have HR3 : Hid (r = 0) := by rw [Hid, ← HR2.out, hp]; rfl
            clear hp
            have k0 := HX5.out.cell0
            go_wp2_with fail
            go_region_held3 (fun w' => w'.cell? ⟨w.heap.size, 0, none⟩ = some (.slice A n c)) (first | go_keep | exact (HX5.out.below BL.out).cell0 | exact HX5.out.cell0) (first
              | (go_at_call 50; (with_reducible refine (allEdges_any w.heap.size A A' n n c c' h2 W5.drew HXW.out hn12 HH.out).mono ?_); rintro e' w7 ⟨rfl, rfl⟩; rw [HAL.out])
              | (go_at_call 31; (with_reducible refine (subgraph_lit w.heap.size A A' n c c' s t f W5.drew HXW.out HTW.out HFW.out HM.out b2 H5.out).mono ?_); rintro e' w6 ⟨rfl, bl⟩; have BL : Hid (Below W5.heap.size W5 w6) := ⟨bl.os, bl.tape, bl.output, bl.size, bl.block⟩; clear bl))
            go_wp2
            go_ret
            exact ⟨by rw [HR3.out]; rfl, HB5.out.trans (BL.out.mono HB5.out.size)⟩
          · have hb : (x0 == 2) = true := by rw [HX0.out, hp]; rfl
            have HR3 : Hid (r = 1) := by rw [Hid, ← HR2.out, hp]; rfl
            clear hp
            have k0 := HX5.out.cell0
            go_wp2_with fail
            go_region_held3 (fun w' => w'.cell? ⟨w.heap.size, 0, none⟩ = some (.slice A n c)) (first | go_keep | exact (HX5.out.below BL.out).cell0 | exact HX5.out.cell0) (first
              | (go_at_call 50; (with_reducible refine (allEdges_any w.heap.size A A' n n c c' h2 W5.drew HXW.out hn12 HH.out).mono ?_); rintro e' w7 ⟨rfl, rfl⟩; rw [HAL.out])
              | (go_at_call 31; (with_reducible refine (subgraph_lit w.heap.size A A' n c c' s t f W5.drew HXW.out HTW.out HFW.out HM.out b2 H5.out).mono ?_); rintro e' w6 ⟨rfl, bl⟩; have BL : Hid (Below W5.heap.size W5 w6) := ⟨bl.os, bl.tape, bl.output, bl.size, bl.block⟩; clear bl))
            go_wp2
            go_ret
            exact ⟨by rw [HR3.out]; rfl, HB5.out.trans (BL.out.mono HB5.out.size)⟩
    · have hbe := inB_false hin
      have HBE : Hid (hasEB h2 x = false) := hbe
      obtain rfl : r = -1 := by rw [← hR, kdR, if_neg (fun h => by rw [HLE.out] at h; rw [HBE.out] at h; exact absurd h.2 (by decide))]
      clear hv hm hR hh2 hin hbe
      go_enter Try.func25, Try.ntmps25
      go_wp2_with fail
      refine (valid_lit w.heap.size A A' n n c c' t f W0 HX.out (H.out.below HB.out) (H'.out.below HB.out) hn hn' HV.out).mono ?_
      rintro e' w1 ⟨rfl, b⟩
      have HX1 := Lib.hid (HX.out.below b)
      have HB1 := Lib.hid (HB.out.trans (b.mono HB.out.size)); clear b
      go_wp2_with fail
      refine (hasEdge_any w.heap.size A A' n n c c' h2 x w1 HX1.out (by omega) HH.out HBE.out).mono ?_
      rintro e' w2 ⟨rfl, rfl⟩
      go_wp2_with fail
      go_ret
      exact ⟨rfl, HB1.out⟩
  · have hv' : mapV t f = false := by simpa using hv
    obtain rfl : r = -1 := by rw [← hR, kdR, if_neg (fun h => hv h.1)]
    have HV := Lib.hid hv'; clear hR hv hv'
    go_enter Try.func25, Try.ntmps25
    go_wp2_with fail
    refine (valid_lit w.heap.size A A' n n' c c' t f W0 HX.out (H.out.below HB.out) (H'.out.below HB.out) hn hn' HV.out).mono ?_
    rintro e' w1 ⟨rfl, b⟩
    have HB1 := Lib.hid (HB.out.trans (b.mono HB.out.size)); clear b
    go_wp2_with fail
    go_ret
    exact ⟨rfl, HB1.out⟩

end Go.Proofs.Ytcenffndclpjoaa
