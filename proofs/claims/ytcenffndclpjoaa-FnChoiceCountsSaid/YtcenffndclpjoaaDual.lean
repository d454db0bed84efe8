/-
  MapDual: the model's and the program's.
-/
import Derived.Test.YtcenffndclpjoaaCopy
import Derived.Deep.RegionWith
namespace Go.Proofs.Ytcenffndclpjoaa
open Go.RowKit

noncomputable def dualR (t f : List Int) : Bool × List Int × List Int := if mapV t f = true then (true, mulL f t, f) else (false, [], [])
theorem dualR_len {t f yt yf : List Int} {ok : Bool} (h : dualR t f = (ok, yt, yf)) : yt.length ≤ 12 ∧ yf.length ≤ 12 := by
  unfold dualR at h
  split at h
  · rename_i hb
    injection h with _ h; injection h with h1 h2
    rw [← h1, ← h2, mulL_len]; exact ⟨(mapV_iff.1 hb).flip.2.1, (mapV_iff.1 hb).flip.2.1⟩
  · injection h with _ h; injection h with h1 h2; rw [← h1, ← h2]; simp
/-- A box that takes two rows of a call's own: the map that it then holds is owned, and all that was is as it was. -/
theorem pair_done {w W W' : World} {lo b : Nat} {u u' : Value} {t f : List Int} (ho : Own W lo u t) (ho' : Own W lo u' f) (ha : ∀ k, u.ownBlock = some k → u'.ownBlock ≠ some k) (hb : Below w.heap.size w W) (hg : W.grownBy W' (some b))
    (hlo : w.heap.size ≤ b) (hbw : b < lo) : OwnM W' w.heap.size u u' t f ∧ Below w.heap.size w W' := by
  have hs := hb.size
  refine ⟨⟨(ho.grown hg ?_).mono (by omega), (ho'.grown hg ?_).mono (by omega), ha⟩, hb.grown hg hs (fun k hk => by cases hk; exact hlo)⟩
  · cases hk : u.ownBlock with
    | none => exact .inl rfl
    | some k => exact .inr (fun e => by injection e with e; have := (ho.lt k hk).1; omega)
  · cases hk : u'.ownBlock with
    | none => exact .inl rfl
    | some k => exact .inr (fun e => by injection e with e; have := (ho'.lt k hk).1; omega)

set_option maxHeartbeats 1600000 in
theorem dual_any (b : Nat) (A A' : Option Addr) (n c c' : Nat) (t f : List Int) (w : World) (hb : Box2 w b A n c A' n c') (h : Rd w A n t) (h' : Rd w A' n f) (hf : Vld f) :
    Calls Try.prog 43 #[.pointer (some ⟨b, 0, none⟩)] w fun e w' => ∃ u u', e = .returned (.agg #[u, u']) ∧ OwnM w' w.heap.size u u' (mulL f t) f ∧ Below w.heap.size w w' := by
  have hn12 : n ≤ 12 := by rw [← h'.1]; exact hf.2.1
  have hn1 : 1 ≤ n := by rw [← h'.1]; exact hf.1
  obtain ⟨W0, hW0, hy, hbw, hz⟩ := Box.local_ w 25 (.slice none 0 0) (.slice none 0 0)
  have hx0 : Box2 W0 b A n c A' n c' := hb.below hbw
  have hbl := hb.lt
  have HX0 := Lib.hid hx0; have HY := Lib.hid hy; have HB := Lib.hid hbw; have HZ := Lib.hid hz; have H := Lib.hid (h.below hbw); have H' := Lib.hid (h'.below hbw); have HF := Lib.hid hf; have HL := Lib.hid h'.1
  have c1 := hx0.cell1
  clear hx0 hy hbw hz h h' hf hb
  go_enter Try.func43, Try.ntmps43
  go_wp2_with fail
  first | (go_region_with (first
    | (go_at_call 68; refine (faces_any b A A' n c c' t f _ (show Box2 W0.drew b A n c A' n c' from HX0.out) (H.out.drew) (H'.out.drew) HF.out).mono ?_; rintro e w2 ⟨v, rfl, o, bl⟩; obtain ⟨A3, c3, rfl, -, -⟩ := o.form' ((mulL_len f t).trans HL.out); have BL : Hid (Below W0.heap.size W0 w2) := ⟨bl.os, bl.tape, bl.output, bl.size, bl.block⟩; have HI : Hid (InIv (.slice A3 n c3) W0.heap.size w2.heap.size) := o.iv; have HO : Hid (Own w2 W0.heap.size (.slice A3 n c3) (mulL f t)) := o; have HB2 := Lib.hid (HB.out.trans (BL.out.mono HB.out.size)); have HX2 := Lib.hid (HX0.out.below BL.out); have HY2 := Lib.hid (HY.out.below BL.out); have d0 := HX2.out.cell0; have d1 := HX2.out.cell1; clear o bl)
    | (go_at_call 45; refine (clone_any A' n c' f _ (H'.out.below BL.out) hn1 (by omega)).mono ?_; rintro e w3 ⟨v, rfl, o, bl⟩; obtain ⟨A4, c4, rfl, -, -⟩ := o.form' HL.out; have BL2 := Lib.hid bl; have HI2 := Lib.hid o.iv; have HO2 := Lib.hid o; have HB3 := Lib.hid (HB2.out.trans (bl.mono HB2.out.size)); have HY3 := Lib.hid (HY2.out.below bl); have e0 := HY3.out.cell0; have e1 := HY3.out.cell1; have e2 := HY3.out.frozen 0; have e3 := HY3.out.frozen 1; clear o bl))) | fail
  all_goals
    have hs1 := BL.out.size
    have hs2 := HZ.out
    obtain ⟨hq1, hq2⟩ := HY3.out.store2 (.slice A3 n c3) (.slice A4 n c4)
    have k0 := hq1.cell0
    have k1 := hq1.cell1
    have HD := Lib.hid (pair_done (HO.out.below BL2.out) (HO2.out.mono hs1) (fun k hk hk' => by have := HI.out k hk; have := HI2.out k hk'; omega) HB3.out hq2 (by omega) (by omega))
    clear hq1 hq2
    try simp only [List.getElem_toArray, List.getElem_cons_succ, List.getElem_cons_zero]
    go_simp
    go_wp2
    refine bodyPost_ret (v := .agg #[.slice A3 n c3, .slice A4 n c4]) (by simp [results, Try.results43, go_sem, k0, k1]) rfl ⟨_, _, rfl, HD.out.1, HD.out.2⟩

set_option maxHeartbeats 1600000 in
theorem impl_dual_yes (w : World) (A A' : Option Addr) (n c c' : Nat) (t f : List Int) (h : Rd w A n t) (h' : Rd w A' n f) (hm : IsMap t f) :
    Calls Try.prog 21 #[.agg #[.slice A n c, .slice A' n c']] w fun e w' => ∃ u u', e = .returned (.tuple #[.agg #[u, u'], .bool true]) ∧ OwnM w' w.heap.size u u' (mulL f t) f ∧ Below w.heap.size w w' := by
  have hn12 : n ≤ 12 := by rw [← h.1]; exact hm.turn.2.1
  have hn1 : 1 ≤ n := by rw [← h.1]; exact hm.turn.1
  obtain ⟨W0, hW0, hx, hy, hb, hz⟩ := two_boxes w 25 25 (.slice A n c) (.slice A' n c') (.slice none 0 0) (.slice none 0 0)
  have HX := Lib.hid hx; have HY := Lib.hid hy; have HB := Lib.hid hb; have HZ := Lib.hid hz; have H := Lib.hid h; have H' := Lib.hid h'; have HM := Lib.hid hm; have HV := Lib.hid (mapV_iff.2 hm); clear hx hy hb hz h h' hm
  go_enter Try.func21, Try.ntmps21
  go_wp2_with fail
  refine (valid_lit w.heap.size A A' n n c c' t f W0 HX.out (H.out.below HB.out) (H'.out.below HB.out) (by omega) (by omega) HV.out).mono ?_
  rintro e w1 ⟨rfl, b⟩
  have HX1 := Lib.hid (HX.out.below b); have HY1 := Lib.hid (HY.out.below b); have HB1 := Lib.hid (HB.out.trans (b.mono HB.out.size)); have HZ1 := Lib.hid b.size; clear b
  go_wp2_with fail
  refine (dual_any w.heap.size A A' n c c' t f w1 HX1.out (H.out.below HB1.out) (H'.out.below HB1.out) HM.out.flip).mono ?_
  rintro e w3 ⟨u, u', rfl, o, b⟩
  obtain ⟨A3, c3, rfl, -, -⟩ := o.turn.form' ((mulL_len f t).trans H'.out.1)
  obtain ⟨A4, c4, rfl, -, -⟩ := o.flip.form' H'.out.1
  have hs1 := HZ1.out
  have hs2 := HZ.out
  have HY3 := Lib.hid (HY1.out.below b)
  have HB3 := Lib.hid (HB1.out.trans (b.mono HB1.out.size))
  have e0 := HY3.out.cell0
  have e1 := HY3.out.cell1
  have e2 := HY3.out.frozen 0
  have e3 := HY3.out.frozen 1
  obtain ⟨hq1, hq2⟩ := HY3.out.store2 (.slice A3 n c3) (.slice A4 n c4)
  have k0 := hq1.cell0
  have k1 := hq1.cell1
  have HD := Lib.hid (pair_done o.turn o.flip o.apart HB3.out hq2 (by omega) (by omega))
  clear hq1 hq2 b o
  go_wp2_with fail
  refine bodyPost_ret (v := .tuple #[.agg #[.slice A3 n c3, .slice A4 n c4], .bool true]) (by simp [results, Try.results21, go_sem, k0, k1]) rfl ⟨_, _, rfl, HD.out.1, HD.out.2⟩

set_option maxHeartbeats 800000 in
theorem impl_dualR (w : World) (A A' : Option Addr) (n n' c c' : Nat) (t f : List Int) (h : Rd w A n t) (h' : Rd w A' n' f) (hn : n ≤ 1048576) (hn' : n' ≤ 1048576) {ok : Bool} {yt yf : List Int} (hR : dualR t f = (ok, yt, yf)) :
    Calls Try.prog 21 #[.agg #[.slice A n c, .slice A' n' c']] w fun e w' => ∃ u u', e = .returned (.tuple #[.agg #[u, u'], .bool ok]) ∧ OwnM w' w.heap.size u u' yt yf ∧ Below w.heap.size w w' := by
  by_cases hv : mapV t f = true
  · have hm := mapV_iff.1 hv
    rw [dualR, if_pos hv] at hR
    simp only [Prod.mk.injEq] at hR
    obtain ⟨rfl, rfl, rfl⟩ := hR
    obtain rfl : n = n' := hm.same h.1 h'.1
    exact impl_dual_yes w A A' n c c' t f h h' hm
  · have hv' : mapV t f = false := by simpa using hv
    rw [dualR, if_neg hv] at hR
    simp only [Prod.mk.injEq] at hR
    obtain ⟨rfl, rfl, rfl⟩ := hR
    obtain ⟨W0, hW0, hx, hy, hb, hz⟩ := two_boxes w 25 25 (.slice A n c) (.slice A' n' c') (.slice none 0 0) (.slice none 0 0)
    have HX := Lib.hid hx; have HY := Lib.hid hy; have HB := Lib.hid hb; have H := Lib.hid h; have H' := Lib.hid h'; have HV := Lib.hid hv'; clear hx hy hb hz h h' hv hv'
    go_enter Try.func21, Try.ntmps21
    go_wp2_with fail
    refine (valid_lit w.heap.size A A' n n' c c' t f W0 HX.out (H.out.below HB.out) (H'.out.below HB.out) hn hn' HV.out).mono ?_
    rintro e w1 ⟨rfl, b⟩
    have hy := HY.out.below b
    have e0 := hy.cell0
    have e1 := hy.cell1
    have e2 := hy.frozen 0
    have e3 := hy.frozen 1
    obtain ⟨hq1, hq2⟩ := hy.store2 (.slice none 0 0) (.slice none 0 0)
    have k0 := hq1.cell0
    have k1 := hq1.cell1
    have HB1 : Hid (Below w.heap.size w ((w1.setCell ⟨w.heap.size + 1, 0, none⟩ (.slice none 0 0)).setCell ⟨w.heap.size + 1, 1, none⟩ (.slice none 0 0))) := (HB.out.trans (b.mono HB.out.size)).grown hq2 (by have := HB.out.size; have := b.size; omega) (fun k hk => by cases hk; omega)
    clear b hy hq1 hq2
    go_wp2_with fail
    exact bodyPost_ret (v := .tuple #[.agg #[.slice none 0 0, .slice none 0 0], .bool false]) (by simp [results, Try.results21, go_sem, k0, k1]) rfl ⟨_, _, rfl, OwnM.nil_ _ _, HB1.out⟩

end Go.Proofs.Ytcenffndclpjoaa
