/-
  MapMirror: the model's and the program's.
-/
import Derived.Test.YtcenffndclpjoaaDual
namespace Go.Proofs.Ytcenffndclpjoaa
open Go.RowKit

noncomputable def mirrorR (t f : List Int) : Bool × List Int × List Int := if mapV t f = true then (true, backL t, f) else (false, [], [])
theorem mirrorR_len {t f yt yf : List Int} {ok : Bool} (h : mirrorR t f = (ok, yt, yf)) : yt.length ≤ 12 ∧ yf.length ≤ 12 := by
  unfold mirrorR at h
  split at h
  · rename_i hb
    injection h with _ h; injection h with h1 h2
    rw [← h1, ← h2, backL_len]; exact ⟨(mapV_iff.1 hb).turn.2.1, (mapV_iff.1 hb).flip.2.1⟩
  · injection h with _ h; injection h with h1 h2; rw [← h1, ← h2]; simp
set_option maxHeartbeats 1600000 in
theorem impl_mirror_yes (w : World) (A A' : Option Addr) (n c c' : Nat) (t f : List Int) (h : Rd w A n t) (h' : Rd w A' n f) (hm : IsMap t f) :
    Calls Try.prog 22 #[.agg #[.slice A n c, .slice A' n c']] w fun e w' => ∃ u u', e = .returned (.tuple #[.agg #[u, u'], .bool true]) ∧ OwnM w' w.heap.size u u' (backL t) f ∧ Below w.heap.size w w' := by
  have hn12 : n ≤ 12 := by rw [← h.1]; exact hm.turn.2.1
  have hn1 : 1 ≤ n := by rw [← h.1]; exact hm.turn.1
  obtain ⟨W0, hW0, hx, hy, hb, hz⟩ := two_boxes w 25 25 (.slice A n c) (.slice A' n c') (.slice none 0 0) (.slice none 0 0)
  have HX := Lib.hid hx; have HY := Lib.hid hy; have HB := Lib.hid hb; have HZ := Lib.hid hz; have H := Lib.hid h; have H' := Lib.hid h'; have HM := Lib.hid hm; have HV := Lib.hid (mapV_iff.2 hm); clear hx hy hb hz h h' hm
  go_enter Try.func22, Try.ntmps22
  go_wp2_with fail
  refine (valid_lit w.heap.size A A' n n c c' t f W0 HX.out (H.out.below HB.out) (H'.out.below HB.out) (by omega) (by omega) HV.out).mono ?_
  rintro e w1 ⟨rfl, b⟩
  have hx := HX.out.below b
  have c0 := hx.cell0
  have c1 := hx.cell1
  have HX1 := Lib.hid hx; have HY1 := Lib.hid (HY.out.below b); have HB1 := Lib.hid (HB.out.trans (b.mono HB.out.size)); have HZ1 := Lib.hid b.size; clear b hx
  go_wp2_with fail
  first | (go_region_with (first
    | (go_at_call 44; refine (back_any A n c t _ ((H.out.below HB1.out).drewN _) (by omega) HM.out.turn).mono ?_; rintro e w2 ⟨v, rfl, o, bl⟩; obtain ⟨A3, c3, rfl, -, -⟩ := o.form' ((backL_len t).trans H.out.1); have BL := Lib.hid (Below.of_drewN bl); have HI : Hid (InIv (.slice A3 n c3) w1.heap.size w2.heap.size) := o.iv; have HO : Hid (Own w2 w1.heap.size (.slice A3 n c3) (backL t)) := o; have HB2 := Lib.hid (HB1.out.trans (BL.out.mono HB1.out.size)); have HX2 := Lib.hid (HX1.out.below BL.out); have HY2 := Lib.hid (HY1.out.below BL.out); have d0 := HX2.out.cell0; have d1 := HX2.out.cell1; clear o bl)
    | (go_at_call 45; refine (clone_any A' n c' f _ (H'.out.below HB2.out) hn1 (by omega)).mono ?_; rintro e w3 ⟨v, rfl, o, bl⟩; obtain ⟨A4, c4, rfl, -, -⟩ := o.form' H'.out.1; have BL2 := Lib.hid bl; have HI2 := Lib.hid o.iv; have HO2 := Lib.hid o; have HB3 := Lib.hid (HB2.out.trans (bl.mono HB2.out.size)); have HY3 := Lib.hid (HY2.out.below bl); have e0 := HY3.out.cell0; have e1 := HY3.out.cell1; have e2 := HY3.out.frozen 0; have e3 := HY3.out.frozen 1; clear o bl))) | fail
  all_goals
    have hs1 := BL.out.size
    have hs2 := HZ.out
    have hs3 := HZ1.out
    obtain ⟨hq1, hq2⟩ := HY3.out.store2 (.slice A3 n c3) (.slice A4 n c4)
    have k0 := hq1.cell0
    have k1 := hq1.cell1
    have HD := Lib.hid (pair_done (HO.out.below BL2.out) (HO2.out.mono hs1) (fun k hk hk' => by have := HI.out k hk; have := HI2.out k hk'; omega) HB3.out hq2 (by omega) (by omega))
    clear hq1 hq2
    simp only [List.getElem_toArray, List.getElem_cons_succ, List.getElem_cons_zero]
    go_simp
    go_wp2
    refine bodyPost_ret (v := .tuple #[.agg #[.slice A3 n c3, .slice A4 n c4], .bool true]) (by simp [results, Try.results22, go_sem, k0, k1]) rfl ⟨_, _, rfl, HD.out.1, HD.out.2⟩

set_option maxHeartbeats 800000 in
theorem impl_mirrorR (w : World) (A A' : Option Addr) (n n' c c' : Nat) (t f : List Int) (h : Rd w A n t) (h' : Rd w A' n' f) (hn : n ≤ 1048576) (hn' : n' ≤ 1048576) {ok : Bool} {yt yf : List Int} (hR : mirrorR t f = (ok, yt, yf)) :
    Calls Try.prog 22 #[.agg #[.slice A n c, .slice A' n' c']] w fun e w' => ∃ u u', e = .returned (.tuple #[.agg #[u, u'], .bool ok]) ∧ OwnM w' w.heap.size u u' yt yf ∧ Below w.heap.size w w' := by
  by_cases hv : mapV t f = true
  · have hm := mapV_iff.1 hv
    rw [mirrorR, if_pos hv] at hR
    simp only [Prod.mk.injEq] at hR
    obtain ⟨rfl, rfl, rfl⟩ := hR
    obtain rfl : n = n' := hm.same h.1 h'.1
    exact impl_mirror_yes w A A' n c c' t f h h' hm
  · have hv' : mapV t f = false := by simpa using hv
    rw [mirrorR, if_neg hv] at hR
    simp only [Prod.mk.injEq] at hR
    obtain ⟨rfl, rfl, rfl⟩ := hR
    obtain ⟨W0, hW0, hx, hy, hb, hz⟩ := two_boxes w 25 25 (.slice A n c) (.slice A' n' c') (.slice none 0 0) (.slice none 0 0)
    have HX := Lib.hid hx; have HY := Lib.hid hy; have HB := Lib.hid hb; have H := Lib.hid h; have H' := Lib.hid h'; have HV := Lib.hid hv'; clear hx hy hb hz h h' hv hv'
    go_enter Try.func22, Try.ntmps22
    go_wp2_with fail
    refine (valid_lit w.heap.size A A' n n' c c' t f W0 HX.out (H.out.below HB.out) (H'.out.below HB.out) hn hn' HV.out).mono ?_
    rintro e w1 ⟨rfl, b⟩
    have hy := HY.out.below b
    have e0 := hy.cell0
    have e1 := hy.cell1
    have e2 := hy.frozen 0
    have e3 := hy.frozen 1
    obtain ⟨hq1, hq2⟩ := hy.store2 (.slice none 0 0) (.slice none 0 0)
    have k0 := hq1.cell0
    have k1 := hq1.cell1
    have HB1 : Hid (Below w.heap.size w ((w1.setCell ⟨w.heap.size + 1, 0, none⟩ (.slice none 0 0)).setCell ⟨w.heap.size + 1, 1, none⟩ (.slice none 0 0))) := (HB.out.trans (b.mono HB.out.size)).grown hq2 (by have := HB.out.size; have := b.size; omega) (fun k hk => by cases hk; omega)
    clear b hy hq1 hq2
    go_wp2_with fail
    exact bodyPost_ret (v := .tuple #[.agg #[.slice none 0 0, .slice none 0 0], .bool false]) (by simp [results, Try.results22, go_sem, k0, k1]) rfl ⟨_, _, rfl, OwnM.nil_ _ _, HB1.out⟩

end Go.Proofs.Ytcenffndclpjoaa
