/-
  MapLeast: the model's and the program's, in the form that the law asks.
-/
import Derived.Test.YtjpebcomecoheaaLeastR
namespace Go.Proofs.Ytjpebcomecoheaa
open Go.RowKit

set_option maxHeartbeats 1600000 in
theorem spec_leastR (w : World) (A A' : Option Addr) (n n' c c' : Nat) (t f : List Int) (h : Rd w A n t) (h' : Rd w A' n' f) (hn : n ≤ 1048576) (hn' : n' ≤ 1048576) {ok : Bool} {yt yf : List Int} (hR : leastR t f = (ok, yt, yf)) :
    Calls Try.prog 51 #[.agg #[.slice A n c, .slice A' n' c']] w fun e w' => ∃ u u', e = .returned (.tuple #[.agg #[u, u'], .bool ok]) ∧ OwnM w' w.heap.size u u' yt yf ∧ Below w.heap.size w w' := by
  obtain ⟨W0, hW0, hx, hy, hbl, hz⟩ := two_boxes w 38 38 (.slice A n c) (.slice A' n' c') (.slice none 0 0) (.slice none 0 0)
  have c0 := hx.cell0
  have c1 := hx.cell1
  have HX := Lib.hid hx; have HY := Lib.hid hy; have HB := Lib.hid hbl; have HZ := Lib.hid hz; have H := Lib.hid h; have H' := Lib.hid h'; clear hx hy hbl hz h h'
  by_cases hv : mapV t f = true
  · have HV := Lib.hid hv
    rw [leastR, if_pos hv, H.out.1] at hR
    simp only [Prod.mk.injEq] at hR
    obtain ⟨rfl, rfl, rfl⟩ := hR
    have hm := mapV_iff.1 hv
    obtain rfl : n = n' := hm.same H.out.1 H'.out.1
    have hn1 : 0 < n := by rw [← H.out.1]; exact hm.turn.1
    have hle := leastTo_le t f (n - 1)
    have HLT : Hid ((formT t f (leastTo t f (n - 1))).length = n) := (formT_len hm (by rw [H.out.1]; omega)).trans H.out.1
    have HLF : Hid ((formF t f (leastTo t f (n - 1))).length = n) := (formF_len hm (by rw [H.out.1]; omega)).trans H.out.1
    have HM := Lib.hid hm; clear hm hv hle
    go_enter Try.func51, Try.ntmps51
    go_wp2_with fail
    refine (spec_mapV W0 A A' n n c c' t f (H.out.below HB.out) (H'.out.below HB.out) hn hn' HV.out).mono ?_
    rintro e w1 ⟨rfl, bl⟩
    have hx := HX.out.below bl
    have c0 := hx.cell0; have c1 := hx.cell1
    have HX1 := Lib.hid hx; have HY1 := Lib.hid (HY.out.below bl); have HB1 := Lib.hid (HB.out.trans (bl.mono HB.out.size)); have HZ1 := Lib.hid bl.size; clear bl hx
    go_wp2_with fail
    refine (l2Least_any w1 A A' n c c' t f (H.out.below HB1.out) (H'.out.below HB1.out) HM.out).mono ?_
    rintro e w2 ⟨u, u', rfl, o, bl⟩
    obtain ⟨A3, c3, A4, c4, rfl, rfl, -, -⟩ := o.form HLT.out HLF.out
    have hy := HY1.out.below bl
    have e0 := hy.cell0; have e1 := hy.cell1; have e2 := hy.frozen 0; have e3 := hy.frozen 1
    obtain ⟨hq1, hq2⟩ := hy.store2 (.slice A3 n c3) (.slice A4 n c4)
    have k0 := hq1.cell0; have k1 := hq1.cell1
    have hs1 := HZ1.out; have hs2 := HZ.out; have hs3 := bl.size
    have HD := Lib.hid (pair_done o.turn o.flip o.apart (HB1.out.trans (bl.mono HB1.out.size)) hq2 (by omega) (by omega))
    clear hq1 hq2 o bl hy
    go_wp2_with fail
    exact bodyPost_ret (v := .tuple #[.agg #[.slice A3 n c3, .slice A4 n c4], .bool true]) (by simp [results, Try.results51, go_sem, k0, k1]) rfl ⟨_, _, rfl, HD.out.1, HD.out.2⟩
  · have hv' : mapV t f = false := by simpa using hv
    rw [leastR, if_neg hv] at hR
    simp only [Prod.mk.injEq] at hR
    obtain ⟨rfl, rfl, rfl⟩ := hR
    have HV := Lib.hid hv'; clear hv hv'
    go_enter Try.func51, Try.ntmps51
    go_wp2_with fail
    refine (spec_mapV W0 A A' n n' c c' t f (H.out.below HB.out) (H'.out.below HB.out) hn hn' HV.out).mono ?_
    rintro e w1 ⟨rfl, bl⟩
    have hy := HY.out.below bl
    have HB1 := Lib.hid (HB.out.trans (bl.mono HB.out.size)); clear bl
    have e0 := hy.cell0; have e1 := hy.cell1; have e2 := hy.frozen 0; have e3 := hy.frozen 1
    obtain ⟨hq1, hq2⟩ := hy.store2 (.slice none 0 0) (.slice none 0 0)
    have k0 := hq1.cell0; have k1 := hq1.cell1
    have HD : Hid (Below w.heap.size w ((w1.setCell ⟨w.heap.size + 1, 0, none⟩ (.slice none 0 0)).setCell ⟨w.heap.size + 1, 1, none⟩ (.slice none 0 0))) := HB1.out.grown hq2 (by have := HB1.out.size; omega) (fun k hk => by cases hk; omega)
    clear hy hq1 hq2
    go_wp2_with fail
    exact bodyPost_ret (v := .tuple #[.agg #[.slice none 0 0, .slice none 0 0], .bool false]) (by simp [results, Try.results51, go_sem, k0, k1]) rfl ⟨_, _, rfl, OwnM.nil_ _ _, HD.out⟩

set_option maxHeartbeats 1600000 in
theorem impl_leastR (w : World) (A A' : Option Addr) (n n' c c' : Nat) (t f : List Int) (h : Rd w A n t) (h' : Rd w A' n' f) (hn : n ≤ 1048576) (hn' : n' ≤ 1048576) {ok : Bool} {yt yf : List Int} (hR : leastR t f = (ok, yt, yf)) :
    Calls Try.prog 50 #[.agg #[.slice A n c, .slice A' n' c']] w fun e w' => ∃ u u', e = .returned (.tuple #[.agg #[u, u'], .bool ok]) ∧ OwnM w' w.heap.size u u' yt yf ∧ Below w.heap.size w w' := by
  obtain ⟨W0, hW0, hx, hy, hbl, hz⟩ := two_boxes w 38 38 (.slice A n c) (.slice A' n' c') (.slice none 0 0) (.slice none 0 0)
  have c0 := hx.cell0
  have c1 := hx.cell1
  have HX := Lib.hid hx; have HY := Lib.hid hy; have HB := Lib.hid hbl; have HZ := Lib.hid hz; have H := Lib.hid h; have H' := Lib.hid h'; clear hx hy hbl hz h h'
  by_cases hv : mapV t f = true
  · have HV := Lib.hid hv
    rw [leastR, if_pos hv, H.out.1] at hR
    simp only [Prod.mk.injEq] at hR
    obtain ⟨rfl, rfl, rfl⟩ := hR
    have hm := mapV_iff.1 hv
    obtain rfl : n = n' := hm.same H.out.1 H'.out.1
    have hn1 : 0 < n := by rw [← H.out.1]; exact hm.turn.1
    have hle := leastTo_le t f (n - 1)
    have HLT : Hid ((formT t f (leastTo t f (n - 1))).length = n) := (formT_len hm (by rw [H.out.1]; omega)).trans H.out.1
    have HLF : Hid ((formF t f (leastTo t f (n - 1))).length = n) := (formF_len hm (by rw [H.out.1]; omega)).trans H.out.1
    have HM := Lib.hid hm; clear hm hv hle
    go_enter Try.func50, Try.ntmps50
    go_wp2_with fail
    refine (valid_lit w.heap.size A A' n n c c' t f W0 HX.out (H.out.below HB.out) (H'.out.below HB.out) hn hn' HV.out).mono ?_
    rintro e w1 ⟨rfl, bl⟩
    have hx := HX.out.below bl
    have c0 := hx.cell0; have c1 := hx.cell1
    have HX1 := Lib.hid hx; have HY1 := Lib.hid (HY.out.below bl); have HB1 := Lib.hid (HB.out.trans (bl.mono HB.out.size)); have HZ1 := Lib.hid bl.size; clear bl hx
    go_wp2_with fail
    refine (forms_any w1 w.heap.size A A' n c c' t f HX1.out (H.out.below HB1.out) (H'.out.below HB1.out) HM.out).mono ?_
    rintro e w2 ⟨g, rfl, hg, hf, bl0⟩
    have HF := Lib.hid hf; have HG := Lib.hid hg; have HBL0 := Lib.hid bl0; clear hf hg bl0
    go_wp2_with fail
    refine (minFunc_any w2 g n n t f HF.out HM.out H.out.1 H'.out.1).mono ?_
    rintro e w3 ⟨u, u', rfl, o, bl1⟩
    have bl := HBL0.out.trans (bl1.mono HBL0.out.size)
    have hg := HG.out
    clear bl1
    obtain ⟨A3, c3, A4, c4, rfl, rfl, -, -⟩ := o.form HLT.out HLF.out
    have hy := HY1.out.below bl
    have e0 := hy.cell0; have e1 := hy.cell1; have e2 := hy.frozen 0; have e3 := hy.frozen 1
    obtain ⟨hq1, hq2⟩ := hy.store2 (.slice A3 n c3) (.slice A4 n c4)
    have k0 := hq1.cell0; have k1 := hq1.cell1
    have hs1 := HZ1.out; have hs2 := HZ.out; have hs3 := bl.size
    have HD := Lib.hid (pair_done o.turn o.flip o.apart (HB1.out.trans (bl.mono HB1.out.size)) hq2 (by omega) (by omega))
    clear hq1 hq2 o bl hy
    go_wp2_with fail
    exact bodyPost_ret (v := .tuple #[.agg #[.slice A3 n c3, .slice A4 n c4], .bool true]) (by simp [results, Try.results50, go_sem, k0, k1]) rfl ⟨_, _, rfl, HD.out.1, HD.out.2⟩
  · have hv' : mapV t f = false := by simpa using hv
    rw [leastR, if_neg hv] at hR
    simp only [Prod.mk.injEq] at hR
    obtain ⟨rfl, rfl, rfl⟩ := hR
    have HV := Lib.hid hv'; clear hv hv'
    go_enter Try.func50, Try.ntmps50
    go_wp2_with fail
    refine (valid_lit w.heap.size A A' n n' c c' t f W0 HX.out (H.out.below HB.out) (H'.out.below HB.out) hn hn' HV.out).mono ?_
    rintro e w1 ⟨rfl, bl⟩
    have hy := HY.out.below bl
    have HB1 := Lib.hid (HB.out.trans (bl.mono HB.out.size)); clear bl
    have e0 := hy.cell0; have e1 := hy.cell1; have e2 := hy.frozen 0; have e3 := hy.frozen 1
    obtain ⟨hq1, hq2⟩ := hy.store2 (.slice none 0 0) (.slice none 0 0)
    have k0 := hq1.cell0; have k1 := hq1.cell1
    have HD : Hid (Below w.heap.size w ((w1.setCell ⟨w.heap.size + 1, 0, none⟩ (.slice none 0 0)).setCell ⟨w.heap.size + 1, 1, none⟩ (.slice none 0 0))) := HB1.out.grown hq2 (by have := HB1.out.size; omega) (fun k hk => by cases hk; omega)
    clear hy hq1 hq2
    go_wp2_with fail
    exact bodyPost_ret (v := .tuple #[.agg #[.slice none 0 0, .slice none 0 0], .bool false]) (by simp [results, Try.results50, go_sem, k0, k1]) rfl ⟨_, _, rfl, OwnM.nil_ _ _, HD.out⟩

end Go.Proofs.Ytjpebcomecoheaa
