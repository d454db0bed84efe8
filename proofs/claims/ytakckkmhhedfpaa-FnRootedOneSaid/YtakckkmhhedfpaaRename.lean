/-
  MapRename: the model's and the program's.
-/
import Derived.Test.YtakckkmhhedfpaaDual
import Derived.Deep.RegionHeld3
namespace Go.Proofs.Ytakckkmhhedfpaa
open Go.RowKit

noncomputable def renameR (t f b : List Int) : Bool × List Int × List Int := if mapV t f = true ∧ both t b = true then (true, conjL t b, conjL f b) else (false, [], [])
theorem renameR_len {t f b yt yf : List Int} {ok : Bool} (h : renameR t f b = (ok, yt, yf)) : yt.length ≤ 12 ∧ yf.length ≤ 12 := by
  unfold renameR at h
  split at h
  · rename_i hb
    injection h with _ h; injection h with h1 h2
    rw [← h1, ← h2, conjL_len, conjL_len]; exact ⟨(both_iff.1 hb.2).2.1.2.1, (both_iff.1 hb.2).2.1.2.1⟩
  · injection h with _ h; injection h with h1 h2; rw [← h1, ← h2]; simp

set_option maxHeartbeats 1600000 in
theorem l2Rename_any (w : World) (A A' B : Option Addr) (n c c' d : Nat) (t f b : List Int) (h : Rd w A n t) (h' : Rd w A' n f) (k : Rd w B n b) (ht : Vld t) (hf : Vld f) (hb : Vld b) :
    Calls Try.prog 92 #[.agg #[.slice A n c, .slice A' n c'], .slice B n d] w fun e w' => ∃ u u', e = .returned (.agg #[u, u']) ∧ OwnM w' w.heap.size u u' (conjL t b) (conjL f b) ∧ Below w.heap.size w w' := by
  have hn12 : n ≤ 12 := by rw [← h.1]; exact ht.2.1
  obtain ⟨W0, hW0, hx, hy, hbl, hz⟩ := two_boxes w 35 35 (.slice A n c) (.slice A' n c') (.slice none 0 0) (.slice none 0 0)
  have c0 := hx.cell0
  have E1 : Hid (conjR t b = (true, conjL t b)) := by rw [Hid, conjR, if_pos (both_iff.2 ⟨ht, hb, by rw [h.1, k.1]⟩)]
  have E2 : Hid (conjR f b = (true, conjL f b)) := by rw [Hid, conjR, if_pos (both_iff.2 ⟨hf, hb, by rw [h'.1, k.1]⟩)]
  have HX := Lib.hid hx; have HY := Lib.hid hy; have HB := Lib.hid hbl; have HZ := Lib.hid hz; have H := Lib.hid h; have H' := Lib.hid h'; have K := Lib.hid k; clear hx hy hbl hz h h' k ht hf hb
  go_enter Try.func92, Try.ntmps92
  go_wp2_with fail
  refine (spec_conjR W0 A c n t (H.out.below HB.out) (by omega) B d n b (K.out.below HB.out) (by omega) E1.out).mono ?_
  rintro e w1 ⟨v, rfl, o, bl⟩
  obtain ⟨A3, c3, rfl, -, -⟩ := o.form' ((conjL_len t b).trans K.out.1)
  have hx := HX.out.below bl
  have c1 := hx.cell1
  have HY1 := Lib.hid (HY.out.below bl); have HB1 := Lib.hid (HB.out.trans (bl.mono HB.out.size)); have HI := Lib.hid o.iv; have HO := Lib.hid o; have HZ1 := Lib.hid bl.size; clear bl hx c0 o
  go_wp2_with fail
  refine (spec_conjR w1 A' c' n f (H'.out.below HB1.out) (by omega) B d n b (K.out.below HB1.out) (by omega) E2.out).mono ?_
  rintro e w2 ⟨v, rfl, o, bl⟩
  obtain ⟨A4, c4, rfl, -, -⟩ := o.form' ((conjL_len f b).trans K.out.1)
  have hy := HY1.out.below bl
  have e0 := hy.cell0; have e1 := hy.cell1; have e2 := hy.frozen 0; have e3 := hy.frozen 1
  obtain ⟨hq1, hq2⟩ := hy.store2 (.slice A3 n c3) (.slice A4 n c4)
  have k0 := hq1.cell0; have k1 := hq1.cell1
  have hI2 := o.iv
  have hs1 := HZ1.out; have hs2 := HZ.out; have hs3 := bl.size
  have HD := Lib.hid (pair_done (HO.out.below bl) (o.mono hs1) (fun k hk hk' => by have := HI.out k hk; have := hI2 k hk'; omega) (HB1.out.trans (bl.mono HB1.out.size)) hq2 (by omega) (by omega))
  clear hq1 hq2 hI2 o bl hy c1
  go_wp2_with fail
  exact bodyPost_ret (v := .agg #[.slice A3 n c3, .slice A4 n c4]) (by simp [results, Try.results92, go_sem, k0, k1]) rfl ⟨_, _, rfl, HD.out.1, HD.out.2⟩

theorem box2_far {w w' : World} {b b' : Nat} {A A' : Option Addr} {n c n' c' : Nat} (h : Box2 w b A n c A' n' c') (hg : w.grownBy w' (some b')) (hne : b ≠ b') : Box2 w' b A n c A' n' c' := (hg.block b h.lt (fun e => by injection e with e; exact hne e)).trans h
set_option maxRecDepth 100000 in
set_option maxHeartbeats 1600000 in
theorem renamed_any (w : World) (x : Nat) (A A' B : Option Addr) (n c c' d : Nat) (t f b : List Int) (hx : Box2 w x A n c A' n c') (h : Rd w A n t) (h' : Rd w A' n f) (k : Rd w B n b) (ht : Vld t) (hf : Vld f) (hb : Vld b) :
    Calls Try.prog 87 #[.pointer (some ⟨x, 0, none⟩), .slice B n d] w fun e w' => ∃ u u', e = .returned (.agg #[u, u']) ∧ OwnM w' w.heap.size u u' (conjL t b) (conjL f b) ∧ Below w.heap.size w w' := by
  have hn12 : n ≤ 12 := by rw [← h.1]; exact ht.2.1
  obtain ⟨W0, hW0, hy, hbl, hz⟩ := Box.local_ w 35 (.slice none 0 0) (.slice none 0 0)
  have hxl : x ≠ w.heap.size := by have := hx.lt; omega
  have hx0 := hx.below hbl
  have c0 := hx0.cell0
  have c1 := hx0.cell1
  have HX := Lib.hid hx0; have HY := Lib.hid hy; have HB1 := Lib.hid hbl; have HZ := Lib.hid hz; have H := Lib.hid h; have H' := Lib.hid h'; have K := Lib.hid k
  have HTV := Lib.hid ht; have HFV := Lib.hid hf; have HBV := Lib.hid hb; clear hx hx0 hy hbl hz h h' k ht hf hb
  go_enter Try.func87, Try.ntmps87
  go_wp2_with fail
  go_region_held3 (fun w' => w'.cell? ⟨x, 0, none⟩ = some (.slice A n c) ∧ w'.cell? ⟨x, 1, none⟩ = some (.slice A' n c')) (first | go_keep | exact ⟨(HX.out.below BL.out).cell0, (HX.out.below BL.out).cell1⟩ | exact ⟨(HX2.out.below BL2.out).cell0, (HX2.out.below BL2.out).cell1⟩ | exact ⟨HX4.out.cell0, HX4.out.cell1⟩) (first
    | (have hchk := HB2.out; clear hchk; go_at_call 114; refine (conj_any A' B n c' d f b _ (H'.out.below HB2.out) (K.out.below HB2.out) (by omega) HFV.out HBV.out).mono ?_; rintro e w3 ⟨v, rfl, o, bl⟩; obtain ⟨A4, c4, rfl, -, -⟩ := o.form' ((conjL_len f b).trans K.out.1); have BL2 := Lib.hid bl; have HI2 := Lib.hid o.iv; have HO2 := Lib.hid o; have HB3 := Lib.hid (HB2.out.trans (bl.mono HB2.out.size)); have HY3 := Lib.hid (HY2.out.below bl); have HX4 := Lib.hid (box2_far (HX2.out.below bl) (HY3.out.store2 (.slice A3 n c3) (.slice A4 n c4)).2 hxl); have e0 := HY3.out.cell0; have e1 := HY3.out.cell1; have e2 := HY3.out.frozen 0; have e3 := HY3.out.frozen 1; clear o bl)
    | (go_at_call 114; refine (conj_any A B n c d t b _ ((H.out.below HB1.out).drewN _) ((K.out.below HB1.out).drewN _) (by omega) HTV.out HBV.out).mono ?_; rintro e w2 ⟨v, rfl, o, bl⟩; obtain ⟨A3, c3, rfl, -, -⟩ := o.form' ((conjL_len t b).trans K.out.1); have BL := Lib.hid (Below.of_drewN bl); have HI : Hid (InIv (.slice A3 n c3) W0.heap.size w2.heap.size) := o.iv; have HO : Hid (Own w2 W0.heap.size (.slice A3 n c3) (conjL t b)) := o; have HB2 := Lib.hid (HB1.out.trans (BL.out.mono HB1.out.size)); have HX2 := Lib.hid (HX.out.below BL.out); have HY2 := Lib.hid (HY.out.below BL.out); have d0 := HX2.out.cell0; have d1 := HX2.out.cell1; clear o bl))
  all_goals
    have hs1 := BL.out.size
    have hs2 := HZ.out
    obtain ⟨hq1, hq2⟩ := HY3.out.store2 (.slice A3 n c3) (.slice A4 n c4)
    have k0 := hq1.cell0
    have k1 := hq1.cell1
    have HD := Lib.hid (pair_done (HO.out.below BL2.out) (HO2.out.mono hs1) (fun k hk hk' => by have := HI.out k hk; have := HI2.out k hk'; omega) HB3.out hq2 (by omega) (by omega))
    clear hq1 hq2
    go_wp2
    refine bodyPost_ret (v := .agg #[.slice A3 n c3, .slice A4 n c4]) (by simp [results, Try.results87, go_sem, k0, k1]) rfl ⟨_, _, rfl, HD.out.1, HD.out.2⟩

end Go.Proofs.Ytakckkmhhedfpaa
