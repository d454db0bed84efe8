/-
  GluingMap: the model's and the program's.
-/
import Derived.Test.YtfcgfeopmnjfjaaGluD
import Derived.Test.YtfcgfeopmnjfjaaKitM
import Derived.Test.YtfcgfeopmnjfjaaDual
namespace Go.Proofs.Ytfcgfeopmnjfjaa
open Go.RowKit

def gmapR (p : List Int) : Bool × List Int × List Int := if glu p = true then (true, corL p, p) else (false, [], [])
theorem gmapR_len {p yt yf : List Int} {ok : Bool} (h : gmapR p = (ok, yt, yf)) : yt.length ≤ 12 ∧ yf.length ≤ 12 := by
  unfold gmapR at h
  split at h
  · rename_i hb
    have := (glu_iff.1 hb).2.1
    injection h with _ h; injection h with h1 h2
    rw [← h1, ← h2, corL_len]; omega
  · injection h with _ h; injection h with h1 h2; rw [← h1, ← h2]; simp

set_option maxHeartbeats 1600000 in
theorem spec_gmapR (w : World) (A : Option Addr) (c n : Nat) (xs : List Int) (h : Rd w A n xs) (hn : n ≤ 1048576) {ok : Bool} {yt yf : List Int} (hR : gmapR xs = (ok, yt, yf)) :
    Calls Try.prog 56 #[.slice A n c] w fun e w' => ∃ u u', e = .returned (.tuple #[.agg #[u, u'], .bool ok]) ∧ OwnM w' w.heap.size u u' yt yf ∧ Below w.heap.size w w' := by
  obtain ⟨W0, hW0, hy, hb, hz⟩ := Box.local_ w 36 (.slice none 0 0) (.slice none 0 0)
  have HY := Lib.hid hy; have HB := Lib.hid hb; have HZ := Lib.hid hz; clear hy hb hz
  by_cases hg : glu xs = true
  · rw [gmapR, if_pos hg] at hR
    simp only [Prod.mk.injEq] at hR
    obtain ⟨rfl, rfl, rfl⟩ := hR
    have hi := glu_iff.1 hg
    have hn10 : n ≤ 10 := by rw [← h.1]; exact hi.2.1
    have hn2 : 2 ≤ n := by rw [← h.1]; exact hi.1
    have HI := Lib.hid hi; have HG := Lib.hid hg; have Hx := Lib.hid h.1; have H := Lib.hid h; clear hg h hi
    go_enter Try.func56, Try.ntmps56
    go_wp2_with fail
    refine (spec_glu W0 A c n xs (H.out.below HB.out) hn HG.out).mono ?_
    rintro e w1 ⟨rfl, b⟩
    have HY1 := Lib.hid (HY.out.below b); have HB1 := Lib.hid (HB.out.trans (b.mono HB.out.size)); have HZ1 := Lib.hid b.size; clear b
    go_wp2_with fail
    refine (l4Corners_any w1 A c n xs (H.out.below HB1.out) HI.out).mono ?_
    rintro e w2 ⟨v, rfl, o, b⟩
    obtain ⟨A3, c3, rfl, -, -⟩ := o.form' ((corL_len xs).trans Hx.out)
    have HO : Hid (Own w2 w1.heap.size (.slice A3 n c3) (corL xs)) := o
    have HIV : Hid (InIv (.slice A3 n c3) w1.heap.size w2.heap.size) := o.iv
    have HY2 := Lib.hid (HY1.out.below b); have HB2 := Lib.hid (HB1.out.trans (b.mono HB1.out.size)); have HZ2 := Lib.hid b.size; clear b o
    go_wp2_with fail
    refine (l2Copy_any A n c xs w2 (H.out.below HB2.out) (by omega) (by omega)).mono ?_
    rintro e w3 ⟨v, rfl, o, b⟩
    obtain ⟨A4, c4, rfl, -, -⟩ := o.form' Hx.out
    have hy3 := HY2.out.below b
    have e0 := hy3.cell0; have e1 := hy3.cell1; have e2 := hy3.frozen 0; have e3 := hy3.frozen 1
    obtain ⟨hq1, hq2⟩ := hy3.store2 (.slice A3 n c3) (.slice A4 n c4)
    have k0 := hq1.cell0
    have k1 := hq1.cell1
    have HD := Lib.hid (pair_done (HO.out.below b) (o.mono HZ2.out) (fun k hk hk' => by have := HIV.out k hk; have := o.iv k hk'; omega) (HB2.out.trans (b.mono HB2.out.size)) hq2 (by omega) (by have := HZ.out; have := HZ1.out; omega))
    clear hq1 hq2 b o hy3
    go_wp2_with fail
    refine bodyPost_ret (v := .tuple #[.agg #[.slice A3 n c3, .slice A4 n c4], .bool true]) (by simp [results, Try.results56, go_sem, k0, k1]) rfl ⟨_, _, rfl, HD.out.1, HD.out.2⟩
  · have hg' : glu xs = false := by simpa using hg
    rw [gmapR, if_neg hg] at hR
    simp only [Prod.mk.injEq] at hR
    obtain ⟨rfl, rfl, rfl⟩ := hR
    have HG := Lib.hid hg'; have H := Lib.hid h; clear hg hg' h
    go_enter Try.func56, Try.ntmps56
    go_wp2_with fail
    refine (spec_glu W0 A c n xs (H.out.below HB.out) hn HG.out).mono ?_
    rintro e w1 ⟨rfl, b⟩
    have hy := HY.out.below b
    have e0 := hy.cell0
    have e1 := hy.cell1
    have e2 := hy.frozen 0
    have e3 := hy.frozen 1
    obtain ⟨hq1, hq2⟩ := hy.store2 (.slice none 0 0) (.slice none 0 0)
    have k0 := hq1.cell0
    have k1 := hq1.cell1
    have HB1 : Hid (Below w.heap.size w ((w1.setCell ⟨w.heap.size, 0, none⟩ (.slice none 0 0)).setCell ⟨w.heap.size, 1, none⟩ (.slice none 0 0))) := (HB.out.trans (b.mono HB.out.size)).grown hq2 (by have := HB.out.size; have := b.size; omega) (fun k hk => by cases hk; omega)
    clear b hy hq1 hq2
    go_wp2_with fail
    exact bodyPost_ret (v := .tuple #[.agg #[.slice none 0 0, .slice none 0 0], .bool false]) (by simp [results, Try.results56, go_sem, k0, k1]) rfl ⟨_, _, rfl, OwnM.nil_ _ _, HB1.out⟩

set_option maxHeartbeats 1600000 in
theorem impl_gmapR (w : World) (A : Option Addr) (c n : Nat) (xs : List Int) (h : Rd w A n xs) (hn : n ≤ 1048576) {ok : Bool} {yt yf : List Int} (hR : gmapR xs = (ok, yt, yf)) :
    Calls Try.prog 42 #[.slice A n c] w fun e w' => ∃ u u', e = .returned (.tuple #[.agg #[u, u'], .bool ok]) ∧ OwnM w' w.heap.size u u' yt yf ∧ Below w.heap.size w w' := by
  obtain ⟨W0, hW0, hy, hb, hz⟩ := Box.local_ w 36 (.slice none 0 0) (.slice none 0 0)
  have HY := Lib.hid hy; have HB := Lib.hid hb; have HZ := Lib.hid hz; clear hy hb hz
  by_cases hg : glu xs = true
  · rw [gmapR, if_pos hg] at hR
    simp only [Prod.mk.injEq] at hR
    obtain ⟨rfl, rfl, rfl⟩ := hR
    have hi := glu_iff.1 hg
    have hn10 : n ≤ 10 := by rw [← h.1]; exact hi.2.1
    have hn2 : 2 ≤ n := by rw [← h.1]; exact hi.1
    have HI := Lib.hid hi; have HG := Lib.hid hg; have Hx := Lib.hid h.1; have H := Lib.hid h; clear hg h hi
    go_enter Try.func42, Try.ntmps42
    go_wp2_with fail
    refine (impl_glu W0 A c n xs (H.out.below HB.out) hn HG.out).mono ?_
    rintro e w1 ⟨rfl, b⟩
    have HY1 := Lib.hid (HY.out.below b); have HB1 := Lib.hid (HB.out.trans (b.mono HB.out.size)); have HZ1 := Lib.hid b.size; clear b
    go_wp2_with fail
    refine (corners_any w1 A c n xs (H.out.below HB1.out) HI.out).mono ?_
    rintro e w2 ⟨v, rfl, o, b⟩
    obtain ⟨A3, c3, rfl, -, -⟩ := o.form' ((corL_len xs).trans Hx.out)
    have HO : Hid (Own w2 w1.heap.size (.slice A3 n c3) (corL xs)) := o
    have HIV : Hid (InIv (.slice A3 n c3) w1.heap.size w2.heap.size) := o.iv
    have HY2 := Lib.hid (HY1.out.below b); have HB2 := Lib.hid (HB1.out.trans (b.mono HB1.out.size)); have HZ2 := Lib.hid b.size; clear b o
    go_wp2_with fail
    refine (clone_any A n c xs w2 (H.out.below HB2.out) (by omega) (by omega)).mono ?_
    rintro e w3 ⟨v, rfl, o, b⟩
    obtain ⟨A4, c4, rfl, -, -⟩ := o.form' Hx.out
    have hy3 := HY2.out.below b
    have e0 := hy3.cell0; have e1 := hy3.cell1; have e2 := hy3.frozen 0; have e3 := hy3.frozen 1
    obtain ⟨hq1, hq2⟩ := hy3.store2 (.slice A3 n c3) (.slice A4 n c4)
    have k0 := hq1.cell0
    have k1 := hq1.cell1
    have HD := Lib.hid (pair_done (HO.out.below b) (o.mono HZ2.out) (fun k hk hk' => by have := HIV.out k hk; have := o.iv k hk'; omega) (HB2.out.trans (b.mono HB2.out.size)) hq2 (by omega) (by have := HZ.out; have := HZ1.out; omega))
    clear hq1 hq2 b o hy3
    go_wp2_with fail
    refine bodyPost_ret (v := .tuple #[.agg #[.slice A3 n c3, .slice A4 n c4], .bool true]) (by simp [results, Try.results42, go_sem, k0, k1]) rfl ⟨_, _, rfl, HD.out.1, HD.out.2⟩
  · have hg' : glu xs = false := by simpa using hg
    rw [gmapR, if_neg hg] at hR
    simp only [Prod.mk.injEq] at hR
    obtain ⟨rfl, rfl, rfl⟩ := hR
    have HG := Lib.hid hg'; have H := Lib.hid h; clear hg hg' h
    go_enter Try.func42, Try.ntmps42
    go_wp2_with fail
    refine (impl_glu W0 A c n xs (H.out.below HB.out) hn HG.out).mono ?_
    rintro e w1 ⟨rfl, b⟩
    have hy := HY.out.below b
    have e0 := hy.cell0
    have e1 := hy.cell1
    have e2 := hy.frozen 0
    have e3 := hy.frozen 1
    obtain ⟨hq1, hq2⟩ := hy.store2 (.slice none 0 0) (.slice none 0 0)
    have k0 := hq1.cell0
    have k1 := hq1.cell1
    have HB1 : Hid (Below w.heap.size w ((w1.setCell ⟨w.heap.size, 0, none⟩ (.slice none 0 0)).setCell ⟨w.heap.size, 1, none⟩ (.slice none 0 0))) := (HB.out.trans (b.mono HB.out.size)).grown hq2 (by have := HB.out.size; have := b.size; omega) (fun k hk => by cases hk; omega)
    clear b hy hq1 hq2
    go_wp2_with fail
    exact bodyPost_ret (v := .tuple #[.agg #[.slice none 0 0, .slice none 0 0], .bool false]) (by simp [results, Try.results42, go_sem, k0, k1]) rfl ⟨_, _, rfl, OwnM.nil_ _ _, HB1.out⟩

end Go.Proofs.Ytfcgfeopmnjfjaa
