/-
  MapLeast's contracts in the form that the law asks; slices.MinFunc over a row of forms.
  MapLeast: the model's and the program's, in the form that the law asks.
-/
import Derived.Test.YtakckkmhhedfpaaTimes
import Derived.Deep.RegionHeld3
namespace Go.Proofs.Ytakckkmhhedfpaa
open Go.RowKit

set_option maxHeartbeats 800000 in
theorem least1_lit (w : World) (A A' B B' : Option Addr) (n c c' d d' : Nat) (t f t' f' : List Int) (h : Rd w A n t) (h' : Rd w A' n f) (k : Rd w B n t') (k' : Rd w B' n f') (hn : n ≤ 12) {r : Int} (hr : cmpM t f t' f' = r) :
    Calls Try.prog 107 #[.agg #[.slice A n c, .slice A' n c'], .agg #[.slice B n d, .slice B' n d']] w fun e w' => e = .returned (.int .i64 r) ∧ Below w.heap.size w w' := by
  obtain ⟨W0, hW0, hx, hy, hbl, hz⟩ := two_boxes w 35 35 (.slice A n c) (.slice A' n c') (.slice B n d) (.slice B' n d')
  have HX : Hid (Box2 W0 w.heap.size A n c A' n c') := hx
  have HY : Hid (Box2 W0 (w.heap.size + 1) B n d B' n d') := hy
  have HB := Lib.hid hbl; have H := Lib.hid h; have H' := Lib.hid h'; have K := Lib.hid k; have K' := Lib.hid k'; clear hx hy hbl hz h h' k k'
  go_enter Try.func107, Try.ntmps107
  go_wp2_with fail
  refine (compare_lit W0 w.heap.size (w.heap.size + 1) A A' B B' n c c' d d' t f t' f' HX.out HY.out (H.out.below HB.out) (H'.out.below HB.out) (K.out.below HB.out) (K'.out.below HB.out) hn hr).mono ?_
  rintro e w1 ⟨rfl, bl⟩
  have HB1 := Lib.hid (HB.out.trans (bl.mono HB.out.size)); clear bl
  go_wp2
  go_ret
  exact ⟨rfl, HB1.out⟩

set_option maxHeartbeats 3200000 in
theorem minFunc_any (w : World) (g n c : Nat) (t f : List Int) (hf : FormsAt w g n n t f) (hm : IsMap t f) (hl : t.length = n) (hl' : f.length = n) :
    Calls Try.prog 105 #[.slice (some ⟨g, 0, none⟩) n c, .func (.func 107) #[] #[]] w fun e w' => ∃ u u', e = .returned (.agg #[u, u']) ∧ OwnM w' (g + 1) u u' (formT t f (leastTo t f (n - 1))) (formF t f (leastTo t f (n - 1))) ∧ Below w.heap.size w w' := by
  have hn12 : n ≤ 12 := by rw [← hl]; exact hm.turn.2.1
  have hn1 : 0 < n := by rw [← hl]; exact hm.turn.1
  have HLT : Hid (∀ k, k < n → (formT t f k).length = n) := fun k hk => (formT_len hm (by rw [hl]; exact hk)).trans hl
  have HLF : Hid (∀ k, k < n → (formF t f k).length = n) := fun k hk => (formF_len hm (by rw [hl]; exact hk)).trans hl
  obtain ⟨W1, hW1, hy, hb1, hs1⟩ := Box.local_ w 35 (.slice none 0 0) (.slice none 0 0)
  obtain ⟨W2, hW2, hz, hb2, hs2⟩ := Box.local_ W1 35 (.slice none 0 0) (.slice none 0 0)
  have HF := Lib.hid hf; have HGL := Lib.hid hf.lt
  obtain ⟨u, u', p0, p1, o⟩ := hf.read (j := 0) hn1
  obtain ⟨A3, c3, A4, c4, rfl, rfl, -, -⟩ := o.form (HLT.out 0 hn1) (HLF.out 0 hn1)
  have e0 : W1.cell? ⟨g, 0, none⟩ = some (.slice A3 n c3) := (hb1.cell (p := ⟨g, 0, none⟩) HGL.out).trans (by simpa using p0)
  have e1 : W1.cell? ⟨g, 1, none⟩ = some (.slice A4 n c4) := (hb1.cell (p := ⟨g, 1, none⟩) HGL.out).trans (by simpa using p1)
  have z0 := hz.cell0; have z1 := hz.cell1; have z2 := hz.frozen 0; have z3 := hz.frozen 1
  obtain ⟨q1, q2⟩ := hz.store2 (.slice A3 n c3) (.slice A4 n c4)
  have HQ1 := Lib.hid q1
  have HY := Lib.hid hy; have HB1 := Lib.hid hb1; have HS1 := Lib.hid hs1
  have HBq : Hid (Below W1.heap.size W1 ((W2.setCell ⟨W1.heap.size, 0, none⟩ (.slice A3 n c3)).setCell ⟨W1.heap.size, 1, none⟩ (.slice A4 n c4))) := hb2.grown q2 hb2.size (fun k hk => by cases hk; omega)
  have HO : Hid (OwnM w (g + 1) (.slice A3 n c3) (.slice A4 n c4) (formT t f (leastTo t f 0)) (formF t f (leastTo t f 0))) := o
  clear hf hm p0 p1 o hy hz hb1 hb2 hs1 hs2 q1 q2
  go_enter Try.func105, Try.ntmps105
  go_wp2_with fail
  go_loopw [6] (fun i wr => ∃ (k : Nat) (B B' : Option Addr) (d d' : Nat), 1 ≤ k ∧ k ≤ n ∧ i = .int .i64 k ∧ Below W1.heap.size W1 wr ∧ Box wr W1.heap.size 35 (.slice B n d) (.slice B' n d') ∧ OwnM w (g + 1) (.slice B n d) (.slice B' n d') (formT t f (leastTo t f (k - 1))) (formF t f (leastTo t f (k - 1)))) (fun i _ => n - (intOf i).toNat)
  case atStart => exact ⟨1, A3, A4, c3, c4, Nat.le_refl _, hn1, rfl, HBq.out, HQ1.out, HO.out⟩
  case round =>
    clear z0 z1 z2 z3 e0 e1
    obtain ⟨k, B, B', d, d', hk1, hk, rfl, hb, hbx, ho⟩ := hrel
    have HBr := Lib.hid hb; have HBX := Lib.hid hbx; have HO2 := Lib.hid ho
    have HBW := Lib.hid (HB1.out.trans (hb.mono HB1.out.size))
    have y0 := hbx.cell0; have y1 := hbx.cell1
    have hle := leastTo_le t f (k - 1)
    clear hb hbx ho
    by_cases hlt : k < n
    · obtain ⟨v, v', p0, p1, o⟩ := HF.out.read hlt
      obtain ⟨A5, c5, A6, c6, rfl, rfl, r5, r6⟩ := o.form (HLT.out k hlt) (HLF.out k hlt)
      obtain ⟨B3, d3, B4, d4, f3, f4, r7, r8⟩ := HO2.out.form (HLT.out _ (by omega)) (HLF.out _ (by omega))
      injection f3 with f31 f32 f33; injection f4 with f41 f42 f43
      subst f31; subst f33; subst f41; subst f43
      have HR5 := Lib.hid (r5.below HBW.out); have HR6 := Lib.hid (r6.below HBW.out); have HR7 := Lib.hid (r7.below HBW.out); have HR8 := Lib.hid (r8.below HBW.out)
      have e0 : wr.cell? ⟨g, k * 2, none⟩ = some (.slice A5 n c5) := (HBW.out.cell (p := ⟨g, k * 2, none⟩) HGL.out).trans p0
      have e1 : wr.cell? ⟨g, k * 2 + 1, none⟩ = some (.slice A6 n c6) := (HBW.out.cell (p := ⟨g, k * 2 + 1, none⟩) HGL.out).trans p1
      have HP0 := Lib.hid p0; have HP1 := Lib.hid p1
      have HO5 := Lib.hid o
      clear r5 r6 r7 r8 p0 p1 o
      by_cases hs : cmpM (formT t f k) (formF t f k) (formT t f (leastTo t f (k - 1))) (formF t f (leastTo t f (k - 1))) < 0
      · have HL := Lib.hid (leastTo_yes hk1 hs)
        obtain ⟨r, hr⟩ : ∃ r, cmpM (formT t f k) (formF t f k) (formT t f (leastTo t f (k - 1))) (formF t f (leastTo t f (k - 1))) = r := ⟨_, rfl⟩
        rw [hr] at hs
        have HR := Lib.hid hr; clear hr
        go_wp2_with fail
        go_region_held3 (fun w' => w'.cell? ⟨g, k * 2, none⟩ = some (.slice A5 n c5) ∧ w'.cell? ⟨g, k * 2 + 1, none⟩ = some (.slice A6 n c6) ∧ w'.cell? ⟨W1.heap.size, 0, none⟩ = some (.slice B n d) ∧ w'.cell? ⟨W1.heap.size, 1, none⟩ = some (.slice B' n d')) (first | go_keep | exact ⟨((HBW.out.trans (BLc.out.mono HBW.out.size)).cell (p := ⟨g, k * 2, none⟩) HGL.out).trans HP0.out, ((HBW.out.trans (BLc.out.mono HBW.out.size)).cell (p := ⟨g, k * 2 + 1, none⟩) HGL.out).trans HP1.out, (HBX.out.below BLc.out).cell0, (HBX.out.below BLc.out).cell1⟩) (first | (go_at_call 107; refine (least1_lit _ A5 A6 B B' n c5 c6 d d' _ _ _ _ (HR5.out.drewN _) (HR6.out.drewN _) (HR7.out.drewN _) (HR8.out.drewN _) hn12 HR.out).mono ?_; rintro e w5 ⟨rfl, bl⟩; have BLc : Hid (Below wr.heap.size wr w5) := Below.of_drewN bl; clear bl))
        all_goals
          have hbx := HBX.out.below BLc.out
          have HBn0 := HBr.out.trans (BLc.out.mono HBr.out.size)
          have y0 := hbx.cell0; have y1 := hbx.cell1; have y2 := hbx.frozen 0; have y3 := hbx.frozen 1
          have HBW5 := HBW.out.trans (BLc.out.mono HBW.out.size)
          have e0 : w5.cell? ⟨g, k * 2, none⟩ = some (.slice A5 n c5) := (HBW5.cell (p := ⟨g, k * 2, none⟩) HGL.out).trans HP0.out
          have e1 : w5.cell? ⟨g, k * 2 + 1, none⟩ = some (.slice A6 n c6) := (HBW5.cell (p := ⟨g, k * 2 + 1, none⟩) HGL.out).trans HP1.out
          have HX5 := Lib.hid (hbx.store2 (.slice A5 n c5) (.slice A6 n c6)).1
          have HBn := Lib.hid ((HBn0.setCell (p := ⟨W1.heap.size, 0, none⟩) (Nat.le_refl _) (.slice A5 n c5)).setCell (p := ⟨W1.heap.size, 1, none⟩) (Nat.le_refl _) (.slice A6 n c6))
          have HOn : Hid (OwnM w (g + 1) (.slice A5 n c5) (.slice A6 n c6) (formT t f (leastTo t f (k + 1 - 1))) (formF t f (leastTo t f (k + 1 - 1)))) := by rw [Nat.add_sub_cancel, HL.out]; exact HO5.out
          clear hbx HBn0 HBW5
          go_wp2
          go_roundw
          case rel => exact ⟨k + 1, A5, A6, c5, c6, by omega, by omega, by go_num, HBn.out, HX5.out, HOn.out⟩
          case measure => simp [intOf]; omega
      · have HL := Lib.hid (leastTo_no hk1 hs)
        obtain ⟨r, hr⟩ : ∃ r, cmpM (formT t f k) (formF t f k) (formT t f (leastTo t f (k - 1))) (formF t f (leastTo t f (k - 1))) = r := ⟨_, rfl⟩
        rw [hr] at hs
        have HR := Lib.hid hr; clear hr
        go_wp2_with fail
        go_region_held3 (fun w' => w'.cell? ⟨g, k * 2, none⟩ = some (.slice A5 n c5) ∧ w'.cell? ⟨g, k * 2 + 1, none⟩ = some (.slice A6 n c6) ∧ w'.cell? ⟨W1.heap.size, 0, none⟩ = some (.slice B n d) ∧ w'.cell? ⟨W1.heap.size, 1, none⟩ = some (.slice B' n d')) (first | go_keep | exact ⟨((HBW.out.trans (BLc.out.mono HBW.out.size)).cell (p := ⟨g, k * 2, none⟩) HGL.out).trans HP0.out, ((HBW.out.trans (BLc.out.mono HBW.out.size)).cell (p := ⟨g, k * 2 + 1, none⟩) HGL.out).trans HP1.out, (HBX.out.below BLc.out).cell0, (HBX.out.below BLc.out).cell1⟩) (first | (go_at_call 107; refine (least1_lit _ A5 A6 B B' n c5 c6 d d' _ _ _ _ (HR5.out.drewN _) (HR6.out.drewN _) (HR7.out.drewN _) (HR8.out.drewN _) hn12 HR.out).mono ?_; rintro e w5 ⟨rfl, bl⟩; have BLc : Hid (Below wr.heap.size wr w5) := Below.of_drewN bl; clear bl))
        all_goals
          have HX5 := Lib.hid (HBX.out.below BLc.out)
          have HBn := Lib.hid (HBr.out.trans (BLc.out.mono HBr.out.size))
          have HOn : Hid (OwnM w (g + 1) (.slice B n d) (.slice B' n d') (formT t f (leastTo t f (k + 1 - 1))) (formF t f (leastTo t f (k + 1 - 1)))) := by rw [Nat.add_sub_cancel, HL.out]; exact HO2.out
          go_wp2
          go_roundw
          case rel => exact ⟨k + 1, B, B', d, d', by omega, by omega, by go_num, HBn.out, HX5.out, HOn.out⟩
          case measure => simp [intOf]; omega
    · have hkn : k = n := by omega
      have HK := Lib.hid hkn; clear hkn
      have hy := HY.out.below HBr.out
      have e0 := hy.cell0; have e1 := hy.cell1; have e2 := hy.frozen 0; have e3 := hy.frozen 1
      obtain ⟨hq1, hq2⟩ := hy.store2 (.slice B n d) (.slice B' n d')
      have k0 := hq1.cell0; have k1 := hq1.cell1
      have hl1 := HO2.out.turn.lt; have hl2 := HO2.out.flip.lt
      have HOE := Lib.hid (OwnM.set (g := w.heap.size) (v := .slice B n d) (v' := .slice B' n d') (HO2.out.below HBW.out) (fun b hb => by have := hl1 b hb; omega) (fun b hb => by have := hl2 b hb; omega))
      have HBE := Lib.hid ((HBW.out.setCell (p := ⟨w.heap.size, 0, none⟩) (Nat.le_refl _) (.slice B n d)).setCell (p := ⟨w.heap.size, 1, none⟩) (Nat.le_refl _) (.slice B' n d'))
      clear hq1 hq2 hy hl1 hl2
      go_wp2_with fail
      exact bodyPost_ret (v := .agg #[.slice B n d, .slice B' n d']) (by simp [results, Try.results105, go_sem, k0, k1]) rfl ⟨_, _, rfl, by have h1 := HOE.out; rw [HK.out] at h1; exact h1, HBE.out⟩

end Go.Proofs.Ytakckkmhhedfpaa

namespace Go.Proofs.Ytakckkmhhedfpaa
open Go.RowKit

set_option maxHeartbeats 1600000 in
theorem impl_leastR (w : World) (A A' : Option Addr) (n n' c c' : Nat) (t f : List Int) (h : Rd w A n t) (h' : Rd w A' n' f) (hn : n ≤ 1048576) (hn' : n' ≤ 1048576) {ok : Bool} {yt yf : List Int} (hR : leastR t f = (ok, yt, yf)) :
    Calls Try.prog 79 #[.agg #[.slice A n c, .slice A' n' c']] w fun e w' => ∃ u u', e = .returned (.tuple #[.agg #[u, u'], .bool ok]) ∧ OwnM w' w.heap.size u u' yt yf ∧ Below w.heap.size w w' := by
  obtain ⟨W0, hW0, hx, hy, hbl, hz⟩ := two_boxes w 35 35 (.slice A n c) (.slice A' n' c') (.slice none 0 0) (.slice none 0 0)
  have c0 := hx.cell0
  have c1 := hx.cell1
  have HX := Lib.hid hx; have HY := Lib.hid hy; have HB := Lib.hid hbl; have HZ := Lib.hid hz; have H := Lib.hid h; have H' := Lib.hid h'; clear hx hy hbl hz h h'
  by_cases hv : mapV t f = true
  · have HV := Lib.hid hv
    rw [leastR, if_pos hv, H.out.1] at hR
    simp only [Prod.mk.injEq] at hR
    obtain ⟨rfl, rfl, rfl⟩ := hR
    have hm := mapV_iff.1 hv
    obtain rfl : n = n' := hm.same H.out.1 H'.out.1
    have hn1 : 0 < n := by rw [← H.out.1]; exact hm.turn.1
    have hle := leastTo_le t f (n - 1)
    have HLT : Hid ((formT t f (leastTo t f (n - 1))).length = n) := (formT_len hm (by rw [H.out.1]; omega)).trans H.out.1
    have HLF : Hid ((formF t f (leastTo t f (n - 1))).length = n) := (formF_len hm (by rw [H.out.1]; omega)).trans H.out.1
    have HM := Lib.hid hm; clear hm hv hle
    go_enter Try.func79, Try.ntmps79
    go_wp2_with fail
    refine (valid_lit w.heap.size A A' n n c c' t f W0 HX.out (H.out.below HB.out) (H'.out.below HB.out) hn hn' HV.out).mono ?_
    rintro e w1 ⟨rfl, bl⟩
    have hx := HX.out.below bl
    have c0 := hx.cell0; have c1 := hx.cell1
    have HX1 := Lib.hid hx; have HY1 := Lib.hid (HY.out.below bl); have HB1 := Lib.hid (HB.out.trans (bl.mono HB.out.size)); have HZ1 := Lib.hid bl.size; clear bl hx
    go_wp2_with fail
    refine (forms_any w1 w.heap.size A A' n c c' t f HX1.out (H.out.below HB1.out) (H'.out.below HB1.out) HM.out).mono ?_
    rintro e w2 ⟨g, rfl, hg, hf, bl0⟩
    have HF := Lib.hid hf; have HG := Lib.hid hg; have HBL0 := Lib.hid bl0; clear hf hg bl0
    go_wp2_with fail
    refine (minFunc_any w2 g n n t f HF.out HM.out H.out.1 H'.out.1).mono ?_
    rintro e w3 ⟨u, u', rfl, o, bl1⟩
    have bl := HBL0.out.trans (bl1.mono HBL0.out.size)
    have hg := HG.out
    clear bl1
    obtain ⟨A3, c3, A4, c4, rfl, rfl, -, -⟩ := o.form HLT.out HLF.out
    have hy := HY1.out.below bl
    have e0 := hy.cell0; have e1 := hy.cell1; have e2 := hy.frozen 0; have e3 := hy.frozen 1
    obtain ⟨hq1, hq2⟩ := hy.store2 (.slice A3 n c3) (.slice A4 n c4)
    have k0 := hq1.cell0; have k1 := hq1.cell1
    have hs1 := HZ1.out; have hs2 := HZ.out; have hs3 := bl.size
    have HD := Lib.hid (pair_done o.turn o.flip o.apart (HB1.out.trans (bl.mono HB1.out.size)) hq2 (by omega) (by omega))
    clear hq1 hq2 o bl hy
    go_wp2_with fail
    exact bodyPost_ret (v := .tuple #[.agg #[.slice A3 n c3, .slice A4 n c4], .bool true]) (by simp [results, Try.results79, go_sem, k0, k1]) rfl ⟨_, _, rfl, HD.out.1, HD.out.2⟩
  · have hv' : mapV t f = false := by simpa using hv
    rw [leastR, if_neg hv] at hR
    simp only [Prod.mk.injEq] at hR
    obtain ⟨rfl, rfl, rfl⟩ := hR
    have HV := Lib.hid hv'; clear hv hv'
    go_enter Try.func79, Try.ntmps79
    go_wp2_with fail
    refine (valid_lit w.heap.size A A' n n' c c' t f W0 HX.out (H.out.below HB.out) (H'.out.below HB.out) hn hn' HV.out).mono ?_
    rintro e w1 ⟨rfl, bl⟩
    have hy := HY.out.below bl
    have HB1 := Lib.hid (HB.out.trans (bl.mono HB.out.size)); clear bl
    have e0 := hy.cell0; have e1 := hy.cell1; have e2 := hy.frozen 0; have e3 := hy.frozen 1
    obtain ⟨hq1, hq2⟩ := hy.store2 (.slice none 0 0) (.slice none 0 0)
    have k0 := hq1.cell0; have k1 := hq1.cell1
    have HD : Hid (Below w.heap.size w ((w1.setCell ⟨w.heap.size + 1, 0, none⟩ (.slice none 0 0)).setCell ⟨w.heap.size + 1, 1, none⟩ (.slice none 0 0))) := HB1.out.grown hq2 (by have := HB1.out.size; omega) (fun k hk => by cases hk; omega)
    clear hy hq1 hq2
    go_wp2_with fail
    exact bodyPost_ret (v := .tuple #[.agg #[.slice none 0 0, .slice none 0 0], .bool false]) (by simp [results, Try.results79, go_sem, k0, k1]) rfl ⟨_, _, rfl, OwnM.nil_ _ _, HD.out⟩

end Go.Proofs.Ytakckkmhhedfpaa
