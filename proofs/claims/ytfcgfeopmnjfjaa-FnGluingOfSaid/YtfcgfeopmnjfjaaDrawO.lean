/-
  The draw of a map, often with one face, and a dart.
-/
import Derived.Test.YtfcgfeopmnjfjaaDrawFR
import Derived.Test.YtfcgfeopmnjfjaaDrawL
import Derived.Test.YtfcgfeopmnjfjaaGluM
import Derived.Test.YtfcgfeopmnjfjaaGlM
import Derived.Test.YtfcgfeopmnjfjaaRename
namespace Go.Proofs.Ytfcgfeopmnjfjaa
open Go.RowKit
set_option linter.unusedVariables false
attribute [local go_sem] Oper.semAt_some

set_option maxRecDepth 20000 in
set_option maxHeartbeats 6400000 in
theorem drawGluingOf_any (w : World) (A : Option Addr) (n c : Nat) (bs : List Int) (h : RdB w A n bs) (hn : n ≤ 1048576) (hc : n ≤ c) :
    Calls Try.prog 58 #[.slice A n c] w fun e w' => ∃ A A' n n' c c' t f, ∃ r : Int, e = .returned (.tuple #[.agg #[.slice A n c, .slice A' n' c'], .int .i64 r]) ∧ Rd w' A n t ∧ Rd w' A' n' f ∧ n ≤ 12 ∧ n' ≤ 12 ∧ (-1 ≤ r ∧ r ≤ 12) ∧ Below w.heap.size w w' := by
  obtain ⟨W0, hW0, hx0, hb0, hs0⟩ := Box.local_ w 36 (.slice none 0 0) (.slice none 0 0)
  obtain ⟨x, hx⟩ : ∃ x, w.heap.size = x := ⟨_, rfl⟩
  have HRB : Hid (RdB W0 A n bs) := ⟨h.1, fun h0 => by
    obtain ⟨ad, e, hcell⟩ := h.2.1 h0
    exact ⟨ad, e, fun j hj => (hb0.cell (World.block_lt_of_cell? w _ (hcell j hj))).trans (hcell j hj)⟩, h.2.2⟩
  have HX0 : Hid (Box W0 x 36 (.slice none 0 0) (.slice none 0 0)) := by rw [← hx]; exact hx0
  have HB0 := Lib.hid hb0
  have HXE := Lib.hid hx
  rw [hx] at hs0
  have HS0 := Lib.hid hs0
  clear hx hx0 hb0 h hs0
  go_enter Try.func58, Try.ntmps58
  go_wp2_with fail
  rw [HXE.out]
  refine (open_reads W0 A n c bs HRB.out hn hc).mono ?_
  rintro e w1 ⟨rfl, r1, b1, s1⟩
  have HX1 := Lib.hid (HX0.out.below b1); have HB1 := Lib.hid (HB0.out.trans (b1.mono HB0.out.size)); have HR1 := Lib.hid r1
  clear r1 b1
  go_wp2_with fail
  refine (pick_reads w1 W0.heap.size 0 HR1.out (by omega) 4 (by omega) (by omega)).mono ?_
  rintro e w2 ⟨x4, rfl, hx4, r2, g2⟩
  have g2' : Gr W0.heap.size w1 w2 := g2
  have HX2 := Lib.hid (HX1.out.gr g2' (by have := HS0.out; omega))
  have HB2 : Hid (Below w.heap.size w w2) := HB1.out.trans ((g2'.below (by have := HR1.out.lt; omega)).mono (by rw [HXE.out]; have := HS0.out; omega))
  have HR2 := Lib.hid r2
  clear r2 g2 g2' HX1 HB1 HR1
  by_cases h0 : x4 = 0
  · subst h0
    go_wp2_with fail
    refine (map_any w2 W0.heap.size 1 4 HR2.out (by omega) (by omega) (by omega)).mono ?_
    rintro e w3 ⟨A2, A2', n2, n2', c2, c2', t, f, rfl, r1, r2, hl, hl', a1, a2, ⟨q2, hq2, rd2⟩, g⟩
    have hlt2 := HR2.out.lt
    have HX3 := Lib.hid (HX2.out.gr g (by have := HS0.out; omega))
    have HB3 : Hid (Below w.heap.size w w3) := HB2.out.trans ((g.below (by omega)).mono (by rw [HXE.out]; have := HS0.out; omega))
    have hlt3 := rd2.lt
    have hsz2 := g.size
    obtain ⟨w4, hW4, hy4, b4, hz4⟩ := Box.local_ w3 36 (.slice A2 n2 c2) (.slice A2' n2' c2')
    obtain ⟨y, hy⟩ : ∃ y, w3.heap.size = y := ⟨_, rfl⟩
    have HY : Hid (Box w4 y 36 (.slice A2 n2 c2) (.slice A2' n2' c2')) := by rw [← hy]; exact hy4
    have HX := Lib.hid (HX3.out.below b4); have HT := Lib.hid (r1.below b4); have HF := Lib.hid (r2.below b4); have HR := Lib.hid (rd2.below (b4.mono (by omega)))
    have HB := Lib.hid (HB3.out.trans (b4.mono HB3.out.size))
    have HYE := Lib.hid hy
    have HYX : Hid (W0.heap.size < y) := by rw [Hid, ← hy]; exact hlt3
    have HA1 : Hid (∀ ad : Addr, A2 = some ad → W0.heap.size < ad.block) := fun ad e => by have := a1 ad e; omega
    have HA2 : Hid (∀ ad : Addr, A2' = some ad → W0.heap.size < ad.block) := fun ad e => by have := a2 ad e; omega
    have c0 := HY.out.cell0; have c1 := HY.out.cell1
    clear r1 r2 a1 a2 rd2 g hy4 b4 hz4 hy HX3 HB3 HX2 HB2 HR2 hsz2
    go_wp2
    rw [HYE.out]
    first | (go_region_with (first
      | (go_at_call 99; refine (at_any _ W0.heap.size q2 n2 (HR.out.below ((below_drewN (Below.refl _ _) _))) (by omega) (by omega)).mono ?_; rintro e wz ⟨r, rfl, hr1, hr2, -, g4⟩; have GG : Hid (Gr W0.heap.size w4 wz) := ((Gr.refl _ _).drewN _).trans g4; have hX4 := HX.out.gr GG.out (by have := HS0.out; omega); have hY4 := HY.out.gr GG.out (by have := HYX.out; omega); have HX4 := Lib.hid hX4; have d0 := hY4.cell0; have d1 := hY4.cell1; have e0 := hX4.cell0; have e1 := hX4.cell1; have e2 := hX4.frozen 0; have e3 := hX4.frozen 1; clear g4 hX4 hY4))) | fail
    all_goals
      have hs0 := HS0.out
      have hT4 := HT.out.gr GG.out (fun ad e _ => by have := HA1.out ad e; omega)
      have hF4 := HF.out.gr GG.out (fun ad e _ => by have := HA2.out ad e; omega)
      have hB4 : Below w.heap.size w wz := HB.out.trans ((GG.out.below (by have := HR.out.lt; omega)).mono (by rw [HXE.out]; omega))
      obtain ⟨W', hW', k0, k1, q1, q2, q3⟩ := fin_draw (w := w) (c := c2) (c' := c2') HX4.out (by rw [HXE.out]; exact Nat.le_refl _) hT4 hF4 (fun ad e => by have := HA1.out ad e; omega) (fun ad e => by have := HA2.out ad e; omega) hB4
      have HQ := Lib.hid (And.intro q1 (And.intro q2 q3)); clear q1 q2 q3 hT4 hF4 hB4 hs0
      have hr12 : r ≤ 12 := by omega
      go_simp
      go_wp2
      exact bodyPost_ret (v := .tuple #[.agg #[.slice A2 n2 c2, .slice A2' n2' c2'], .int .i64 r]) (by simp [results, Try.results58, go_sem, k0, k1]) rfl ⟨_, _, _, _, _, _, _, _, _, rfl, HQ.out.1, HQ.out.2.1, hl, hl', ⟨hr1, hr12⟩, HQ.out.2.2⟩
  · have hz : ((x4 : Int) == 0) = false := by simp; omega
    have hlt2 := HR2.out.lt
    go_wp2_with fail
    refine (gluing_more w2 W0.heap.size 1 5 HR2.out (by omega) (by omega) (by omega)).mono ?_
    rintro e w3 ⟨v, ys, rfl, o, hl, g3, q3, hq3, rd3⟩
    obtain ⟨m, hm⟩ : ∃ m, ys.length = m := ⟨_, rfl⟩
    obtain ⟨A3, c3, rfl, r3, -⟩ := o.form' hm
    have HX3 := Lib.hid (HX2.out.gr g3 (by have := HS0.out; omega))
    have HB3 : Hid (Below w.heap.size w w3) := HB2.out.trans ((g3.below (by omega)).mono (by rw [HXE.out]; have := HS0.out; omega))
    have HR3 := Lib.hid rd3; have HRD3 := Lib.hid r3; have HM := Lib.hid hm
    have hm12 : m ≤ 12 := by omega
    have hlt3 := rd3.lt
    clear o g3 rd3 r3 hl hm HX2 HB2 HR2
    obtain ⟨ok, yt, yf, hG⟩ : ∃ ok yt yf, gmapR ys = (ok, yt, yf) := ⟨_, _, _, rfl⟩
    have HG := Lib.hid hG; clear hG
    go_wp2_with fail
    refine (spec_gmapR w3 A3 c3 m ys HRD3.out (by omega) HG.out).mono ?_
    rintro e w4 ⟨u, u', rfl, o, b4⟩
    obtain ⟨n2, hn2⟩ : ∃ n2, yt.length = n2 := ⟨_, rfl⟩
    obtain ⟨n2', hn2'⟩ : ∃ n2, yf.length = n2 := ⟨_, rfl⟩
    obtain ⟨A2, c2, A2', c2', rfl, rfl, r1, r2⟩ := o.form hn2 hn2'
    have hl := (gmapR_len HG.out).1; have hl' := (gmapR_len HG.out).2
    rw [hn2] at hl; rw [hn2'] at hl'
    have HN2 := Lib.hid hn2; have HN2' := Lib.hid hn2'
    have hiv := o.turn.iv; have hiv' := o.flip.iv
    have HX4 := Lib.hid (HX3.out.below b4); have HB4 := Lib.hid (HB3.out.trans (b4.mono HB3.out.size)); have HR4 := Lib.hid (HR3.out.below (b4.mono (by omega)))
    have hsz4 := b4.size
    obtain ⟨w5, hW5, hy5, b5, hz5⟩ := Box.local_ w4 36 (.slice A2 n2 c2) (.slice A2' n2' c2')
    obtain ⟨y, hy⟩ : ∃ y, w4.heap.size = y := ⟨_, rfl⟩
    have HY : Hid (Box w5 y 36 (.slice A2 n2 c2) (.slice A2' n2' c2')) := by rw [← hy]; exact hy5
    have HX := Lib.hid (HX4.out.below b5); have HT := Lib.hid (r1.below b5); have HF := Lib.hid (r2.below b5); have HR := Lib.hid (HR4.out.below (b5.mono (by omega)))
    have HB := Lib.hid (HB4.out.trans (b5.mono HB4.out.size))
    have HYE := Lib.hid hy
    have HYX : Hid (W0.heap.size < y) := by rw [Hid, ← hy]; omega
    have HB1 : Hid (∀ ad : Addr, A2 = some ad → W0.heap.size < ad.block ∧ ad.block < y) := fun ad e => by have := hiv ad.block (by rw [e]; rfl); omega
    have HB2 : Hid (∀ ad : Addr, A2' = some ad → W0.heap.size < ad.block ∧ ad.block < y) := fun ad e => by have := hiv' ad.block (by rw [e]; rfl); omega
    have c0 := HY.out.cell0; have c1 := HY.out.cell1
    have HS5 : Hid (w5.heap.size = y + 1) := by rw [Hid, ← hy]; exact hz5
    clear o r1 r2 hiv hiv' b4 b5 hy5 hz5 hy HX3 HX4 HB3 HB4 HR3 HR4 hn2 hn2' hsz4
    by_cases hg : glu ys = true
    · have HI := Lib.hid (glu_iff.1 hg)
      obtain ⟨rfl, rfl, rfl⟩ : ok = true ∧ yt = corL ys ∧ yf = ys := by have := HG.out; rw [gmapR, if_pos hg] at this; simpa [eq_comm] using this
      have HMP := Lib.hid HI.out.isMap
      have e2 : n2 = m := by rw [← HN2.out, corL_len, HM.out]
      have e2' : n2' = m := by rw [← HN2'.out, HM.out]
      subst e2; subst e2'
      have hn1 : 1 ≤ n2' := by have := HI.out.1; rw [HM.out] at this; omega
      clear hg HG
      go_wp2
      rw [HYE.out]
      first | (go_region_with (first
        | (go_at_call 101; refine (perm_pl _ W0.heap.size q3 n2' (HR.out.below ((below_drewN (Below.refl _ _) _))) (by omega) (by omega)).mono ?_; rintro e w7 ⟨v, gs, rfl, o, hly, r7, -, pl, g7⟩; have GG : Hid (Gr W0.heap.size w5 w7) := ((Gr.refl _ _).drewN _).trans g7; obtain ⟨Ag, cg, rfl, hrg, -⟩ := o.form' hly; have HRG := Lib.hid hrg; have HVG : Hid (Vld gs) := pl.vld (by omega) (by omega); have hY7 := HY.out.gr GG.out (by have := HYX.out; omega); have d0 := hY7.cell0; have d1 := hY7.cell1; have HY7 := Lib.hid hY7; have HT7 := Lib.hid (HT.out.gr GG.out (fun ad e _ => by have := HB1.out ad e; omega)); have HF7 := Lib.hid (HF.out.gr GG.out (fun ad e _ => by have := HB2.out ad e; omega)); have HR7 := Lib.hid r7; clear g7 o hly pl hrg hY7 r7)
        | (go_at_call 100; refine (l2Rename_any _ A2 A2' Ag n2' c2 c2' cg (corL yf) yf gs HT7.out HF7.out HRG.out HMP.out.turn HMP.out.flip HVG.out).mono ?_; rintro e w8 ⟨u, u', rfl, o, b8⟩; obtain ⟨A5, c5, A5', c5', rfl, rfl, ra, rb⟩ := o.form ((conjL_len _ _).trans HRG.out.1) ((conjL_len _ _).trans HRG.out.1); have HV5 := Lib.hid o.turn.iv; have HV5' := Lib.hid o.flip.iv; have HTg := Lib.hid ra; have HFg := Lib.hid rb; have hY8 := HY7.out.below b8; have HY8 := Lib.hid hY8; have d0 := hY8.cell0; have d1 := hY8.cell1; have d2 := hY8.frozen 0; have d3 := hY8.frozen 1; have B8 := Lib.hid b8; clear o b8 ra rb hY8))) | fail
      all_goals
        have hs0 := HS0.out
        have hyx := HYX.out
        have hs5 := HS5.out
        have hs7 := GG.out.size
        have hs8 := B8.out.size
        have hrl := HR.out.lt
        obtain ⟨hq1, hq2⟩ := HY8.out.store2 (.slice A5 n2' c5) (.slice A5' n2' c5')
        have hX9 := ((HX.out.gr GG.out (by omega)).below B8.out).gr hq2 (by omega)
        have hT9 := HTg.out.gr hq2 (fun ad e _ => by have := HV5.out ad.block (by rw [e]; rfl); omega)
        have hF9 := HFg.out.gr hq2 (fun ad e _ => by have := HV5'.out ad.block (by rw [e]; rfl); omega)
        have hR9 : Reads ((w8.setCell ⟨y, 0, none⟩ (.slice A5 n2' c5)).setCell ⟨y, 1, none⟩ (.slice A5' n2' c5')) W0.heap.size (q3 + n2') := (HR7.out.below (B8.out.mono (by omega))).below (((Below.refl _ _).setCell (p := ⟨y, 0, none⟩) (by show W0.heap.size + 1 ≤ y; omega) _).setCell (p := ⟨y, 1, none⟩) (by show W0.heap.size + 1 ≤ y; omega) _)
        have hB9 : Below w.heap.size w ((w8.setCell ⟨y, 0, none⟩ (.slice A5 n2' c5)).setCell ⟨y, 1, none⟩ (.slice A5' n2' c5')) := ((HB.out.trans (((GG.out.below (by omega)).mono (by rw [HXE.out]; omega)).trans (B8.out.mono (by rw [HXE.out]; omega)))).setCell (p := ⟨y, 0, none⟩) (by show w.heap.size ≤ y; rw [HXE.out]; omega) _).setCell (p := ⟨y, 1, none⟩) (by show w.heap.size ≤ y; rw [HXE.out]; omega) _
        have HA1 : Hid (∀ ad : Addr, A5 = some ad → W0.heap.size < ad.block) := fun ad e => by have := HV5.out ad.block (by rw [e]; rfl); omega
        have HA2 : Hid (∀ ad : Addr, A5' = some ad → W0.heap.size < ad.block) := fun ad e => by have := HV5'.out ad.block (by rw [e]; rfl); omega
        obtain ⟨w9, hw9⟩ : ∃ W, (w8.setCell ⟨y, 0, none⟩ (.slice A5 n2' c5)).setCell ⟨y, 1, none⟩ (.slice A5' n2' c5') = W := ⟨_, rfl⟩
        rw [hw9] at hq1 hX9 hT9 hF9 hR9 hB9
        clear HX HY HT HF HR HB
        have HX := Lib.hid hX9; have HY := Lib.hid hq1; have HT := Lib.hid hT9; have HF := Lib.hid hF9; have HR := Lib.hid hR9; have HB := Lib.hid hB9
        have hq3' : q3 + n2' ≤ 1000 := by omega
        have z0 := hq1.cell0; have z1 := hq1.cell1
        clear hq1 hq2 hX9 hT9 hF9 hR9 hB9 hs0 hyx hs5 hs7 hs8 hrl d0 d1 d2 d3
        go_simp
        go_wp2
        try rw [hw9]
        first | (go_region_with (first
          | (go_at_call 99; refine (at_any _ W0.heap.size (q3 + n2') n2' (HR.out.below ((below_drewN (Below.refl _ _) _))) (by omega) (by omega)).mono ?_; rintro e wz ⟨r, rfl, hr1, hr2, -, g4⟩; have GG : Hid (Gr W0.heap.size w9 wz) := ((Gr.refl _ _).drewN _).trans g4; have hX4 := HX.out.gr GG.out (by have := HS0.out; omega); have hY4 := HY.out.gr GG.out (by have := HYX.out; omega); have HX4 := Lib.hid hX4; have d0 := hY4.cell0; have d1 := hY4.cell1; have e0 := hX4.cell0; have e1 := hX4.cell1; have e2 := hX4.frozen 0; have e3 := hX4.frozen 1; clear g4 hX4 hY4))) | fail
        all_goals
          have hs0 := HS0.out
          have hT4 := HT.out.gr GG.out (fun ad e _ => by have := HA1.out ad e; omega)
          have hF4 := HF.out.gr GG.out (fun ad e _ => by have := HA2.out ad e; omega)
          have hB4 : Below w.heap.size w wz := HB.out.trans ((GG.out.below (by have := HR.out.lt; omega)).mono (by rw [HXE.out]; omega))
          obtain ⟨W', hW', k0, k1, q1, q2, q3⟩ := fin_draw (w := w) (c := c5) (c' := c5') HX4.out (by rw [HXE.out]; exact Nat.le_refl _) hT4 hF4 (fun ad e => by have := HA1.out ad e; omega) (fun ad e => by have := HA2.out ad e; omega) hB4
          have HQ := Lib.hid (And.intro q1 (And.intro q2 q3)); clear q1 q2 q3 hT4 hF4 hB4 hs0
          have hr12 : r ≤ 12 := by omega
          go_simp
          go_wp2
          exact bodyPost_ret (v := .tuple #[.agg #[.slice A5 n2' c5, .slice A5' n2' c5'], .int .i64 r]) (by simp [results, Try.results58, go_sem, k0, k1]) rfl ⟨_, _, _, _, _, _, _, _, _, rfl, HQ.out.1, HQ.out.2.1, hl', hl', ⟨hr1, hr12⟩, HQ.out.2.2⟩
    · have hgf : glu ys = false := by simpa using hg
      obtain ⟨rfl, rfl, rfl⟩ : ok = false ∧ yt = [] ∧ yf = [] := by have := HG.out; rw [gmapR, if_neg hg] at this; simpa [eq_comm] using this
      have e0 := HX.out.cell0; have e1 := HX.out.cell1; have e2 := HX.out.frozen 0; have e3 := HX.out.frozen 1
      obtain ⟨W', hW', k0, k1, q1, q2, q3⟩ := fin_draw (w := w) (c := c2) (c' := c2') HX.out (by rw [HXE.out]; exact Nat.le_refl _) HT.out HF.out (fun ad e => by have := HB1.out ad e; have := HS0.out; omega) (fun ad e => by have := HB2.out ad e; have := HS0.out; omega) HB.out
      have HQ := Lib.hid (And.intro q1 (And.intro q2 q3)); clear q1 q2 q3 hg hgf
      have c0' : w5.cell? ⟨w4.heap.size, 0, none⟩ = some (.slice A2 n2 c2) := by rw [HYE.out]; exact c0
      have c1' : w5.cell? ⟨w4.heap.size, 1, none⟩ = some (.slice A2' n2' c2') := by rw [HYE.out]; exact c1
      go_wp2
      exact bodyPost_ret (v := .tuple #[.agg #[.slice A2 n2 c2, .slice A2' n2' c2'], .int .i64 0]) (by simp [results, Try.results58, go_sem, k0, k1]) rfl ⟨_, _, _, _, _, _, _, _, _, rfl, HQ.out.1, HQ.out.2.1, hl, hl', ⟨by omega, by omega⟩, HQ.out.2.2⟩

end Go.Proofs.Ytfcgfeopmnjfjaa
