/-
  The draw of a map and a list to rename it by.
-/
import Derived.Test.YteajaikgeephmaaDrawM
import Derived.Deep.RegionWith
namespace Go.Proofs.Yteajaikgeephmaa
open Go.RowKit

theorem fin_draw3 {w Wf : World} {x n n' c c' m d lo : Nat} {A A' B : Option Addr} {t f g : List Int} {u u' : Value} (hx : Box Wf x 35 u u') (hxw : w.heap.size ≤ x) (r1 : Rd Wf A n t) (r2 : Rd Wf A' n' f)
    (a1 : ∀ ad : Addr, A = some ad → x < ad.block) (a2 : ∀ ad : Addr, A' = some ad → x < ad.block) (o : Own Wf lo (.slice B m d) g) (hlo : x < lo) (r3 : Rd Wf B m g) (hg : g.length = m) (hb : Below w.heap.size w Wf) :
    ∃ W', (Wf.setCell ⟨x, 0, none⟩ (.slice A n c)).setCell ⟨x, 1, none⟩ (.slice A' n' c') = W' ∧ W'.cell? ⟨x, 0, none⟩ = some (.slice A n c) ∧ W'.cell? ⟨x, 1, none⟩ = some (.slice A' n' c') ∧ Rd W' A n t ∧ Rd W' A' n' f ∧ Rd W' B m g ∧ Below w.heap.size w W' := by
  obtain ⟨hq1, hq2⟩ := hx.store2 (.slice A n c) (.slice A' n' c')
  refine ⟨_, rfl, hq1.cell0, hq1.cell1, r1.gr hq2 (fun ad e _ => by have := a1 ad e; omega), r2.gr hq2 (fun ad e _ => by have := a2 ad e; omega), r3.gr hq2 (fun ad e hm => ?_), hb.grown hq2 hb.size (fun k hk => by cases hk; exact hxw)⟩
  obtain ⟨gg, e', hgg, -, -⟩ := o.cellAt hg (k := 0) hm
  rw [e] at e'
  injection e' with e'
  rw [e']
  show gg ≠ x
  omega

set_option maxHeartbeats 3200000 in
theorem drawMapRename_any (w : World) (A : Option Addr) (n c : Nat) (bs : List Int) (h : RdB w A n bs) (hn : n ≤ 1048576) (hc : n ≤ c) :
    Calls Try.prog 42 #[.slice A n c] w fun e w' => ∃ A A' n n' c c' t f, ∃ B m d g, e = .returned (.tuple #[.agg #[.slice A n c, .slice A' n' c'], .slice B m d]) ∧ Rd w' A n t ∧ Rd w' A' n' f ∧ n ≤ 12 ∧ n' ≤ 12 ∧ (Rd w' B m g ∧ m ≤ 1000) ∧ Below w.heap.size w w' := by
  obtain ⟨W0, hW0, hx0, hb0, hs0⟩ := Box.local_ w 35 (.slice none 0 0) (.slice none 0 0)
  obtain ⟨x, hx⟩ : ∃ x, w.heap.size = x := ⟨_, rfl⟩
  have HRB : Hid (RdB W0 A n bs) := ⟨h.1, fun h0 => by
    obtain ⟨ad, e, hcell⟩ := h.2.1 h0
    exact ⟨ad, e, fun j hj => (hb0.cell (World.block_lt_of_cell? w _ (hcell j hj))).trans (hcell j hj)⟩, h.2.2⟩
  have HX0 : Hid (Box W0 x 35 (.slice none 0 0) (.slice none 0 0)) := by rw [← hx]; exact hx0
  have HB0 := Lib.hid hb0
  have HXE := Lib.hid hx
  rw [hx] at hs0
  have HS0 := Lib.hid hs0
  clear hx hx0 hb0 h hs0
  go_enter Try.func42, Try.ntmps42
  go_wp2_with fail
  rw [HXE.out]
  refine (open_reads W0 A n c bs HRB.out hn hc).mono ?_
  rintro e w1 ⟨rfl, r1, b1, s1⟩
  have HX1 := Lib.hid (HX0.out.below b1); have HB1 := Lib.hid (HB0.out.trans (b1.mono HB0.out.size)); have HR1 := Lib.hid r1
  clear r1 b1
  go_wp2_with fail
  refine (map_any w1 W0.heap.size 0 5 HR1.out (by omega) (by omega) (by omega)).mono ?_
  rintro e w2 ⟨A2, A2', n2, n2', c2, c2', t, f, rfl, r1, r2, hl, hl', a1, a2, ⟨q2, hq2, rd2⟩, g⟩
  have HX2 := Lib.hid (HX1.out.gr g (by have := HS0.out; omega))
  have HT2 := Lib.hid r1; have HF2 := Lib.hid r2; have HA1 := Lib.hid a1; have HA2 := Lib.hid a2; have HR2 := Lib.hid rd2
  have HB2 : Hid (Below w.heap.size w w2) := HB1.out.trans (g.below (by have := HS0.out; omega) |>.mono (by rw [HXE.out]; have := HS0.out; omega))
  have hsz2 := g.size
  clear r1 r2 a1 a2 rd2 g
  obtain ⟨w3, hW3, hy3, b3, hz3⟩ := Box.local_ w2 35 (.slice A2 n2 c2) (.slice A2' n2' c2')
  obtain ⟨y, hy⟩ : ∃ y, w2.heap.size = y := ⟨_, rfl⟩
  have HY3 : Hid (Box w3 y 35 (.slice A2 n2 c2) (.slice A2' n2' c2')) := by rw [← hy]; exact hy3
  have HX3 := Lib.hid (HX2.out.below b3); have HT3 := Lib.hid (HT2.out.below b3); have HF3 := Lib.hid (HF2.out.below b3); have HR3 := Lib.hid (HR2.out.below (b3.mono (by have := HR2.out.lt; omega)))
  have HB3 := Lib.hid (HB2.out.trans (b3.mono HB2.out.size))
  have HYE := Lib.hid hy
  have hs3 : w3.heap.size = y + 1 := by rw [← hy]; exact hz3
  have HS3 := Lib.hid hs3
  have hyx : W0.heap.size < y := by rw [← hy]; exact HR2.out.lt
  have hyx2 : x < y := by have := HS0.out; omega
  have c0 := HY3.out.cell0; have c1 := HY3.out.cell1
  clear hy3 b3 hz3 hy HX2 HT2 HF2 HR2 HB2 hs3 hsz2
  go_wp2_with fail
  rw [HYE.out]
  refine (pick_reads w3 W0.heap.size q2 HR3.out (by omega) 16 (by omega) (by omega)).mono ?_
  rintro e w4 ⟨z, rfl, hz, r4, g4⟩
  have g4' : Gr W0.heap.size w3 w4 := g4
  have HX4 := Lib.hid (HX3.out.gr g4' (by have := HS0.out; omega)); have hY4 := HY3.out.gr g4' (by omega)
  have HT4 := Lib.hid (HT3.out.gr g4' (fun ad e _ => by have := HA1.out ad e; have := HS0.out; omega))
  have HF4 := Lib.hid (HF3.out.gr g4' (fun ad e _ => by have := HA2.out ad e; have := HS0.out; omega))
  have HB4 : Hid (Below w.heap.size w w4) := HB3.out.trans ((g4'.below (by have := HR3.out.lt; omega)).mono (by rw [HXE.out]; have := HS0.out; omega))
  have HR4 := Lib.hid r4; have HY4 := Lib.hid hY4
  have hs4 : w3.heap.size ≤ w4.heap.size := g4'.size
  have HS4 := Lib.hid hs4
  have d0 := hY4.cell0; have d1 := hY4.cell1
  clear r4 g4 g4' hY4 HX3 HY3 HT3 HF3 HB3 HR3 c0 c1 hs4
  by_cases hz0 : z = 0
  · subst hz0
    go_wp2
    first | (go_region_with (first
      | (go_at_call 86; refine (some_reads _ W0.heap.size (q2 + 1) 10 (HR4.out.below ((below_drewN (Below.refl _ _) _))) (by omega) (by omega) (by omega)).mono ?_; rintro e w5 ⟨v, ys, rfl, o, hly, g5, -⟩; have GG : Hid (Gr W0.heap.size w4 w5) := ((Gr.refl _ _).drewN _).trans g5; have hX5 := HX4.out.gr GG.out (by have := HS0.out; omega); have hY5 := HY4.out.gr GG.out (by omega); have HX5 := Lib.hid hX5; have d0 := hY5.cell0; have d1 := hY5.cell1; have e0 := hX5.cell0; have e1 := hX5.cell1; have e2 := hX5.frozen 0; have e3 := hX5.frozen 1; have HO5 : Hid (Own w5 w4.heap.size v ys) := o; have HLY := Lib.hid hly; clear g5 hX5 hY5 o hly))) | fail
    all_goals
      obtain ⟨Ag, cg, rfl, hrg, -⟩ := HO5.out.form
      have hs0 := HS0.out
      have hs4 := HS4.out
      have hs3 := HS3.out
      have hly := HLY.out
      have hT5 := HT4.out.gr GG.out (fun ad e _ => by have := HA1.out ad e; omega)
      have hF5 := HF4.out.gr GG.out (fun ad e _ => by have := HA2.out ad e; omega)
      have hB5 : Below w.heap.size w w5 := HB4.out.trans ((GG.out.below (by have := HR4.out.lt; omega)).mono (by rw [HXE.out]; omega))
      obtain ⟨W', hW', k0, k1, q1, q2, q4, q3⟩ := fin_draw3 (w := w) (c := c2) (c' := c2') HX5.out (by rw [HXE.out]; exact Nat.le_refl _) hT5 hF5 (fun ad e => by have := HA1.out ad e; omega) (fun ad e => by have := HA2.out ad e; omega) HO5.out (by omega) hrg rfl hB5
      have HQ := Lib.hid (And.intro q1 (And.intro q2 (And.intro q4 q3))); clear q1 q2 q3 q4 hT5 hF5 hB5 hs0 hs4 hs3
      have hle : ys.length ≤ 1000 := by omega
      obtain ⟨N, hN⟩ : ∃ N, ys.length = N := ⟨_, rfl⟩
      rw [hN] at HQ hle
      rw [hN]
      clear hN hly hrg
      go_simp
      go_wp2
      exact bodyPost_ret (v := .tuple #[.agg #[.slice A2 n2 c2, .slice A2' n2' c2'], .slice Ag N cg]) (by simp [results, Try.results42, go_sem, k0, k1]) rfl ⟨_, _, _, _, _, _, _, _, _, _, _, _, rfl, HQ.out.1, HQ.out.2.1, hl, hl', ⟨HQ.out.2.2.1, hle⟩, HQ.out.2.2.2⟩
  have hdz : ((z : Int) == 0) = false := by simp [hz0]
  by_cases hn0 : n2 = 0
  · have hdn : ((n2 : Int) == 0) = true := by simp [hn0]
    have HN0 := Lib.hid hn0
    clear hn0
    go_wp2
    first | (go_region_with (first
      | (go_at_call 86; refine (some_reads _ W0.heap.size (q2 + 1) 10 (HR4.out.below ((below_drewN (Below.refl _ _) _))) (by omega) (by omega) (by omega)).mono ?_; rintro e w5 ⟨v, ys, rfl, o, hly, g5, -⟩; have GG : Hid (Gr W0.heap.size w4 w5) := ((Gr.refl _ _).drewN _).trans g5; have hX5 := HX4.out.gr GG.out (by have := HS0.out; omega); have hY5 := HY4.out.gr GG.out (by omega); have HX5 := Lib.hid hX5; have d0 := hY5.cell0; have d1 := hY5.cell1; have e0 := hX5.cell0; have e1 := hX5.cell1; have e2 := hX5.frozen 0; have e3 := hX5.frozen 1; have HO5 : Hid (Own w5 w4.heap.size v ys) := o; have HLY := Lib.hid hly; clear g5 hX5 hY5 o hly))) | fail
    all_goals
      obtain ⟨Ag, cg, rfl, hrg, -⟩ := HO5.out.form
      have hs0 := HS0.out
      have hs4 := HS4.out
      have hs3 := HS3.out
      have hly := HLY.out
      have hT5 := HT4.out.gr GG.out (fun ad e _ => by have := HA1.out ad e; omega)
      have hF5 := HF4.out.gr GG.out (fun ad e _ => by have := HA2.out ad e; omega)
      have hB5 : Below w.heap.size w w5 := HB4.out.trans ((GG.out.below (by have := HR4.out.lt; omega)).mono (by rw [HXE.out]; omega))
      obtain ⟨W', hW', k0, k1, q1, q2, q4, q3⟩ := fin_draw3 (w := w) (c := c2) (c' := c2') HX5.out (by rw [HXE.out]; exact Nat.le_refl _) hT5 hF5 (fun ad e => by have := HA1.out ad e; omega) (fun ad e => by have := HA2.out ad e; omega) HO5.out (by omega) hrg rfl hB5
      have HQ := Lib.hid (And.intro q1 (And.intro q2 (And.intro q4 q3))); clear q1 q2 q3 q4 hT5 hF5 hB5 hs0 hs4 hs3
      have hle : ys.length ≤ 1000 := by omega
      obtain ⟨N, hN⟩ : ∃ N, ys.length = N := ⟨_, rfl⟩
      rw [hN] at HQ hle
      rw [hN]
      clear hN hly hrg
      go_simp
      go_wp2
      exact bodyPost_ret (v := .tuple #[.agg #[.slice A2 n2 c2, .slice A2' n2' c2'], .slice Ag N cg]) (by simp [results, Try.results42, go_sem, k0, k1]) rfl ⟨_, _, _, _, _, _, _, _, _, _, _, _, rfl, HQ.out.1, HQ.out.2.1, hl, hl', ⟨HQ.out.2.2.1, hle⟩, HQ.out.2.2.2⟩
  · have hdn : ((n2 : Int) == 0) = false := by simp [hn0]
    go_wp2
    first | (go_region_with (first
      | (go_at_call 71; refine (perm_pl _ W0.heap.size (q2 + 1) n2 (HR4.out.below ((below_drewN (Below.refl _ _) _))) (by omega) (by omega)).mono ?_; rintro e w5 ⟨v, ys, rfl, o, hly, -, -, -, g5⟩; have GG : Hid (Gr W0.heap.size w4 w5) := ((Gr.refl _ _).drewN _).trans g5; have hX5 := HX4.out.gr GG.out (by have := HS0.out; omega); have hY5 := HY4.out.gr GG.out (by omega); have HX5 := Lib.hid hX5; have d0 := hY5.cell0; have d1 := hY5.cell1; have e0 := hX5.cell0; have e1 := hX5.cell1; have e2 := hX5.frozen 0; have e3 := hX5.frozen 1; have HO5 : Hid (Own w5 w4.heap.size v ys) := o; have HLY := Lib.hid hly; clear g5 hX5 hY5 o hly))) | fail
    all_goals
      obtain ⟨Ag, cg, rfl, hrg, -⟩ := HO5.out.form
      have hs0 := HS0.out
      have hs4 := HS4.out
      have hs3 := HS3.out
      have hly := HLY.out
      have hT5 := HT4.out.gr GG.out (fun ad e _ => by have := HA1.out ad e; omega)
      have hF5 := HF4.out.gr GG.out (fun ad e _ => by have := HA2.out ad e; omega)
      have hB5 : Below w.heap.size w w5 := HB4.out.trans ((GG.out.below (by have := HR4.out.lt; omega)).mono (by rw [HXE.out]; omega))
      obtain ⟨W', hW', k0, k1, q1, q2, q4, q3⟩ := fin_draw3 (w := w) (c := c2) (c' := c2') HX5.out (by rw [HXE.out]; exact Nat.le_refl _) hT5 hF5 (fun ad e => by have := HA1.out ad e; omega) (fun ad e => by have := HA2.out ad e; omega) HO5.out (by omega) hrg rfl hB5
      have HQ := Lib.hid (And.intro q1 (And.intro q2 (And.intro q4 q3))); clear q1 q2 q3 q4 hT5 hF5 hB5 hs0 hs4 hs3
      have hle : ys.length ≤ 1000 := by omega
      obtain ⟨N, hN⟩ : ∃ N, ys.length = N := ⟨_, rfl⟩
      rw [hN] at HQ hle
      rw [hN]
      clear hN hly hrg
      go_simp
      go_wp2
      exact bodyPost_ret (v := .tuple #[.agg #[.slice A2 n2 c2, .slice A2' n2' c2'], .slice Ag N cg]) (by simp [results, Try.results42, go_sem, k0, k1]) rfl ⟨_, _, _, _, _, _, _, _, _, _, _, _, rfl, HQ.out.1, HQ.out.2.1, hl, hl', ⟨HQ.out.2.2.1, hle⟩, HQ.out.2.2.2⟩

end Go.Proofs.Yteajaikgeephmaa
