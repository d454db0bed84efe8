/-
  The draw of two maps that are often the same.
-/
import Derived.Test.YteajaikgeephmaaDrawM
import Derived.Test.YteajaikgeephmaaRename
import Derived.Deep.RegionWith
namespace Go.Proofs.Yteajaikgeephmaa
open Go.RowKit

theorem fin_maps {w Wf : World} {x x2 n n' c c' m m' d d' : Nat} {A A' B B' : Option Addr} {t f t2 f2 : List Int} {u u' v v' : Value} (hx : Box Wf x 35 u u') (hv : Box Wf x2 35 v v') (hxw : w.heap.size ≤ x) (hxx : x < x2)
    (r1 : Rd Wf A n t) (r2 : Rd Wf A' n' f) (r3 : Rd Wf B m t2) (r4 : Rd Wf B' m' f2) (a1 : ∀ ad : Addr, A = some ad → x2 < ad.block) (a2 : ∀ ad : Addr, A' = some ad → x2 < ad.block) (a3 : ∀ ad : Addr, B = some ad → x2 < ad.block) (a4 : ∀ ad : Addr, B' = some ad → x2 < ad.block) (hb : Below w.heap.size w Wf) :
    ∃ W' W1, (Wf.setCell ⟨x, 0, none⟩ (.slice A n c)).setCell ⟨x, 1, none⟩ (.slice A' n' c') = W1 ∧ (W1.setCell ⟨x2, 0, none⟩ (.slice B m d)).setCell ⟨x2, 1, none⟩ (.slice B' m' d') = W' ∧ W1.cell? ⟨x2, 0, none⟩ = some v ∧ W1.cell? ⟨x2, 1, none⟩ = some v' ∧ W1.frozen? ⟨x2, 0, none⟩ = false ∧ W1.frozen? ⟨x2, 1, none⟩ = false ∧
      W'.cell? ⟨x, 0, none⟩ = some (.slice A n c) ∧ W'.cell? ⟨x, 1, none⟩ = some (.slice A' n' c') ∧ W'.cell? ⟨x2, 0, none⟩ = some (.slice B m d) ∧ W'.cell? ⟨x2, 1, none⟩ = some (.slice B' m' d') ∧ Rd W' A n t ∧ Rd W' A' n' f ∧ Rd W' B m t2 ∧ Rd W' B' m' f2 ∧ Below w.heap.size w W' := by
  obtain ⟨hq1, hq2⟩ := hx.store2 (.slice A n c) (.slice A' n' c')
  have hv1 := hv.gr hq2 (by omega)
  obtain ⟨hp1, hp2⟩ := hv1.store2 (.slice B m d) (.slice B' m' d')
  have hx1 := hq1.gr hp2 (by omega)
  exact ⟨_, _, rfl, rfl, hv1.cell0, hv1.cell1, hv1.frozen 0, hv1.frozen 1, hx1.cell0, hx1.cell1, hp1.cell0, hp1.cell1,
    (r1.gr hq2 (fun ad e _ => by have := a1 ad e; omega)).gr hp2 (fun ad e _ => by have := a1 ad e; omega), (r2.gr hq2 (fun ad e _ => by have := a2 ad e; omega)).gr hp2 (fun ad e _ => by have := a2 ad e; omega),
    (r3.gr hq2 (fun ad e _ => by have := a3 ad e; omega)).gr hp2 (fun ad e _ => by have := a3 ad e; omega), (r4.gr hq2 (fun ad e _ => by have := a4 ad e; omega)).gr hp2 (fun ad e _ => by have := a4 ad e; omega),
    (hb.grown hq2 hb.size (fun k hk => by cases hk; exact hxw)).grown hp2 (Nat.le_trans hb.size (Gr.size hq2)) (fun k hk => by cases hk; omega)⟩
set_option maxHeartbeats 3200000 in
theorem drawMapSame_any (w : World) (A : Option Addr) (n c : Nat) (bs : List Int) (h : RdB w A n bs) (hn : n ≤ 1048576) (hc : n ≤ c) :
    Calls Try.prog 48 #[.slice A n c] w fun e w' => ∃ A A' n n' c c' t f B B' m m' d d' t2 f2, e = .returned (.tuple #[.agg #[.slice A n c, .slice A' n' c'], .agg #[.slice B m d, .slice B' m' d']]) ∧ Rd w' A n t ∧ Rd w' A' n' f ∧ n ≤ 12 ∧ n' ≤ 12 ∧ Rd w' B m t2 ∧ Rd w' B' m' f2 ∧ m ≤ 12 ∧ m' ≤ 12 ∧ Below w.heap.size w w' := by
  obtain ⟨W0, hW0, hx0, hv0, hb0, hs0⟩ := two_boxes w 35 35 (.slice none 0 0) (.slice none 0 0) (.slice none 0 0) (.slice none 0 0)
  obtain ⟨x, hx⟩ : ∃ x, w.heap.size = x := ⟨_, rfl⟩
  have HRB : Hid (RdB W0 A n bs) := ⟨h.1, fun h0 => by
    obtain ⟨ad, e, hcell⟩ := h.2.1 h0
    exact ⟨ad, e, fun j hj => (hb0.cell (World.block_lt_of_cell? w _ (hcell j hj))).trans (hcell j hj)⟩, h.2.2⟩
  have HX0 : Hid (Box W0 x 35 (.slice none 0 0) (.slice none 0 0)) := by rw [← hx]; exact hx0
  obtain ⟨x2, hx2⟩ : ∃ x2, w.heap.size + 1 = x2 := ⟨_, rfl⟩
  have HV0 : Hid (Box W0 x2 35 (.slice none 0 0) (.slice none 0 0)) := by rw [← hx2]; exact hv0
  have HX2E := Lib.hid hx2
  have HB0 := Lib.hid hb0
  have HXE := Lib.hid hx
  replace hs0 : W0.heap.size = x + 2 := by rw [← hx]; exact hs0
  have hxx : x + 1 = x2 := by rw [← hx]; exact hx2
  have HXX := Lib.hid hxx
  have HS0 := Lib.hid hs0
  clear hx hx0 hb0 h hs0 hv0 hx2 hxx
  go_enter Try.func48, Try.ntmps48
  go_wp2_with fail
  try rw [HX2E.out]
  try rw [HXE.out]
  refine (open_reads W0 A n c bs HRB.out hn hc).mono ?_
  rintro e w1 ⟨rfl, r1, b1, s1⟩
  have HX1 := Lib.hid (HX0.out.below b1); have HV1 := Lib.hid (HV0.out.below b1); have HB1 := Lib.hid (HB0.out.trans (b1.mono HB0.out.size)); have HR1 := Lib.hid r1
  clear r1 b1
  go_wp2_with fail
  refine (map_any w1 W0.heap.size 0 4 HR1.out (by omega) (by omega) (by omega)).mono ?_
  rintro e w2 ⟨A2, A2', n2, n2', c2, c2', t, f, rfl, r1, r2, hl, hl', a1, a2, ⟨q2, hq2, rd2⟩, g⟩
  have HX2 := Lib.hid (HX1.out.gr g (by have := HS0.out; omega))
  have HV2 := Lib.hid (HV1.out.gr g (by have := HS0.out; have := HXX.out; omega))
  have HT2 := Lib.hid r1; have HF2 := Lib.hid r2; have HA1 := Lib.hid a1; have HA2 := Lib.hid a2; have HR2 := Lib.hid rd2
  have HB2 : Hid (Below w.heap.size w w2) := HB1.out.trans (g.below (by have := HS0.out; omega) |>.mono (by rw [HXE.out]; have := HS0.out; omega))
  have hsz2 := g.size
  clear r1 r2 a1 a2 rd2 g
  obtain ⟨w3, hW3, hy3, b3, hz3⟩ := Box.local_ w2 35 (.slice A2 n2 c2) (.slice A2' n2' c2')
  obtain ⟨y, hy⟩ : ∃ y, w2.heap.size = y := ⟨_, rfl⟩
  have HY3 : Hid (Box w3 y 35 (.slice A2 n2 c2) (.slice A2' n2' c2')) := by rw [← hy]; exact hy3
  have HX3 := Lib.hid (HX2.out.below b3); have HV3 := Lib.hid (HV2.out.below b3); have HT3 := Lib.hid (HT2.out.below b3); have HF3 := Lib.hid (HF2.out.below b3); have HR3 := Lib.hid (HR2.out.below (b3.mono (by have := HR2.out.lt; omega)))
  have HB3 := Lib.hid (HB2.out.trans (b3.mono HB2.out.size))
  have HYE := Lib.hid hy
  have hs3 : w3.heap.size = y + 1 := by rw [← hy]; exact hz3
  have HS3 := Lib.hid hs3
  have hyx : W0.heap.size < y := by rw [← hy]; exact HR2.out.lt
  have hyx2 : x < y := by have := HS0.out; omega
  have c0 := HY3.out.cell0; have c1 := HY3.out.cell1
  clear hy3 b3 hz3 hy HX2 HV2 HT2 HF2 HR2 HB2 hs3 hsz2
  go_wp2_with fail
  rw [HYE.out]
  refine (pick_reads w3 W0.heap.size q2 HR3.out (by omega) 3 (by omega) (by omega)).mono ?_
  rintro e w4 ⟨z, rfl, hz, r4, g4⟩
  have g4' : Gr W0.heap.size w3 w4 := g4
  have HX4 := Lib.hid (HX3.out.gr g4' (by have := HS0.out; omega)); have HV4 := Lib.hid (HV3.out.gr g4' (by have := HS0.out; have := HXX.out; omega)); have hY4 := HY3.out.gr g4' (by omega)
  have HT4 := Lib.hid (HT3.out.gr g4' (fun ad e _ => by have := HA1.out ad e; have := HS0.out; omega))
  have HF4 := Lib.hid (HF3.out.gr g4' (fun ad e _ => by have := HA2.out ad e; have := HS0.out; omega))
  have HB4 : Hid (Below w.heap.size w w4) := HB3.out.trans ((g4'.below (by have := HR3.out.lt; omega)).mono (by rw [HXE.out]; have := HS0.out; omega))
  have HR4 := Lib.hid r4; have HY4 := Lib.hid hY4
  have hs4 : w3.heap.size ≤ w4.heap.size := g4'.size
  have HS4 := Lib.hid hs4
  have d0 := hY4.cell0; have d1 := hY4.cell1
  clear r4 g4 g4' hY4 HX3 HV3 HY3 HT3 HF3 HB3 HR3 c0 c1 hs4
  by_cases hz0 : z = 0
  · subst hz0
    go_wp2
    first | (go_region_with (first
      | (go_at_call 73; refine (map_any _ W0.heap.size (q2 + 1) 2 (HR4.out.below ((below_drewN (Below.refl _ _) _))) (by omega) (by omega) (by omega)).mono ?_; rintro e w5 ⟨A5, A5', n5, n5', c5, c5', t5, f5, rfl, ra, rb, h5, h5', a3, a4, -, g5⟩; have GG : Hid (Gr W0.heap.size w4 w5) := ((Gr.refl _ _).drewN _).trans g5; have hXf := HX4.out.gr GG.out (by have := HS0.out; omega); have hVf := HV4.out.gr GG.out (by have := HS0.out; have := HXX.out; omega); have hY5 := HY4.out.gr GG.out (by omega); have HXf := Lib.hid hXf; have HVf := Lib.hid hVf; have d0 := hY5.cell0; have d1 := hY5.cell1; have e0 := hXf.cell0; have e1 := hXf.cell1; have e2 := hXf.frozen 0; have e3 := hXf.frozen 1; have HTg := Lib.hid ra; have HFg := Lib.hid rb; have HA3 := Lib.hid (above_drew (x := x2) a3 HV4.out.lt); have HA4 := Lib.hid (above_drew (x := x2) a4 HV4.out.lt); clear g5 hXf hVf hY5 ra rb a3 a4; have HTf := Lib.hid (HT4.out.gr GG.out (fun ad e _ => by have := HA1.out ad e; have := HS0.out; omega)); have HFf := Lib.hid (HF4.out.gr GG.out (fun ad e _ => by have := HA2.out ad e; have := HS0.out; omega)); have HBf : Hid (Below w.heap.size w w5) := HB4.out.trans ((GG.out.below (by have := HR4.out.lt; omega)).mono (by rw [HXE.out]; have := HS0.out; omega)); obtain ⟨W', W1, hW1, hW', l0, l1, l2, l3, k0, k1, k2, k3, q1, q2, q3, q4, q5⟩ := fin_maps (w := w) (c := c2) (c' := c2') (d := c5) (d' := c5') HXf.out HVf.out (by rw [HXE.out]; exact Nat.le_refl _) (by have := HXX.out; omega) HTf.out HFf.out HTg.out HFg.out (fun ad e => by have := HA1.out ad e; have := HS0.out; have := HXX.out; omega) (fun ad e => by have := HA2.out ad e; have := HS0.out; have := HXX.out; omega) HA3.out HA4.out HBf.out; have HQ := Lib.hid (And.intro q1 (And.intro q2 (And.intro q3 (And.intro q4 q5)))); clear q1 q2 q3 q4 q5))) | fail
    all_goals
      go_simp
      go_wp2
      exact bodyPost_ret (v := .tuple #[.agg #[.slice A2 n2 c2, .slice A2' n2' c2'], .agg #[.slice A5 n5 c5, .slice A5' n5' c5']]) (by simp [results, Try.results48, go_sem, k0, k1, k2, k3]) rfl ⟨_, _, _, _, _, _, _, _, _, _, _, _, _, _, _, _, rfl, HQ.out.1, HQ.out.2.1, hl, hl', HQ.out.2.2.1, HQ.out.2.2.2.1, h5, h5', HQ.out.2.2.2.2⟩
  have hdz : decide ((0 : Int) < (z : Int)) = true := by simp; omega
  go_wp2_with fail
  refine (specMap_any A2 A2' n2 n2' c2 c2' t f w4 HT4.out HF4.out (by omega) (by omega)).mono ?_
  rintro e w6 ⟨rfl, b6⟩
  have HX6 := Lib.hid (HX4.out.below b6); have HV6 := Lib.hid (HV4.out.below b6); have hY6 := HY4.out.below b6; have HY6 := Lib.hid hY6; have HT6 := Lib.hid (HT4.out.below b6); have HF6 := Lib.hid (HF4.out.below b6)
  have HB6 := Lib.hid (HB4.out.trans (b6.mono HB4.out.size)); have HR6 := Lib.hid (HR4.out.below (b6.mono (by have := HR4.out.lt; omega)))
  have hs6 : w4.heap.size ≤ w6.heap.size := b6.size
  have HS6 := Lib.hid hs6
  have d0 := hY6.cell0; have d1 := hY6.cell1
  clear b6 hY6 hs6
  by_cases hmv : mapV t f = true
  · have HM := Lib.hid (mapV_iff.1 hmv)
    rw [hmv]
    clear hmv
    obtain rfl : n2 = n2' := by rw [← HT6.out.1, ← HF6.out.1]; exact HM.out.len
    have hn2 : 1 ≤ n2 := by rw [← HT6.out.1]; exact HM.out.turn.1
    go_wp2
    first | (go_region_with (first
      | (go_at_call 71; refine (perm_pl _ W0.heap.size (q2 + 1) n2 (HR6.out.below ((below_drewN (Below.refl _ _) _))) (by omega) (by omega)).mono ?_; rintro e w7 ⟨v, ys, rfl, o, hly, -, -, pl, g7⟩; have GG : Hid (Gr W0.heap.size w6 w7) := ((Gr.refl _ _).drewN _).trans g7; obtain ⟨Ag, cg, rfl, hrg, -⟩ := o.form' hly; have HRG := Lib.hid hrg; have HVG : Hid (Vld ys) := pl.vld (by omega) (by omega); have hY7 := HY6.out.gr GG.out (by omega); have d0 := hY7.cell0; have d1 := hY7.cell1; have HY7 := Lib.hid hY7; have HT7 := Lib.hid (HT6.out.gr GG.out (fun ad e _ => by have := HA1.out ad e; have := HS0.out; omega)); have HF7 := Lib.hid (HF6.out.gr GG.out (fun ad e _ => by have := HA2.out ad e; have := HS0.out; omega)); clear g7 o hly pl hrg hY7)
      | (go_at_call 87; refine (l2Rename_any _ A2 A2' Ag n2 c2 c2' cg t f ys HT7.out HF7.out HRG.out HM.out.turn HM.out.flip HVG.out).mono ?_; rintro e w5 ⟨u, u', rfl, o, b5⟩; obtain ⟨A5, c5, A5', c5', rfl, rfl, ra, rb⟩ := o.form ((conjL_len _ _).trans HRG.out.1) ((conjL_len _ _).trans HRG.out.1); have hab := o.above (x := x2) ((conjL_len _ _).trans HRG.out.1) ((conjL_len _ _).trans HRG.out.1) hn2 hn2 (by have := HS0.out; have := HXX.out; have := HR6.out.lt; have := GG.out.size; omega); have HA3 := Lib.hid hab.1; have HA4 := Lib.hid hab.2; have HTg := Lib.hid ra; have HFg := Lib.hid rb; have hXf := (HX6.out.gr GG.out (by have := HS0.out; omega)).below b5; have hVf := (HV6.out.gr GG.out (by have := HS0.out; have := HXX.out; omega)).below b5; have hY5 := HY7.out.below b5; have HXf := Lib.hid hXf; have HVf := Lib.hid hVf; have d0 := hY5.cell0; have d1 := hY5.cell1; have e0 := hXf.cell0; have e1 := hXf.cell1; have e2 := hXf.frozen 0; have e3 := hXf.frozen 1; have B5 := Lib.hid b5; clear o b5 ra rb hab hXf hVf hY5; have HTf := Lib.hid (HT7.out.below B5.out); have HFf := Lib.hid (HF7.out.below B5.out); have HBf : Hid (Below w.heap.size w w5) := (HB6.out.trans ((GG.out.below (by have := HR6.out.lt; omega)).mono (by rw [HXE.out]; have := HS0.out; omega))).trans (B5.out.mono (by have := HB6.out.size; have := GG.out.size; omega)); have h5 : n2 ≤ 12 := hl; have h5' : n2 ≤ 12 := hl; obtain ⟨W', W1, hW1, hW', l0, l1, l2, l3, k0, k1, k2, k3, q1, q2, q3, q4, q5⟩ := fin_maps (w := w) (c := c2) (c' := c2') (d := c5) (d' := c5') HXf.out HVf.out (by rw [HXE.out]; exact Nat.le_refl _) (by have := HXX.out; omega) HTf.out HFf.out HTg.out HFg.out (fun ad e => by have := HA1.out ad e; have := HS0.out; have := HXX.out; omega) (fun ad e => by have := HA2.out ad e; have := HS0.out; have := HXX.out; omega) HA3.out HA4.out HBf.out; have HQ := Lib.hid (And.intro q1 (And.intro q2 (And.intro q3 (And.intro q4 q5)))); clear q1 q2 q3 q4 q5))) | fail
    all_goals
      go_simp
      go_wp2
      exact bodyPost_ret (v := .tuple #[.agg #[.slice A2 n2 c2, .slice A2' n2 c2'], .agg #[.slice A5 n2 c5, .slice A5' n2 c5']]) (by simp [results, Try.results48, go_sem, k0, k1, k2, k3]) rfl ⟨_, _, _, _, _, _, _, _, _, _, _, _, _, _, _, _, rfl, HQ.out.1, HQ.out.2.1, hl, hl', HQ.out.2.2.1, HQ.out.2.2.2.1, h5, h5', HQ.out.2.2.2.2⟩
  · have hmf : mapV t f = false := by simpa using hmv
    rw [hmf]
    clear hmv hmf
    go_wp2
    first | (go_region_with (first
      | (go_at_call 73; refine (map_any _ W0.heap.size (q2 + 1) 2 (HR6.out.below ((below_drewN (Below.refl _ _) _))) (by omega) (by omega) (by omega)).mono ?_; rintro e w5 ⟨A5, A5', n5, n5', c5, c5', t5, f5, rfl, ra, rb, h5, h5', a3, a4, -, g5⟩; have GG : Hid (Gr W0.heap.size w6 w5) := ((Gr.refl _ _).drewN _).trans g5; have hXf := HX6.out.gr GG.out (by have := HS0.out; omega); have hVf := HV6.out.gr GG.out (by have := HS0.out; have := HXX.out; omega); have hY5 := HY6.out.gr GG.out (by omega); have HXf := Lib.hid hXf; have HVf := Lib.hid hVf; have d0 := hY5.cell0; have d1 := hY5.cell1; have e0 := hXf.cell0; have e1 := hXf.cell1; have e2 := hXf.frozen 0; have e3 := hXf.frozen 1; have HTg := Lib.hid ra; have HFg := Lib.hid rb; have HA3 := Lib.hid (above_drew (x := x2) a3 HV6.out.lt); have HA4 := Lib.hid (above_drew (x := x2) a4 HV6.out.lt); clear g5 hXf hVf hY5 ra rb a3 a4; have HTf := Lib.hid (HT6.out.gr GG.out (fun ad e _ => by have := HA1.out ad e; have := HS0.out; omega)); have HFf := Lib.hid (HF6.out.gr GG.out (fun ad e _ => by have := HA2.out ad e; have := HS0.out; omega)); have HBf : Hid (Below w.heap.size w w5) := HB6.out.trans ((GG.out.below (by have := HR6.out.lt; omega)).mono (by rw [HXE.out]; have := HS0.out; omega)); obtain ⟨W', W1, hW1, hW', l0, l1, l2, l3, k0, k1, k2, k3, q1, q2, q3, q4, q5⟩ := fin_maps (w := w) (c := c2) (c' := c2') (d := c5) (d' := c5') HXf.out HVf.out (by rw [HXE.out]; exact Nat.le_refl _) (by have := HXX.out; omega) HTf.out HFf.out HTg.out HFg.out (fun ad e => by have := HA1.out ad e; have := HS0.out; have := HXX.out; omega) (fun ad e => by have := HA2.out ad e; have := HS0.out; have := HXX.out; omega) HA3.out HA4.out HBf.out; have HQ := Lib.hid (And.intro q1 (And.intro q2 (And.intro q3 (And.intro q4 q5)))); clear q1 q2 q3 q4 q5))) | fail
    all_goals
      go_simp
      go_wp2
      exact bodyPost_ret (v := .tuple #[.agg #[.slice A2 n2 c2, .slice A2' n2' c2'], .agg #[.slice A5 n5 c5, .slice A5' n5' c5']]) (by simp [results, Try.results48, go_sem, k0, k1, k2, k3]) rfl ⟨_, _, _, _, _, _, _, _, _, _, _, _, _, _, _, _, rfl, HQ.out.1, HQ.out.2.1, hl, hl', HQ.out.2.2.1, HQ.out.2.2.2.1, h5, h5', HQ.out.2.2.2.2⟩

end Go.Proofs.Yteajaikgeephmaa
