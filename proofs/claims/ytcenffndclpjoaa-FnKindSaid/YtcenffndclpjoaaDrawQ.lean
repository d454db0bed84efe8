/-
  The draws of RibbonQuasis and EdgeKind.
-/
import Derived.Test.YtcenffndclpjoaaDrawFR
import Derived.Test.YtcenffndclpjoaaDrawM
namespace Go.Proofs.Ytcenffndclpjoaa
open Go.RowKit

set_option maxHeartbeats 800000 in
theorem drawRibbonQuasis_any (w : World) (A : Option Addr) (n c : Nat) (bs : List Int) (h : RdB w A n bs) (hn : n ≤ 1048576) (hc : n ≤ c) :
    Calls Try.prog 18 #[.slice A n c] w fun e w' => ∃ A A' n n' c c' t f, e = .returned (.agg #[.slice A n c, .slice A' n' c']) ∧ Rd w' A n t ∧ Rd w' A' n' f ∧ n ≤ 12 ∧ n' ≤ 12 ∧ Below w.heap.size w w' := by
  obtain ⟨W0, hW0, hx0, hb0, hs0⟩ := Box.local_ w 25 (.slice none 0 0) (.slice none 0 0)
  obtain ⟨x, hx⟩ : ∃ x, w.heap.size = x := ⟨_, rfl⟩
  have HRB : Hid (RdB W0 A n bs) := ⟨h.1, fun h0 => by
    obtain ⟨ad, e, hcell⟩ := h.2.1 h0
    exact ⟨ad, e, fun j hj => (hb0.cell (World.block_lt_of_cell? w _ (hcell j hj))).trans (hcell j hj)⟩, h.2.2⟩
  have HX0 : Hid (Box W0 x 25 (.slice none 0 0) (.slice none 0 0)) := by rw [← hx]; exact hx0
  have HB0 := Lib.hid hb0
  have HXE := Lib.hid hx
  rw [hx] at hs0
  have HS0 := Lib.hid hs0
  clear hx hx0 hb0 h hs0
  go_enter Try.func18, Try.ntmps18
  go_wp2_with fail
  rw [HXE.out]
  refine (open_reads W0 A n c bs HRB.out hn hc).mono ?_
  rintro e w1 ⟨rfl, r1, b1, s1⟩
  have HX1 := Lib.hid (HX0.out.below b1); have HB1 := Lib.hid (HB0.out.trans (b1.mono HB0.out.size)); have HR1 := Lib.hid r1
  clear r1 b1
  go_wp2_with fail
  refine (map_any w1 W0.heap.size 0 5 HR1.out (by omega) (by omega) (by omega)).mono ?_
  rintro e w2 ⟨A2, A2', n2, n2', c2, c2', t, f, rfl, r1, r2, hl, hl', a1, a2, -, g⟩
  have hs0 := HS0.out
  have hX2 := HX1.out.gr g (by omega)
  have e0 := hX2.cell0; have e1 := hX2.cell1; have e2 := hX2.frozen 0; have e3 := hX2.frozen 1
  have hB2 : Below w.heap.size w w2 := HB1.out.trans (g.below (by omega) |>.mono (by rw [HXE.out]; omega))
  obtain ⟨W', hW', k0, k1, q1, q2, q3⟩ := fin_draw (w := w) (c := c2) (c' := c2') hX2 (by rw [HXE.out]; exact Nat.le_refl _) r1 r2 (fun ad e => by have := a1 ad e; omega) (fun ad e => by have := a2 ad e; omega) hB2
  have HQ := Lib.hid (And.intro q1 (And.intro q2 q3)); clear hs0 q1 q2 q3 g hX2 hB2 r1 r2 a1 a2
  go_wp2_with fail
  exact bodyPost_ret (v := .agg #[.slice A2 n2 c2, .slice A2' n2' c2']) (by simp [results, Try.results18, go_sem, k0, k1]) rfl ⟨_, _, _, _, _, _, _, _, rfl, HQ.out.1, HQ.out.2.1, hl, hl', HQ.out.2.2⟩


set_option maxHeartbeats 800000 in
theorem drawEdgeKind_any (w : World) (A : Option Addr) (n c : Nat) (bs : List Int) (h : RdB w A n bs) (hn : n ≤ 1048576) (hc : n ≤ c) :
    Calls Try.prog 24 #[.slice A n c] w fun e w' => ∃ A A' n n' c c' t f, ∃ r : Int, e = .returned (.tuple #[.agg #[.slice A n c, .slice A' n' c'], .int .i64 r]) ∧ Rd w' A n t ∧ Rd w' A' n' f ∧ n ≤ 12 ∧ n' ≤ 12 ∧ (-1 ≤ r ∧ r ≤ 12) ∧ Below w.heap.size w w' := by
  obtain ⟨W0, hW0, hx0, hb0, hs0⟩ := Box.local_ w 25 (.slice none 0 0) (.slice none 0 0)
  obtain ⟨x, hx⟩ : ∃ x, w.heap.size = x := ⟨_, rfl⟩
  have HRB : Hid (RdB W0 A n bs) := ⟨h.1, fun h0 => by
    obtain ⟨ad, e, hcell⟩ := h.2.1 h0
    exact ⟨ad, e, fun j hj => (hb0.cell (World.block_lt_of_cell? w _ (hcell j hj))).trans (hcell j hj)⟩, h.2.2⟩
  have HX0 : Hid (Box W0 x 25 (.slice none 0 0) (.slice none 0 0)) := by rw [← hx]; exact hx0
  have HB0 := Lib.hid hb0
  have HXE := Lib.hid hx
  rw [hx] at hs0
  have HS0 := Lib.hid hs0
  clear hx hx0 hb0 h hs0
  go_enter Try.func24, Try.ntmps24
  go_wp2_with fail
  rw [HXE.out]
  refine (open_reads W0 A n c bs HRB.out hn hc).mono ?_
  rintro e w1 ⟨rfl, r1, b1, s1⟩
  have HX1 := Lib.hid (HX0.out.below b1); have HB1 := Lib.hid (HB0.out.trans (b1.mono HB0.out.size)); have HR1 := Lib.hid r1
  clear r1 b1
  go_wp2_with fail
  refine (edge_any w1 W0.heap.size 0 HR1.out (by omega)).mono ?_
  rintro e w2 ⟨A2, A2', n2, n2', c2, c2', t, f, r, rfl, r1, r2, hl, hl', ⟨hr1, hr2⟩, a1, a2, g⟩
  have hs0 := HS0.out
  have hX2 := HX1.out.gr g (by omega)
  have e0 := hX2.cell0; have e1 := hX2.cell1; have e2 := hX2.frozen 0; have e3 := hX2.frozen 1
  have hB2 : Below w.heap.size w w2 := HB1.out.trans (g.below (by omega) |>.mono (by rw [HXE.out]; omega))
  obtain ⟨W', hW', k0, k1, q1, q2, q3⟩ := fin_draw (w := w) (c := c2) (c' := c2') hX2 (by rw [HXE.out]; exact Nat.le_refl _) r1 r2 (fun ad e => by have := a1 ad e; omega) (fun ad e => by have := a2 ad e; omega) hB2
  have HQ := Lib.hid (And.intro q1 (And.intro q2 q3)); clear hs0 q1 q2 q3 g hX2 hB2 r1 r2 a1 a2
  go_wp2_with fail
  exact bodyPost_ret (v := .tuple #[.agg #[.slice A2 n2 c2, .slice A2' n2' c2'], .int .i64 r]) (by simp [results, Try.results24, go_sem, k0, k1]) rfl ⟨_, _, _, _, _, _, _, _, _, rfl, HQ.out.1, HQ.out.2.1, hl, hl', ⟨hr1, hr2⟩, HQ.out.2.2⟩


end Go.Proofs.Ytcenffndclpjoaa
