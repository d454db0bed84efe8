/-
  The draw of a map and a dart.
  The draws of a map and an edge.
-/
import Derived.Test.YtcenffndclpjoaaDrawM
import Derived.Deep.RegionWith
namespace Go.Proofs.Ytcenffndclpjoaa
open Go.RowKit

set_option maxHeartbeats 800000 in
theorem at_any (w : World) (rb q n : Nat) (hr : Reads w rb q) (hq : q ≤ 10000) (hn : n ≤ 1000) :
    Calls Try.prog 74 #[.pointer (some ⟨rb, 0, none⟩), .int .i64 n] w fun e w' => ∃ x : Int, e = .returned (.int .i64 x) ∧ -1 ≤ x ∧ x ≤ n ∧ (∃ q', q' ≤ q + 2 ∧ Reads w' rb q') ∧ Gr rb w w' := by
  have hlt0 := hr.lt
  have HR0 := Lib.hid hr; clear hr
  have lit : ∀ (W : World) (q2 : Nat), Reads W rb q2 → q2 ≤ 20000 → ∃ W4, W.alloc (.cells #[.int .i64 (-1), .int .i64 (n : Int)] 3) = W4 ∧ Reads W4 rb q2 ∧ W4.heap[W.heap.size]? = some (.cells #[.int .i64 (-1), .int .i64 (n : Int)] 3 (0, 0)) ∧ Gr rb W W4 := fun W q2 h _ =>
    ⟨_, rfl, h.below ((Below.refl _ _).alloc h.lt _), heap_alloc_new W _, (Gr.refl rb W).alloc _⟩
  have fin : ∀ (W W4 w5 : World) (y : Nat), W4.heap[W.heap.size]? = some (.cells #[.int .i64 (-1), .int .i64 (n : Int)] 3 (0, 0)) → rb < W.heap.size → Gr rb W4 w5 → y < 2 → ∃ u : Int, w5.cell? ⟨W.heap.size, y, none⟩ = some (.int .i64 u) ∧ -1 ≤ u ∧ u ≤ n := fun W W4 w5 y h hlt g hy => by
    have hl5 : w5.heap[W.heap.size]? = some (.cells #[.int .i64 (-1), .int .i64 (n : Int)] 3 (0, 0)) := (World.grownBy.block g _ (Array.getElem?_eq_some_iff.1 h).1 (by intro e; injection e with e; omega)).trans h
    rw [cell_of_row w5 _ y _ _ (0, 0) hl5]
    rcases (show y = 0 ∨ y = 1 by omega) with rfl | rfl
    · exact ⟨-1, rfl, by omega, by omega⟩
    · exact ⟨n, rfl, by omega, by omega⟩
  have LIT := Lib.hid lit; have FIN := Lib.hid fin; clear lit fin
  by_cases hn0 : n = 0
  · subst hn0
    go_enter Try.func74, Try.ntmps74
    go_wp2_with fail
    obtain ⟨W4, hW4, r4, h4, g4⟩ := LIT.out w q HR0.out (by omega)
    have HG4 := Lib.hid g4
    have hW4' : w.alloc (.cells #[.int .i64 (-1), .int .i64 0] 3) = W4 := hW4
    rw [hW4']
    refine (pick_reads W4 rb q r4 (by omega) 2 (by omega) (by omega)).mono ?_
    rintro e w5 ⟨y, rfl, hy, r5, g5⟩
    obtain ⟨u, hu, h1, h2⟩ := FIN.out w W4 w5 y h4 hlt0 g5 (by omega)
    have HR5 := Lib.hid r5; have HG5 : Hid (Gr rb w w5) := HG4.out.trans g5
    clear r4 h4 g4 r5 g5
    go_wp2
    go_ret
    exact ⟨u, rfl, h1, h2, ⟨_, by omega, HR5.out⟩, HG5.out⟩
  have hd0 : ((n : Int) == 0) = false := by simp [hn0]
  go_enter Try.func74, Try.ntmps74
  go_wp2_with fail
  refine (pick_reads w rb q HR0.out (by omega) 20 (by omega) (by omega)).mono ?_
  rintro e w1 ⟨z, rfl, hz, r1, g1⟩
  have hs1 := g1.size
  have HR1 := Lib.hid r1; have HG1 : Hid (Gr rb w w1) := g1
  clear r1 g1
  by_cases hz0 : z = 0
  · subst hz0
    go_wp2_with fail
    obtain ⟨W4, hW4, r4, h4, g4⟩ := LIT.out w1 (q + 1) HR1.out (by omega)
    have HG4 := Lib.hid (HG1.out.trans g4)
    try rw [hW4]
    refine (pick_reads W4 rb (q + 1) r4 (by omega) 2 (by omega) (by omega)).mono ?_
    rintro e w5 ⟨y, rfl, hy, r5, g5⟩
    obtain ⟨u, hu, h1, h2⟩ := FIN.out w1 W4 w5 y h4 (by omega) g5 (by omega)
    have HR5 := Lib.hid r5; have HG5 : Hid (Gr rb w w5) := HG4.out.trans g5
    clear r4 h4 g4 r5 g5
    go_wp2
    go_ret
    exact ⟨u, rfl, h1, h2, ⟨_, by omega, HR5.out⟩, HG5.out⟩
  · have hdz : ((z : Int) == 0) = false := by simp [hz0]
    go_wp2_with fail
    refine (pick_reads w1 rb (q + 1) HR1.out (by omega) (n : Int) (by omega) (by omega)).mono ?_
    rintro e w5 ⟨y, rfl, hy, r5, g5⟩
    have HR5 := Lib.hid r5; have HG5 : Hid (Gr rb w w5) := HG1.out.trans g5
    clear r5 g5
    go_wp2_with fail
    go_ret
    exact ⟨(y : Int), rfl, by omega, by omega, ⟨_, by omega, HR5.out⟩, HG5.out⟩

end Go.Proofs.Ytcenffndclpjoaa

namespace Go.Proofs.Ytcenffndclpjoaa
open Go.RowKit

set_option maxRecDepth 20000 in
set_option maxHeartbeats 1600000 in
theorem edge_any (w : World) (rb q : Nat) (hr : Reads w rb q) (hq : q ≤ 1000) :
    Calls Try.prog 46 #[.pointer (some ⟨rb, 0, none⟩)] w fun e w' => ∃ A A' n n' c c' t f, ∃ r : Int, e = .returned (.tuple #[.agg #[.slice A n c, .slice A' n' c'], .int .i64 r]) ∧ Rd w' A n t ∧ Rd w' A' n' f ∧ n ≤ 12 ∧ n' ≤ 12 ∧ (-1 ≤ r ∧ r ≤ 12) ∧ (∀ ad : Addr, A = some ad → w.heap.size < ad.block) ∧ (∀ ad : Addr, A' = some ad → w.heap.size < ad.block) ∧ Gr rb w w' := by
  have hlt0 := hr.lt
  obtain ⟨W0, hW0, hx0, hb0, hs0⟩ := Box.local_ w 25 (.slice none 0 0) (.slice none 0 0)
  obtain ⟨x, hx⟩ : ∃ x, w.heap.size = x := ⟨_, rfl⟩
  have HX0 : Hid (Box W0 x 25 (.slice none 0 0) (.slice none 0 0)) := by rw [← hx]; exact hx0
  have HG0 : Hid (Gr rb w W0) := (Gr.refl rb w).of_below hb0
  have HR0 := Lib.hid (hr.below (hb0.mono (by omega)))
  have HXE := Lib.hid hx
  rw [hx] at hs0 hlt0
  have HS0 := Lib.hid hs0
  have HRX := Lib.hid hlt0
  clear hx hx0 hb0 hr hs0 hlt0
  go_enter Try.func46, Try.ntmps46
  go_wp2_with fail
  rw [HXE.out]
  refine (map_any W0 rb q 5 HR0.out (by omega) (by omega) (by omega)).mono ?_
  rintro e w2 ⟨A2, A2', n2, n2', c2, c2', t, f, rfl, r1, r2, hl, hl', a1, a2, ⟨q2, hq2, rd2⟩, g⟩
  have HG2 := Lib.hid (HG0.out.trans g)
  have HX2 := Lib.hid (HX0.out.gr g (by have := HRX.out; omega))
  have HT2 := Lib.hid r1; have HF2 := Lib.hid r2; have HA1 := Lib.hid a1; have HA2 := Lib.hid a2; have HR2 := Lib.hid rd2
  have hsz2 := g.size
  clear r1 r2 a1 a2 rd2 g
  obtain ⟨w3, hW3, hy3, b3, hz3⟩ := Box.local_ w2 25 (.slice A2 n2 c2) (.slice A2' n2' c2')
  obtain ⟨y, hy⟩ : ∃ y, w2.heap.size = y := ⟨_, rfl⟩
  have HY3 : Hid (Box w3 y 25 (.slice A2 n2 c2) (.slice A2' n2' c2')) := by rw [← hy]; exact hy3
  have HX3 := Lib.hid (HX2.out.below b3); have HT3 := Lib.hid (HT2.out.below b3); have HF3 := Lib.hid (HF2.out.below b3); have HR3 := Lib.hid (HR2.out.below (b3.mono (by have := HR2.out.lt; omega)))
  have HG3 := Lib.hid (HG2.out.of_below b3)
  have HYE := Lib.hid hy
  have c0 := HY3.out.cell0; have c1 := HY3.out.cell1
  obtain ⟨h2, hh2⟩ : ∃ h, n2' / 2 = h := ⟨_, rfl⟩
  have hdiv : ((n2' : Nat) : Int).tdiv 2 = (h2 : Int) := by rw [← hh2]; rfl
  have hh6 : h2 ≤ 6 := by omega
  have hwr : IntKind.i64.wrap (h2 : Int) = (h2 : Int) := IntWalk.i64_in _ (by omega)
  clear hy3 b3 hz3 hy HX2 HT2 HF2 HR2 HG2
  go_wp2
  rw [HYE.out]
  first | (go_region_with (first
    | (go_at_call 74; refine (at_any _ rb q2 h2 (HR3.out.below ((below_drewN (Below.refl _ _) _))) (by omega) (by omega)).mono ?_; rintro e w4 ⟨r, rfl, hr1, hr2, -, g4⟩; have GG : Hid (Gr rb w3 w4) := ((Gr.refl _ _).drewN _).trans g4; have hX4 := HX3.out.gr GG.out (by have := HRX.out; omega); have hY4 := HY3.out.gr GG.out (by have := HRX.out; have := HS0.out; have := HYE.out; omega); have HX4 := Lib.hid hX4; have d0 := hY4.cell0; have d1 := hY4.cell1; have e0 := hX4.cell0; have e1 := hX4.cell1; have e2 := hX4.frozen 0; have e3 := hX4.frozen 1; clear g4 hX4 hY4))) | fail
  all_goals
    have hs0 := HS0.out
    have hrx := HRX.out
    have hT4 := HT3.out.gr GG.out (fun ad e _ => by have := HA1.out ad e; omega)
    have hF4 := HF3.out.gr GG.out (fun ad e _ => by have := HA2.out ad e; omega)
    have hG4 : Gr rb w w4 := HG3.out.trans GG.out
    obtain ⟨hq1, hq2'⟩ := HX4.out.store2 (.slice A2 n2 c2) (.slice A2' n2' c2')
    have k0 := hq1.cell0
    have k1 := hq1.cell1
    have HQ := Lib.hid (And.intro (hT4.gr hq2' (fun ad e _ => by have := HA1.out ad e; omega)) (And.intro (hF4.gr hq2' (fun ad e _ => by have := HA2.out ad e; omega)) (hG4.own hq2' (fun k e => by cases e; rw [HXE.out]; exact Nat.le_refl _))))
    clear hq1 hq2' hT4 hF4 hG4 hs0 hrx
    have hr12 : r ≤ 12 := by omega
    go_simp
    go_wp2
    exact bodyPost_ret (v := .tuple #[.agg #[.slice A2 n2 c2, .slice A2' n2' c2'], .int .i64 r]) (by simp [results, Try.results46, go_sem, k0, k1]) rfl ⟨_, _, _, _, _, _, _, _, _, rfl, HQ.out.1, HQ.out.2.1, hl, hl', ⟨hr1, hr12⟩, (fun ad e => by have := HA1.out ad e; have := HS0.out; rw [HXE.out]; omega), (fun ad e => by have := HA2.out ad e; have := HS0.out; rw [HXE.out]; omega), HQ.out.2.2⟩

end Go.Proofs.Ytcenffndclpjoaa
