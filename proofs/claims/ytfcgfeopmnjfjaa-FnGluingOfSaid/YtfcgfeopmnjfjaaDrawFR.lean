/-
  The draw of a map and a dart.
  The draws of a map and an edge.
-/
import Derived.Test.YtfcgfeopmnjfjaaDrawM
import Derived.Deep.RegionWith
namespace Go.Proofs.Ytfcgfeopmnjfjaa
open Go.RowKit

set_option maxHeartbeats 800000 in
theorem at_any (w : World) (rb q n : Nat) (hr : Reads w rb q) (hq : q ≤ 10000) (hn : n ≤ 1000) :
    Calls Try.prog 99 #[.pointer (some ⟨rb, 0, none⟩), .int .i64 n] w fun e w' => ∃ x : Int, e = .returned (.int .i64 x) ∧ -1 ≤ x ∧ x ≤ n ∧ (∃ q', q' ≤ q + 2 ∧ Reads w' rb q') ∧ Gr rb w w' := by
  have hlt0 := hr.lt
  have HR0 := Lib.hid hr; clear hr
  have lit : ∀ (W : World) (q2 : Nat), Reads W rb q2 → q2 ≤ 20000 → ∃ W4, W.alloc (.cells #[.int .i64 (-1), .int .i64 (n : Int)] 3) = W4 ∧ Reads W4 rb q2 ∧ W4.heap[W.heap.size]? = some (.cells #[.int .i64 (-1), .int .i64 (n : Int)] 3 (0, 0)) ∧ Gr rb W W4 := fun W q2 h _ =>
    ⟨_, rfl, h.below ((Below.refl _ _).alloc h.lt _), heap_alloc_new W _, (Gr.refl rb W).alloc _⟩
  have fin : ∀ (W W4 w5 : World) (y : Nat), W4.heap[W.heap.size]? = some (.cells #[.int .i64 (-1), .int .i64 (n : Int)] 3 (0, 0)) → rb < W.heap.size → Gr rb W4 w5 → y < 2 → ∃ u : Int, w5.cell? ⟨W.heap.size, y, none⟩ = some (.int .i64 u) ∧ -1 ≤ u ∧ u ≤ n := fun W W4 w5 y h hlt g hy => by
    have hl5 : w5.heap[W.heap.size]? = some (.cells #[.int .i64 (-1), .int .i64 (n : Int)] 3 (0, 0)) := (World.grownBy.block g _ (Array.getElem?_eq_some_iff.1 h).1 (by intro e; injection e with e; omega)).trans h
    rw [cell_of_row w5 _ y _ _ (0, 0) hl5]
    rcases (show y = 0 ∨ y = 1 by omega) with rfl | rfl
    · exact ⟨-1, rfl, by omega, by omega⟩
    · exact ⟨n, rfl, by omega, by omega⟩
  have LIT := Lib.hid lit; have FIN := Lib.hid fin; clear lit fin
  by_cases hn0 : n = 0
  · subst hn0
    go_enter Try.func99, Try.ntmps99
    go_wp2_with fail
    obtain ⟨W4, hW4, r4, h4, g4⟩ := LIT.out w q HR0.out (by omega)
    have HG4 := Lib.hid g4
    have hW4' : w.alloc (.cells #[.int .i64 (-1), .int .i64 0] 3) = W4 := hW4
    rw [hW4']
    refine (pick_reads W4 rb q r4 (by omega) 2 (by omega) (by omega)).mono ?_
    rintro e w5 ⟨y, rfl, hy, r5, g5⟩
    obtain ⟨u, hu, h1, h2⟩ := FIN.out w W4 w5 y h4 hlt0 g5 (by omega)
    have HR5 := Lib.hid r5; have HG5 : Hid (Gr rb w w5) := HG4.out.trans g5
    clear r4 h4 g4 r5 g5
    go_wp2
    go_ret
    exact ⟨u, rfl, h1, h2, ⟨_, by omega, HR5.out⟩, HG5.out⟩
  have hd0 : ((n : Int) == 0) = false := by simp [hn0]
  go_enter Try.func99, Try.ntmps99
  go_wp2_with fail
  refine (pick_reads w rb q HR0.out (by omega) 20 (by omega) (by omega)).mono ?_
  rintro e w1 ⟨z, rfl, hz, r1, g1⟩
  have hs1 := g1.size
  have HR1 := Lib.hid r1; have HG1 : Hid (Gr rb w w1) := g1
  clear r1 g1
  by_cases hz0 : z = 0
  · subst hz0
    go_wp2_with fail
    obtain ⟨W4, hW4, r4, h4, g4⟩ := LIT.out w1 (q + 1) HR1.out (by omega)
    have HG4 := Lib.hid (HG1.out.trans g4)
    try rw [hW4]
    refine (pick_reads W4 rb (q + 1) r4 (by omega) 2 (by omega) (by omega)).mono ?_
    rintro e w5 ⟨y, rfl, hy, r5, g5⟩
    obtain ⟨u, hu, h1, h2⟩ := FIN.out w1 W4 w5 y h4 (by omega) g5 (by omega)
    have HR5 := Lib.hid r5; have HG5 : Hid (Gr rb w w5) := HG4.out.trans g5
    clear r4 h4 g4 r5 g5
    go_wp2
    go_ret
    exact ⟨u, rfl, h1, h2, ⟨_, by omega, HR5.out⟩, HG5.out⟩
  · have hdz : ((z : Int) == 0) = false := by simp [hz0]
    go_wp2_with fail
    refine (pick_reads w1 rb (q + 1) HR1.out (by omega) (n : Int) (by omega) (by omega)).mono ?_
    rintro e w5 ⟨y, rfl, hy, r5, g5⟩
    have HR5 := Lib.hid r5; have HG5 : Hid (Gr rb w w5) := HG1.out.trans g5
    clear r5 g5
    go_wp2_with fail
    go_ret
    exact ⟨(y : Int), rfl, by omega, by omega, ⟨_, by omega, HR5.out⟩, HG5.out⟩

end Go.Proofs.Ytfcgfeopmnjfjaa

namespace Go.Proofs.Ytfcgfeopmnjfjaa
open Go.RowKit

end Go.Proofs.Ytfcgfeopmnjfjaa
