/-
  The draws of small numbers: edges, genera, degrees.
-/
import Derived.Test.YtmhalaleoklplaaDoorDraw
import Derived.Deep.RegionWith
namespace Go.Proofs.YtmhalaleoklplaaDoor
open Go.RowKit
set_option linter.unusedVariables false

theorem take_rdb {w : World} {A : Option Addr} {n L : Nat} {bs : List Int} (h : RdB w A n bs) (hL : L ≤ n) : RdB w A L (bs.take L) := by
  have key : ∀ j, j < L → gi (bs.take L) j = gi bs j := fun j hj => by simp [gi, List.getD, hj]
  refine ⟨by rw [List.length_take, h.1]; omega, fun h0 => ?_, fun j hj => by rw [key j hj]; exact h.2.2 j (by omega)⟩
  obtain ⟨ad, e, hc⟩ := h.2.1 (by omega)
  exact ⟨ad, e, fun j hj => by rw [key j hj]; exact hc j (by omega)⟩

theorem opened (w : World) (A : Option Addr) (n c : Nat) (bs : List Int) (h : RdB w A n bs) (hn : n ≤ 1048576) (hc : n ≤ c) :
    Calls Tryd.prog 13 #[.slice A n c] w fun e w' => e = .returned (.pointer (some ⟨w.heap.size, 0, none⟩)) ∧ Reads w' w.heap.size 0 ∧ Below w.heap.size w w' ∧ w.heap.size < w'.heap.size := by
  refine (open_any w A n c hn hc).mono ?_
  rintro e w' ⟨rfl, L, hL, hLn, rfl⟩
  have hb : Below w.heap.size w (w.alloc (.cells #[.slice A L c, .int .i64 0] 52)) := (Below.refl _ _).alloc (Nat.le_refl _) _
  have ht := take_rdb h hLn
  refine ⟨rfl, ⟨A, L, c, bs.take L, heap_alloc_new w _, ⟨ht.1, fun h0 => ?_, ht.2.2⟩, hL, fun ad e h0 => ?_⟩, hb, by simp⟩
  · obtain ⟨ad, e, hc⟩ := ht.2.1 h0
    exact ⟨ad, e, fun j hj => (hb.cell (World.block_lt_of_cell? w _ (hc j hj))).trans (hc j hj)⟩
  · obtain ⟨ad', e', hc⟩ := ht.2.1 h0
    rw [e] at e'
    injection e' with e'
    subst e'
    have := World.block_lt_of_cell? w _ (hc 0 h0)
    rwa [add_block] at this

theorem below_grown {B rb : Nat} {a b c : World} (h : Below B a b) (g : b.grownBy c (some rb)) (hB : B ≤ rb) (hs : B ≤ b.heap.size) : Below B a c := h.grown g hs (fun k e => by cases e; exact hB)
theorem wf_far {x : Int} (h : -1000 ≤ x ∧ x ≤ 1000) : (Lit.int .i64 x).wf = true := by
  simp [Lit.wf, IntKind.min, IntKind.max, IntKind.bits, IntKind.signed]; omega

/-- Three numbers laid as a row: what is read of it. -/
theorem lit3 {w W w' : World} {rb : Nat} {a b c : Int} (hW : w.alloc (.cells #[.int .i64 a, .int .i64 b, .int .i64 c] 3) = W) (hg : W.grownBy w' (some rb)) (hr : rb < w.heap.size) {y : Nat} (hy : y < 3) :
    ∃ u : Int, w'.cell? ⟨w.heap.size, y, none⟩ = some (.int .i64 u) ∧ (u = a ∨ u = b ∨ u = c) := by
  have hn : W.heap[w.heap.size]? = some (.cells #[.int .i64 a, .int .i64 b, .int .i64 c] 3 (0, 0)) := by rw [← hW]; exact heap_alloc_new w _
  have hl : w'.heap[w.heap.size]? = some (.cells #[.int .i64 a, .int .i64 b, .int .i64 c] 3 (0, 0)) := (hg.block _ (Array.getElem?_eq_some_iff.1 hn).1 (by intro e; injection e with e; omega)).trans hn
  rw [cell_of_row w' _ y _ _ (0, 0) hl]
  rcases (show y = 0 ∨ y = 1 ∨ y = 2 by omega) with rfl | rfl | rfl
  · exact ⟨a, rfl, .inl rfl⟩
  · exact ⟨b, rfl, .inr (.inl rfl)⟩
  · exact ⟨c, rfl, .inr (.inr rfl)⟩
theorem lit2 {w W w' : World} {rb : Nat} {a b : Int} (hW : w.alloc (.cells #[.int .i64 a, .int .i64 b] 3) = W) (hg : W.grownBy w' (some rb)) (hr : rb < w.heap.size) {y : Nat} (hy : y < 2) :
    ∃ u : Int, w'.cell? ⟨w.heap.size, y, none⟩ = some (.int .i64 u) ∧ (u = a ∨ u = b) := by
  have hn : W.heap[w.heap.size]? = some (.cells #[.int .i64 a, .int .i64 b] 3 (0, 0)) := by rw [← hW]; exact heap_alloc_new w _
  have hl : w'.heap[w.heap.size]? = some (.cells #[.int .i64 a, .int .i64 b] 3 (0, 0)) := (hg.block _ (Array.getElem?_eq_some_iff.1 hn).1 (by intro e; injection e with e; omega)).trans hn
  rw [cell_of_row w' _ y _ _ (0, 0) hl]
  rcases (show y = 0 ∨ y = 1 by omega) with rfl | rfl
  · exact ⟨a, rfl, .inl rfl⟩
  · exact ⟨b, rfl, .inr rfl⟩

theorem pickA (w w3 : World) (rb q : Nat) (hr : Reads w3 rb q) (hq : q ≤ 1000000) (hb : Below w.heap.size w w3) (hle : w.heap.size ≤ rb) :
    Calls Tryd.prog 26 #[.pointer (some ⟨rb, 0, none⟩), .int .i64 3] (w3.alloc (.cells #[.int .i64 (-1), .int .i64 19, .int .i64 18] 3)).drew fun e w4 => ∃ (x : Nat) (u : Int), e = .returned (.int .i64 x) ∧ x < 3 ∧ w4.cell? ⟨w3.heap.size, x, none⟩ = some (.int .i64 u) ∧ (u = -1 ∨ u = 19 ∨ u = 18) ∧ Below w.heap.size w w4 := by
  have hb3 : Below w.heap.size w (w3.alloc (.cells #[.int .i64 (-1), .int .i64 19, .int .i64 18] 3)).drew := (hb.alloc hb.size _).drew
  refine (pick_reads _ rb q (hr.below ((Below.refl _ _).alloc hr.lt _).drew) hq 3 (by omega) (by omega)).mono ?_
  rintro e w4 ⟨x, rfl, hx, r4, g4⟩
  have hx3 : x < 3 := by omega
  obtain ⟨u, hu, hu2⟩ := lit3 (w := w3) (a := -1) (b := 19) (c := 18) rfl ⟨g4.os, g4.tape, g4.output, g4.size, g4.block⟩ hr.lt hx3
  exact ⟨x, u, rfl, hx3, hu, hu2, below_grown hb3 g4 hle hb3.size⟩
theorem pickB (w w3 : World) (rb q : Nat) (hr : Reads w3 rb q) (hq : q ≤ 1000000) (hb : Below w.heap.size w w3) (hle : w.heap.size ≤ rb) :
    Calls Tryd.prog 26 #[.pointer (some ⟨rb, 0, none⟩), .int .i64 3] w3.drew fun e w4 => ∃ x : Nat, e = .returned (.int .i64 x) ∧ x < 3 ∧ Below w.heap.size w w4 := by
  have hb3 : Below w.heap.size w w3.drew := hb.drew
  refine (pick_reads _ rb q (hr.below (Below.refl _ _).drew) hq 3 (by omega) (by omega)).mono ?_
  rintro e w4 ⟨x, rfl, hx, r4, g4⟩
  exact ⟨x, rfl, by omega, below_grown hb3 g4 hle hb3.size⟩

end Go.Proofs.YtmhalaleoklplaaDoor
