/-
  The draw of a number of edges and a genus.
-/
import Derived.Test.YtakckkmhhedfpaaDrawC
namespace Go.Proofs.Ytakckkmhhedfpaa
open Go.RowKit
set_option linter.unusedVariables false

theorem Reads.gr {w w' : World} {rb q : Nat} (h : Reads w rb q) (hb : Below w.heap.size w w') : Reads w' rb q := h.below (hb.mono (by have := h.lt; omega))

theorem lit_at (w : World) (m1 : Nat) {x4 : Nat} (h : x4 < 3) : ∃ u : Int, (w.alloc (.cells #[.int .i64 0, .int .i64 (m1 : Int), .int .i64 (-1)] 3)).cell? ⟨w.heap.size, x4, none⟩ = some (.int .i64 u) ∧ (u = 0 ∨ u = m1 ∨ u = -1) := by
  rw [cell_of_row _ _ x4 _ _ (0, 0) (heap_alloc_new w _)]
  rcases (show x4 = 0 ∨ x4 = 1 ∨ x4 = 2 by omega) with rfl | rfl | rfl
  · exact ⟨0, rfl, .inl rfl⟩
  · exact ⟨m1, rfl, .inr (.inl rfl)⟩
  · exact ⟨-1, rfl, .inr (.inr rfl)⟩

set_option maxRecDepth 20000 in
set_option maxHeartbeats 3200000 in
theorem edges_any (w : World) (rb q most : Nat) (hr : Reads w rb q) (hq : q ≤ 1000) (hm1 : 1 ≤ most) (hm : most ≤ 10) :
    Calls Try.prog 52 #[.pointer (some ⟨rb, 0, none⟩), .int .i64 most] w fun x w' => ∃ e g : Int, x = .returned (.tuple #[.int .i64 e, .int .i64 g]) ∧ (-1 ≤ e ∧ e ≤ most + 1) ∧ (-1 ≤ g ∧ g ≤ 2) ∧ Gr rb w w' := by
  have HR0 := Lib.hid hr
  have hlt0 := hr.lt
  clear hr
  go_enter Try.func52, Try.ntmps52
  go_wp2_with fail
  refine (pick_reads w rb q HR0.out (by omega) 16 (by omega) (by omega)).mono ?_
  rintro e w2 ⟨x, rfl, hx, r2, g2⟩
  have HR2 := Lib.hid r2
  have HG2 : Hid (Gr rb w w2) := g2
  have hlt2 := r2.lt
  clear r2 g2
  by_cases h0 : x = 0
  · subst h0
    obtain ⟨m1, hmm1⟩ : ∃ m1 : Nat, most + 1 = m1 := ⟨_, rfl⟩
    have HMM1 := Lib.hid hmm1
    have hwr : IntKind.i64.wrap ((most : Int) + 1) = (m1 : Int) := by rw [IntWalk.i64_in _ (by omega)]; omega
    obtain ⟨WA, hWA⟩ : ∃ WA, w2.alloc (.cells #[.int .i64 0, .int .i64 (m1 : Int), .int .i64 (-1)] 3) = WA := ⟨_, rfl⟩
    have HWA := Lib.hid hWA
    have HRA : Hid (Reads WA.drew rb (q + 1)) := by rw [← hWA]; exact HR2.out.gr ((Below.refl _ _).alloc (Nat.le_refl _) _).drew
    have HRB : Hid (Reads w2.drew rb (q + 1)) := HR2.out.gr (Below.refl _ _).drew
    have HGA : Hid (Gr rb w WA) := by rw [← hWA]; exact HG2.out.alloc _
    go_wp2_with fail
    go_region_with (first
      | (have hchk := HA4.out; clear hchk; go_at_call 51; refine (pick_reads w4 rb (q + 1 + 1) HR4.out (by omega) 3 (by omega) (by omega)).mono ?_; rintro e w5 ⟨x5, rfl, hx5, r5, g5⟩; have hu5 := (World.grownBy.cell g5 HU.out (by simp; omega)); have HG5 : Hid (Gr rb w w5) := HA4.out.trans g5; clear r5 g5)
      | (go_at_call 51; refine (pick_reads WA.drew rb (q + 1) HRA.out (by omega) 3 (by omega) (by omega)).mono ?_; rintro e w4 ⟨x4, rfl, hx4, r4, g4⟩; obtain ⟨u, hu, hu2⟩ := lit3 (w' := w4) HWA.out ⟨g4.os, g4.tape, g4.output, g4.size, g4.block⟩ hlt2 (y := x4) (by omega); have HU := Lib.hid hu; have HU2 := Lib.hid hu2; have HA4 : Hid (Gr rb w w4) := HGA.out.trans ⟨g4.os, g4.tape, g4.output, g4.size, g4.block⟩; have HR4 := Lib.hid r4; clear hu2 r4 g4)
      | (have hchk := HN4.out; clear hchk; go_at_call 51; refine (pick_reads w4 rb (q + 1 + 1) HR4.out (by omega) 3 (by omega) (by omega)).mono ?_; rintro e w5 ⟨x5, rfl, hx5, r5, g5⟩; have HG5 : Hid (Gr rb w w5) := HN4.out.trans g5; obtain ⟨u5, hu5, hu52⟩ := lit_at w5 m1 (x4 := x4) (by omega); have HU52 := Lib.hid hu52; clear r5 g5 hu52)
      | (have hchk := HN4.out; clear hchk; obtain ⟨WB, hWB⟩ : ∃ WB, w4.alloc (.cells #[.int .i64 0, .int .i64 (m1 : Int), .int .i64 (-1)] 3) = WB := ⟨_, rfl⟩; go_at_call 51; refine (pick_reads (w4.alloc (.cells #[.int .i64 0, .int .i64 (m1 : Int), .int .i64 (-1)] 3)) rb (q + 1 + 1) (HR4.out.gr ((Below.refl _ _).alloc (Nat.le_refl _) _)) (by omega) 3 (by omega) (by omega)).mono ?_; rintro e w5 ⟨x5, rfl, hx5, r5, g5⟩; obtain ⟨u5, hu5, hu52⟩ := lit3 (w' := w5) rfl ⟨g5.os, g5.tape, g5.output, g5.size, g5.block⟩ hlt4 (y := x4) (by omega); have HU52 := Lib.hid hu52; have HG5 : Hid (Gr rb w w5) := (HN4.out.alloc _).trans g5; clear r5 g5 hu52)
      | (go_at_call 51; refine (pick_reads w2.drew rb (q + 1) HRB.out (by omega) 3 (by omega) (by omega)).mono ?_; rintro e w4 ⟨x4, rfl, hx4, r4, g4⟩; have HN4 : Hid (Gr rb w w4) := HG2.out.trans ⟨g4.os, g4.tape, g4.output, g4.size, g4.block⟩; have hlt4 := r4.lt; have HR4 := Lib.hid r4; obtain ⟨u, hu, hu2⟩ := lit_at w4 m1 (x4 := x4) (by omega); have HU2 := Lib.hid hu2; clear r4 g4 hu2)
      | fail)
    all_goals go_wp2_with fail
    all_goals go_ret2
    all_goals first
      | exact ⟨_, _, rfl, by have := HU2.out; have := HMM1.out; omega, by rw [IntWalk.i64_in _ (by omega)]; omega, HG5.out⟩
      | exact ⟨_, _, rfl, by have := HU52.out; have := HMM1.out; omega, by rw [IntWalk.i64_in _ (by omega)]; omega, HG5.out⟩
      | exact ⟨_, _, rfl, by have := HU52.out; have := HMM1.out; omega, by rw [IntWalk.i64_in _ (by omega)]; omega, HG5.out.alloc _⟩
  · have hx0 : ((x : Int) == 0) = false := by simp; omega
    go_wp2_with fail
    refine (pick_reads w2 rb (q + 1) HR2.out (by omega) most (by omega) (by omega)).mono ?_
    rintro e w3 ⟨x3, rfl, hx3, r3, g3⟩
    have HG3 : Hid (Gr rb w w3) := HG2.out.trans g3
    have HR3 := Lib.hid r3
    clear r3 g3
    go_wp2_with fail
    refine (pick_reads w3 rb (q + 1 + 1) HR3.out (by omega) 3 (by omega) (by omega)).mono ?_
    rintro e w4 ⟨x4, rfl, hx4, r4, g4⟩
    have HG4 : Hid (Gr rb w w4) := HG3.out.trans g4
    clear r4 g4
    go_wp2_with fail
    go_ret2
    exact ⟨_, _, rfl, by omega, by omega, HG4.out⟩

end Go.Proofs.Ytakckkmhhedfpaa
