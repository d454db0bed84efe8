/-
  The draws of chapter 4's numbers.
-/
import Derived.Test.YtfcgfeopmnjfjaaDrawC
namespace Go.Proofs.Ytfcgfeopmnjfjaa
open Go.RowKit
set_option linter.unusedVariables false

set_option maxHeartbeats 1600000 in
theorem drawGCol_any (w : World) (A : Option Addr) (n c : Nat) (bs : List Int) (h : RdB w A n bs) (hn : n ≤ 1048576) (hc : n ≤ c) :
    Calls Try.prog 23 #[.slice A n c] w fun x w' => ∃ e g : Int, x = .returned (.tuple #[.int .i64 e, .int .i64 g]) ∧ (-1000 ≤ e ∧ e ≤ 1000) ∧ (-1000 ≤ g ∧ g ≤ 1000) ∧ Below w.heap.size w w' := by
  go_enter Try.func23, Try.ntmps23
  go_wp2_with fail
  refine (opened w A n c bs h hn hc).mono ?_
  rintro e w1 ⟨rfl, r1, b1, s1⟩
  have HB1 := Lib.hid b1; clear b1
  go_wp2_with fail
  refine (pick_reads w1 w.heap.size 0 r1 (by omega) 8 (by omega) (by omega)).mono ?_
  rintro e w2 ⟨x1, rfl, hx1, r2, g2⟩
  have HB2 := Lib.hid (below_grown HB1.out g2 (Nat.le_refl _) HB1.out.size)
  clear r1 g2
  go_wp2_with fail
  refine (pick_reads w2 w.heap.size 1 r2 (by omega) 16 (by omega) (by omega)).mono ?_
  rintro e w3 ⟨x2, rfl, hx2, r3, g3⟩
  have HB3 := Lib.hid (below_grown HB2.out g3 (Nat.le_refl _) HB2.out.size)
  clear r2 g3
  obtain ⟨k2, hk2⟩ : ∃ k : Nat, (x2 : Int).tdiv 15 = k := ⟨x2 / 15, rfl⟩
  have hk2' : k2 ≤ 1 := by
    have : (x2 : Int).tdiv 15 = ((x2 / 15 : Nat) : Int) := rfl
    omega
  go_wp2_with fail
  refine (pick_reads w3 w.heap.size 2 r3 (by omega) 10 (by omega) (by omega)).mono ?_
  rintro e w4 ⟨x3, rfl, hx3, r4, g4⟩
  have HB4 := Lib.hid (below_grown HB3.out g4 (Nat.le_refl _) HB3.out.size)
  clear r3 g4
  go_wp2_with fail
  refine (pick_reads w4 w.heap.size 3 r4 (by omega) 16 (by omega) (by omega)).mono ?_
  rintro e w5 ⟨x4, rfl, hx4, r5, g5⟩
  have HB5 := Lib.hid (below_grown HB4.out g5 (Nat.le_refl _) HB4.out.size)
  clear r4 g5 r5
  obtain ⟨k4, hk4⟩ : ∃ k : Nat, (x4 : Int).tdiv 15 = k := ⟨x4 / 15, rfl⟩
  have hk4' : k4 ≤ 1 := by
    have : (x4 : Int).tdiv 15 = ((x4 / 15 : Nat) : Int) := rfl
    omega
  go_wp2_with fail
  go_ret2
  exact ⟨_, _, rfl, by omega, by omega, HB5.out⟩

end Go.Proofs.Ytfcgfeopmnjfjaa
