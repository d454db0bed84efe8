/-
  The draws of the laws on one permutation.
-/
import Derived.Test.YtppblbmnjglhbaaLawMap
namespace Go.Proofs.Ytppblbmnjglhbaa
open Go.RowKit

theorem drawCycles_any (w : World) (A : Option Addr) (n c : Nat) (bs : List Int) (h : RdB w A n bs) (hn : n ≤ 1048576) (hc : n ≤ c) :
    Calls Try.prog 15 #[.slice A n c] w fun e w' => ∃ v ys, e = .returned v ∧ Own w' w.heap.size v ys ∧ ys.length ≤ 1000 ∧ Below w.heap.size w w' := by
  go_enter Try.func15, Try.ntmps15
  go_wp2_with fail
  refine (open_reads w A n c bs h hn hc).mono ?_
  rintro e w1 ⟨rfl, r1, b1, s1⟩
  go_wp2_with fail
  refine (some_any w1 w.heap.size 0 9 r1 (by omega) (by omega) (by omega)).mono ?_
  rintro e w2 ⟨v, ys, rfl, ho, hl, b2⟩
  go_wp2_with fail
  go_ret
  exact ⟨v, ys, rfl, ho.mono (by omega), by omega, b1.trans b2⟩

end Go.Proofs.Ytppblbmnjglhbaa
