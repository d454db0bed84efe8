/-
  The model's l1Cycles, PermCycles and PermSign.
  The program's cycles, how many there are, and PermSign.
-/
import Derived.Test.YtbbidlgdldofdaaSeen
import Derived.Test.YtbbidlgdldofdaaIter
namespace Go.Proofs.Ytbbidlgdldofdaa
open Go.RowKit

/-- 1 for even, -1 for odd. -/
def parity (d : Int) : Int := if d.tmod 2 = 0 then 1 else -1
def signR (p : List Int) : Int := if vld p = true then parity ((p.length : Int) - (cyclesL p).length) else 0
def cycR (p : List Int) : Bool × List (List Int) := if vld p = true then (true, cyclesL p) else (false, [])
theorem cyclesL_len {p : List Int} : (cyclesL p).length ≤ p.length := by
  have key : ∀ (is : List Nat) (vis : List Nat), (cycAll p is vis).length ≤ is.length := by
    intro is
    induction is with
    | nil => intro vis; simp [cycAll]
    | cons i is ih =>
      intro vis
      rw [cycAll]
      split
      · exact Nat.le_succ_of_le (ih vis)
      · simpa using ih _
  have := key (List.range' 0 p.length) []
  simpa [cyclesL] using this

end Go.Proofs.Ytbbidlgdldofdaa

namespace Go.Proofs.Ytbbidlgdldofdaa
open Go.RowKit Go.Shelf
attribute [local go_sem] Oper.semAt_some

end Go.Proofs.Ytbbidlgdldofdaa
