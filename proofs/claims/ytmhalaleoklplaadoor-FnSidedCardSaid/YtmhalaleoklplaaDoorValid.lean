/-
  PermValid, the model's and the program's: both tell whether a list has 1 to 12 numbers below its length, no two equal.
-/
import Derived.Test.YtmhalaleoklplaaDoorKit
namespace Go.Proofs.YtmhalaleoklplaaDoor
open Go.RowKit


def seenB (xs : List Int) (k j : Nat) : Bool := (List.range k).any fun i => gi xs i == (j : Int)
theorem seenB_iff {xs : List Int} {k j : Nat} : seenB xs k j = true ↔ ∃ i, i < k ∧ gi xs i = (j : Int) := by simp [seenB]
theorem seenB_true {xs : List Int} {k j : Nat} (h : ∃ i, i < k ∧ gi xs i = (j : Int)) : seenB xs k j = true := seenB_iff.2 h
theorem seenB_false {xs : List Int} {k j : Nat} (h : ¬ ∃ i, i < k ∧ gi xs i = (j : Int)) : seenB xs k j = false := by
  rw [Bool.eq_false_iff]; exact fun e => h (seenB_iff.1 e)
end Go.Proofs.YtmhalaleoklplaaDoor
