/-
  Lists of types: the model's and the program's look whether they are valid; FactorGenus by contract.
-/
import Derived.Test.YtlgfedkoefhjjaaRowsSS
import Derived.Test.YtlgfedkoefhjjaaValid
import Derived.Test.YtlgfedkoefhjjaaPtL
namespace Go.Proofs.Ytlgfedkoefhjjaa
open Go.RowKit
set_option linter.unusedVariables false

/-- The j-th list. -/
def row (xss : List (List Int)) (j : Nat) : List Int := xss.getD j []
def TyOk (xss : List (List Int)) : Prop := 1 ≤ xss.length ∧ xss.length ≤ 6 ∧ ∀ j, j < xss.length → prB (row xss 0) (row xss j) = true
instance (xss : List (List Int)) : Decidable (TyOk xss) := by unfold TyOk; infer_instance
def tyB (xss : List (List Int)) : Bool := decide (TyOk xss)
theorem TyOk.pair {xss : List (List Int)} (h : TyOk xss) {j : Nat} (hj : j < xss.length) : PairOk (row xss 0) (row xss j) := prB_iff.1 (h.2.2 j hj)
theorem tyB_not {xss : List (List Int)} {j : Nat} (hj : j < xss.length) (h : prB (row xss 0) (row xss j) = false) : tyB xss = false := by
  simp only [tyB, decide_eq_false_iff_not]
  intro k
  rw [k.2.2 j hj] at h
  exact absurd h (by decide)

end Go.Proofs.Ytlgfedkoefhjjaa
