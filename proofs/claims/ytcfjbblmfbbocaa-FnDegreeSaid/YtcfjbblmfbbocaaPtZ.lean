/-
  Sizes of classes: the model's and the program's.
-/
import Derived.Test.YtcfjbblmfbbocaaPtS
namespace Go.Proofs.Ytcfjbblmfbbocaa
open Go.RowKit

/-- The program's steps. -/
def csI (xs : List Int) : Nat → Int × Int
  | 0 => (fct (sumI xs).toNat, 0)
  | k + 1 => let e := (if 0 < k ∧ gi xs k ≠ gi xs (k - 1) then 0 else (csI xs k).2) + 1; ((csI xs k).1.tdiv (gi xs k * e), e)
/-- The model's steps. -/
def csS (xs : List Int) : Nat → Int × Int
  | 0 => (fct (sumI xs).toNat, 0)
  | k + 1 => let e := if 0 < k ∧ gi xs k ≠ gi xs (k - 1) then 1 else (csS xs k).2 + 1; (((csS xs k).1.tdiv (gi xs k)).tdiv e, e)
theorem csI_in : ∀ xs ∈ allPts, ∀ k, k < xs.length → 0 ≤ (csI xs k).2 ∧ (csI xs k).2 ≤ 6 ∧ 1 ≤ (csI xs (k + 1)).1 ∧ (csI xs (k + 1)).1 ≤ 720 ∧ 1 ≤ (csI xs (k + 1)).2 ∧ (csI xs (k + 1)).2 ≤ 6 := by decide +kernel
theorem csS_in : ∀ xs ∈ allPts, ∀ k, k < xs.length → 0 ≤ (csS xs k).2 ∧ (csS xs k).2 ≤ 6 ∧ 1 ≤ ((csS xs k).1.tdiv (gi xs k)) ∧ ((csS xs k).1.tdiv (gi xs k)) ≤ 720 ∧ 1 ≤ (csS xs (k + 1)).1 ∧ (csS xs (k + 1)).1 ≤ 720 ∧ 1 ≤ (csS xs (k + 1)).2 ∧ (csS xs (k + 1)).2 ≤ 6 := by decide +kernel
theorem cs_same : ∀ xs ∈ allPts, (csI xs xs.length).1 = (csS xs xs.length).1 := by decide +kernel
def cs (xs : List Int) : Int := (csI xs xs.length).1
def csR (xs : List Int) : Int := if pt xs = true then cs xs else -1

end Go.Proofs.Ytcfjbblmfbbocaa
