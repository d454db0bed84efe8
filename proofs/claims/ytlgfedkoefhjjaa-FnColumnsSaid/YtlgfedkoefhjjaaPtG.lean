/-
  Degrees of shapes: the model's and the program's.
-/
import Derived.Test.YtlgfedkoefhjjaaPtZ
namespace Go.Proofs.Ytlgfedkoefhjjaa
open Go.RowKit

/-- The program's steps in a row. -/
def dgIn (xs : List Int) (r : Nat) (D : Int) : Nat → Int
  | 0 => D
  | c + 1 => (dgIn xs r D c).tdiv (gi xs r - 1 - c + (gi (cj xs) c - 1 - r) + 1)
def dgI (xs : List Int) : Nat → Int
  | 0 => fct (sumI xs).toNat
  | r + 1 => dgIn xs r (dgI xs r) (gn xs r)
/-- The model's. -/
def dgSn (xs : List Int) (r : Nat) (D : Int) : Nat → Int
  | 0 => D
  | c + 1 => dgSn xs r D c * (gi xs r - c + gi (cj xs) c - r - 1)
def dgS (xs : List Int) : Nat → Int
  | 0 => 1
  | r + 1 => dgSn xs r (dgS xs r) (gn xs r)
theorem dgI_in : ∀ xs ∈ allPts, ∀ r, r < xs.length → ∀ c, c < gn xs r → c < gn xs 0 ∧ 1 ≤ gi (cj xs) c ∧ gi (cj xs) c ≤ 6 ∧ 1 ≤ gi xs r - 1 - c + (gi (cj xs) c - 1 - r) + 1 ∧ gi xs r - 1 - c + (gi (cj xs) c - 1 - r) + 1 ≤ 12 ∧ 1 ≤ dgIn xs r (dgI xs r) (c + 1) ∧ dgIn xs r (dgI xs r) (c + 1) ≤ 720 := by decide +kernel
theorem dgS_in : ∀ xs ∈ allPts, ∀ r, r < xs.length → ∀ c, c < gn xs r → 1 ≤ dgSn xs r (dgS xs r) (c + 1) ∧ dgSn xs r (dgS xs r) (c + 1) ≤ 720 := by decide +kernel
theorem dg_same : ∀ xs ∈ allPts, 1 ≤ dgS xs xs.length ∧ dgS xs xs.length ≤ 720 ∧ (fct (sumI xs).toNat).tdiv (dgS xs xs.length) = dgI xs xs.length ∧ 1 ≤ dgI xs xs.length ∧ dgI xs xs.length ≤ 720 := by decide +kernel
def dg (xs : List Int) : Int := dgI xs xs.length
def dgR (xs : List Int) : Int := if pt xs = true then dg xs else -1

end Go.Proofs.Ytlgfedkoefhjjaa
