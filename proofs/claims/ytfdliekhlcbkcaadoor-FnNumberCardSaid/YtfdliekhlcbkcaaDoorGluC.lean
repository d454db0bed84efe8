/-
  GluingChord, GluingPlanar: the model's and the program's.
-/
import Derived.Test.YtfdliekhlcbkcaaDoorGluV
import Derived.Test.YtfdliekhlcbkcaaDoorMul
namespace Go.Proofs.YtfdliekhlcbkcaaDoor
open Go.RowKit

theorem chord_le {p : List Int} (h : IsG p) : chord p ≤ 100 := by
  have h1 := chN_le p p.length
  have h2 := Nat.mul_le_mul h.2.1 h.2.1
  unfold chord; omega
theorem chN_succ (p : List Int) (a : Nat) : chN p (a + 1) = chN p a + crA p a p.length := rfl
theorem chN_small {p : List Int} (h : IsG p) {a : Nat} (ha : a ≤ p.length) : chN p a ≤ 100 := by
  have h1 := chN_le p a
  have h3 := h.2.1
  have h2 := Nat.mul_le_mul (show a ≤ 10 by omega) h3
  omega

end Go.Proofs.YtfdliekhlcbkcaaDoor
