/-
  Plane maps by the degree of the root face, the model's table.
-/
import Derived.Test.YtfcgfeopmnjfjaaGrid
import Derived.Test.YtfcgfeopmnjfjaaFaceI
import Derived.Test.YtfcgfeopmnjfjaaCnt
namespace Go.Proofs.Ytfcgfeopmnjfjaa
open Go.RowKit Go.Maps
set_option linter.unusedVariables false

def tf (e p : Nat) (i j : Nat) : Int := if i < e ∨ (i = e ∧ j < p) then fF i j else 0
theorem face_ok2 : ∀ E : Nat, E < 10 → ∀ e : Nat, e < E + 1 → 0 < e → ∀ p : Nat, p < 2 * E + 1 → 0 < p → fLast e p (fOut e p e) (2 * E + 1 - (p - 1)) = fF e p := by decide +kernel

end Go.Proofs.Ytfcgfeopmnjfjaa
