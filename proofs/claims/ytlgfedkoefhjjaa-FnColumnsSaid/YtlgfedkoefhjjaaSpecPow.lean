/-
  The model's PermPower.
-/
import Derived.Test.YtlgfedkoefhjjaaOrb
import Derived.Test.YtlgfedkoefhjjaaBack
namespace Go.Proofs.Ytlgfedkoefhjjaa
open Go.RowKit

def sameL (n : Nat) : List Int := tab n fun i => (i : Int)
theorem iterL_zero (p : List Int) : iterL p 0 = sameL p.length := rfl

end Go.Proofs.Ytlgfedkoefhjjaa
