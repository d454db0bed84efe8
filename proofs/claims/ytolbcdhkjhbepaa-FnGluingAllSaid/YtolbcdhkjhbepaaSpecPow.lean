/-
  The model's PermPower.
-/
import Derived.Test.YtolbcdhkjhbepaaOrb
import Derived.Test.YtolbcdhkjhbepaaBack
namespace Go.Proofs.Ytolbcdhkjhbepaa
open Go.RowKit

def sameL (n : Nat) : List Int := tab n fun i => (i : Int)
theorem iterL_zero (p : List Int) : iterL p 0 = sameL p.length := rfl

end Go.Proofs.Ytolbcdhkjhbepaa
