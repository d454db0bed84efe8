/-
  The model's PermPower.
-/
import Derived.Test.YtkbdbkoeahihiaaOrb
import Derived.Test.YtkbdbkoeahihiaaBack
namespace Go.Proofs.Ytkbdbkoeahihiaa
open Go.RowKit

def sameL (n : Nat) : List Int := tab n fun i => (i : Int)
theorem iterL_zero (p : List Int) : iterL p 0 = sameL p.length := rfl

end Go.Proofs.Ytkbdbkoeahihiaa
