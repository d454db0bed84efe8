/-
  MapValid: the model's and the program's.
-/
import Derived.Test.YtolbcdhkjhbepaaOrb
import Derived.Test.YtolbcdhkjhbepaaSpecOrb
import Derived.Test.YtolbcdhkjhbepaaImplOrb
import Derived.Test.YtolbcdhkjhbepaaKitM
import Derived.Deep.RegionWith
import Derived.Deep.RegionHeld3
namespace Go.Proofs.Ytolbcdhkjhbepaa
open Go.RowKit

section
variable {w w' : World} {b n c n' c' : Nat} {A A' : Option Addr}
end

end Go.Proofs.Ytolbcdhkjhbepaa
