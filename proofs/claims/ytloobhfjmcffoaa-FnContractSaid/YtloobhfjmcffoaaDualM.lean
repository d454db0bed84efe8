/-
  The program's dual map, as a method.
-/
import Derived.Test.YtloobhfjmcffoaaDual
import Derived.Deep.RegionWith
namespace Go.Proofs.Ytloobhfjmcffoaa
open Go.RowKit

end Go.Proofs.Ytloobhfjmcffoaa
