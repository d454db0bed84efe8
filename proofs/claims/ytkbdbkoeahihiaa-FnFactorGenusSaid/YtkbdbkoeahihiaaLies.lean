/-
  Where an append's new slice lies: imports for regions that draw.
-/
import Derived.Test.YtkbdbkoeahihiaaRdO
import Derived.Deep.AppendLies
import Derived.Deep.RegionLaw
import Derived.Deep.DeepCutAuto
namespace Go.Proofs.Ytkbdbkoeahihiaa
end Go.Proofs.Ytkbdbkoeahihiaa
