/-
  The program's dual map, as a method.
-/
import Derived.Test.YtjplajljffahmaaDual
import Derived.Deep.RegionWith
namespace Go.Proofs.Ytjplajljffahmaa
open Go.RowKit

end Go.Proofs.Ytjplajljffahmaa
