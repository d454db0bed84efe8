/-
  The program's dual map, as a method.
-/
import Derived.Test.YtpaohaodnchfkaaDual
import Derived.Deep.RegionWith
namespace Go.Proofs.Ytpaohaodnchfkaa
open Go.RowKit

end Go.Proofs.Ytpaohaodnchfkaa
