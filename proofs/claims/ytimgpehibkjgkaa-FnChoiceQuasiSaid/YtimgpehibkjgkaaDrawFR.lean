/-
  The draw of a map and a dart.
  The draws of a map and an edge.
-/
import Derived.Test.YtimgpehibkjgkaaDrawM
import Derived.Deep.RegionWith
namespace Go.Proofs.Ytimgpehibkjgkaa
open Go.RowKit

end Go.Proofs.Ytimgpehibkjgkaa

namespace Go.Proofs.Ytimgpehibkjgkaa
open Go.RowKit

end Go.Proofs.Ytimgpehibkjgkaa
