/-
  MapValid of the model.
-/
import Derived.Test.YtfdliekhlcbkcaaDoorMaps
namespace Go.Proofs.YtfdliekhlcbkcaaDoor
open Go.RowKit

end Go.Proofs.YtfdliekhlcbkcaaDoor
