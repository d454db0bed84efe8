/-
  MapValid of the model.
-/
import Derived.Test.YtolbcdhkjhbepaaMaps
namespace Go.Proofs.Ytolbcdhkjhbepaa
open Go.RowKit

end Go.Proofs.Ytolbcdhkjhbepaa
