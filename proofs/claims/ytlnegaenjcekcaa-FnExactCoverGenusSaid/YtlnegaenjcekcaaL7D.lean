/-
  The lesser dart of an edge, as the model finds it.
-/
import Derived.Test.YtlnegaenjcekcaaRibN
namespace Go.Proofs.Ytlnegaenjcekcaa
open Go.RowKit

/-! ### The model's -/
end Go.Proofs.Ytlnegaenjcekcaa
