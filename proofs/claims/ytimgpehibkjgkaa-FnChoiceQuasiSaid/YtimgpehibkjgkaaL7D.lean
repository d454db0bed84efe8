/-
  The lesser dart of an edge, as the model finds it.
-/
import Derived.Test.YtimgpehibkjgkaaRibN
namespace Go.Proofs.Ytimgpehibkjgkaa
open Go.RowKit

/-! ### The model's -/
end Go.Proofs.Ytimgpehibkjgkaa
