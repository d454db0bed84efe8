/-
  PermBack and PermConj, the model's and the program's.
-/
import Derived.Test.YtfdliekhlcbkcaaDoorMul
namespace Go.Proofs.YtfdliekhlcbkcaaDoor
open Go.RowKit

end Go.Proofs.YtfdliekhlcbkcaaDoor
