/-
  PermBack and PermConj, the model's and the program's.
-/
import Derived.Test.YtmhalaleoklplaaDoorMul
namespace Go.Proofs.YtmhalaleoklplaaDoor
open Go.RowKit

end Go.Proofs.YtmhalaleoklplaaDoor
