/-
  PermBack and PermConj, the model's and the program's.
-/
import Derived.Test.YtjplhnnbmopakaaDoorMul
namespace Go.Proofs.YtjplhnnbmopakaaDoor
open Go.RowKit

end Go.Proofs.YtjplhnnbmopakaaDoor
