/-
  PermBack and PermConj, the model's and the program's.
-/
import Derived.Test.YtpmgeopakjcdgaaDoorMul
namespace Go.Proofs.YtpmgeopakjcdgaaDoor
open Go.RowKit

end Go.Proofs.YtpmgeopakjcdgaaDoor
