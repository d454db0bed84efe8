/-
  PermBack and PermConj, the model's and the program's.
-/
import Derived.Test.YtnplklccnaiemaaDoorMul
namespace Go.Proofs.YtnplklccnaiemaaDoor
open Go.RowKit

end Go.Proofs.YtnplklccnaiemaaDoor
