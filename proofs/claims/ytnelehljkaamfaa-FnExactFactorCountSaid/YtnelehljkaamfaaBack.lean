/-
  PermBack and PermConj, the model's and the program's.
-/
import Derived.Test.YtnelehljkaamfaaMul
namespace Go.Proofs.Ytnelehljkaamfaa
open Go.RowKit

end Go.Proofs.Ytnelehljkaamfaa
