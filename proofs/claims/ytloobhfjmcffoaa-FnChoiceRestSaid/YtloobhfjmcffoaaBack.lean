/-
  PermBack and PermConj, the model's and the program's.
-/
import Derived.Test.YtloobhfjmcffoaaMul
namespace Go.Proofs.Ytloobhfjmcffoaa
open Go.RowKit

end Go.Proofs.Ytloobhfjmcffoaa
