/-
  PermBack and PermConj, the model's and the program's.
-/
import Derived.Test.YtkpjlihkeojpfaaMul
namespace Go.Proofs.Ytkpjlihkeojpfaa
open Go.RowKit

end Go.Proofs.Ytkpjlihkeojpfaa
