/-
  PermBack and PermConj, the model's and the program's.
-/
import Derived.Test.YtlgfedkoefhjjaaMul
namespace Go.Proofs.Ytlgfedkoefhjjaa
open Go.RowKit

end Go.Proofs.Ytlgfedkoefhjjaa
