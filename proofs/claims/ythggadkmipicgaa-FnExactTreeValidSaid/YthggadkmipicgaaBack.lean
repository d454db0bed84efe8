/-
  PermBack and PermConj, the model's and the program's.
-/
import Derived.Test.YthggadkmipicgaaMul
namespace Go.Proofs.Ythggadkmipicgaa
open Go.RowKit

end Go.Proofs.Ythggadkmipicgaa
