/-
  PermBack and PermConj, the model's and the program's.
-/
import Derived.Test.YtimgpehibkjgkaaMul
namespace Go.Proofs.Ytimgpehibkjgkaa
open Go.RowKit

end Go.Proofs.Ytimgpehibkjgkaa
