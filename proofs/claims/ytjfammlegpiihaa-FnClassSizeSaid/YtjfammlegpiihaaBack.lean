/-
  PermBack and PermConj, the model's and the program's.
-/
import Derived.Test.YtjfammlegpiihaaMul
namespace Go.Proofs.Ytjfammlegpiihaa
open Go.RowKit

end Go.Proofs.Ytjfammlegpiihaa
