/-
  PermBack and PermConj, the model's and the program's.
-/
import Derived.Test.YtkbdbkoeahihiaaMul
namespace Go.Proofs.Ytkbdbkoeahihiaa
open Go.RowKit

end Go.Proofs.Ytkbdbkoeahihiaa
