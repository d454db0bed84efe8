/-
  PermBack and PermConj, the model's and the program's.
-/
import Derived.Test.YtjplajljffahmaaMul
namespace Go.Proofs.Ytjplajljffahmaa
open Go.RowKit

end Go.Proofs.Ytjplajljffahmaa
