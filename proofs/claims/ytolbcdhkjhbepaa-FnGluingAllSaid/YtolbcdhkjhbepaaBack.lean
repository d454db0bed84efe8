/-
  PermBack and PermConj, the model's and the program's.
-/
import Derived.Test.YtolbcdhkjhbepaaMul
namespace Go.Proofs.Ytolbcdhkjhbepaa
open Go.RowKit

end Go.Proofs.Ytolbcdhkjhbepaa
