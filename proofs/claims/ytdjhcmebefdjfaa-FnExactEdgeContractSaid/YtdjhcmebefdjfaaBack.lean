/-
  PermBack and PermConj, the model's and the program's.
-/
import Derived.Test.YtdjhcmebefdjfaaMul
namespace Go.Proofs.Ytdjhcmebefdjfaa
open Go.RowKit

end Go.Proofs.Ytdjhcmebefdjfaa
