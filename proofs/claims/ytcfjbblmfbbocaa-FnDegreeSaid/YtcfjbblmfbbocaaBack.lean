/-
  PermBack and PermConj, the model's and the program's.
-/
import Derived.Test.YtcfjbblmfbbocaaMul
namespace Go.Proofs.Ytcfjbblmfbbocaa
open Go.RowKit

end Go.Proofs.Ytcfjbblmfbbocaa
