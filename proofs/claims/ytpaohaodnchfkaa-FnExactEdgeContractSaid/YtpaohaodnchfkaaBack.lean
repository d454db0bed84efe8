/-
  PermBack and PermConj, the model's and the program's.
-/
import Derived.Test.YtpaohaodnchfkaaMul
namespace Go.Proofs.Ytpaohaodnchfkaa
open Go.RowKit

end Go.Proofs.Ytpaohaodnchfkaa
