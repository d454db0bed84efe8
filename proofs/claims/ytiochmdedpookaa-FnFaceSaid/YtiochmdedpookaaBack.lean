/-
  PermBack and PermConj, the model's and the program's.
-/
import Derived.Test.YtiochmdedpookaaMul
namespace Go.Proofs.Ytiochmdedpookaa
open Go.RowKit

end Go.Proofs.Ytiochmdedpookaa
