/-
  The draws of the laws on maps.
-/
import Derived.Test.YtbbidlgdldofdaaDrawM
namespace Go.Proofs.Ytbbidlgdldofdaa
open Go.RowKit

end Go.Proofs.Ytbbidlgdldofdaa
