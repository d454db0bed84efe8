/-
  Contracts of the small functions of package laws that compare, copy, mark and look at slices of ints.
-/
import Derived.Test.YtbbidlgdldofdaaBase
namespace Go.Proofs.Ytbbidlgdldofdaa
open Go.RowKit

theorem ret_bool {a b : Bool} (h : a = b) : Ending.returned (.bool a) = .returned (.bool b) := by rw [h]
theorem ret_int {a b : Int} (h : a = b) : Ending.returned (.int .i64 a) = .returned (.int .i64 b) := by rw [h]

end Go.Proofs.Ytbbidlgdldofdaa
