/-
  An element of an array of two ints, by value.
-/
import Derived.Test.YtjpebcomecoheaaBase
import Derived.Laws.PanicsMore
namespace Go.Proofs.Ytjpebcomecoheaa
open Go.RowKit

theorem idx2_0 (y z : Int) (w : World) : (Instr.index 122 (.agg #[.int .i64 y, .int .i64 z]) (.int .i64 0)).run Try.prog w = .ok (.int .i64 y) w := by
  have h : Try.prog.underlying 122 = some (.array 2 3) := Try.underlying122
  simp [Instr.index, run_underlying h, part, go_sem]
theorem idx2_1 (y z : Int) (w : World) : (Instr.index 122 (.agg #[.int .i64 y, .int .i64 z]) (.int .i64 1)).run Try.prog w = .ok (.int .i64 z) w := by
  have h : Try.prog.underlying 122 = some (.array 2 3) := Try.underlying122
  simp [Instr.index, run_underlying h, part, go_sem]

end Go.Proofs.Ytjpebcomecoheaa
