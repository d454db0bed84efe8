/-
  The model's orbits: the points are relaxed as many times as there are points.
-/
import Derived.Test.YtmhalaleoklplaaDoorOrb
import Derived.Test.YtmhalaleoklplaaDoorConj
import Derived.Lib.MinMax
namespace Go.Proofs.YtmhalaleoklplaaDoor
open Go.RowKit

theorem marks_succ (m : Int) (k : Nat) : marks m (k + 1) = marks m k ++ [m + (k : Int)] := by simp [marks, List.range_succ]
end Go.Proofs.YtmhalaleoklplaaDoor
