/-
  The model's orbits: the points are relaxed as many times as there are points.
-/
import Derived.Test.YtjplhnnbmopakaaDoorOrb
import Derived.Test.YtjplhnnbmopakaaDoorConj
import Derived.Lib.MinMax
namespace Go.Proofs.YtjplhnnbmopakaaDoor
open Go.RowKit

theorem marks_succ (m : Int) (k : Nat) : marks m (k + 1) = marks m k ++ [m + (k : Int)] := by simp [marks, List.range_succ]
end Go.Proofs.YtjplhnnbmopakaaDoor
