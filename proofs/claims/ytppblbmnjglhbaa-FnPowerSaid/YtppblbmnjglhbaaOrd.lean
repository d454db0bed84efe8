/-
  PermOrder, the model's.
-/
import Derived.Test.YtppblbmnjglhbaaOrb
import Derived.Test.YtppblbmnjglhbaaSpecPow
namespace Go.Proofs.Ytppblbmnjglhbaa
open Go.RowKit

theorem iterL_one {p : List Int} (hp : Vld p) : iterL p 1 = p := by
  symm
  refine tab_ext rfl fun j hj => ?_
  rw [hp.gi_gn hj]; rfl

end Go.Proofs.Ytppblbmnjglhbaa
