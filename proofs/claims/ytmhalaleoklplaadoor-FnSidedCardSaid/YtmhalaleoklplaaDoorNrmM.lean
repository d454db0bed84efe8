/-
  Normal words: the model's.
-/
import Derived.Test.YtmhalaleoklplaaDoorNrm
namespace Go.Proofs.YtmhalaleoklplaaDoor
open Go.RowKit

/-- What stands there behind i rounds. -/
def rowW (b : Bool) (i : Nat) : List UInt8 := if b then hndW (i / 2) else capsW i
theorem rowW_len (b : Bool) (i : Nat) : (rowW b i).length ≤ 2 * i := by
  unfold rowW
  split
  · rw [hndW_len]; omega
  · rw [capsW_len]; omega
theorem specWordN (w : World) (s : ByteArray) (hs : s.size ≤ 1048576) {r : Bool} (hR : wordB s.data.toList = r) :
    Calls Tryd.prog 15 #[.string s] w fun e w' => e = .returned (.bool r) ∧ Below w.heap.size w w' :=
  (specWord_any s w hs hR).mono fun _ _ ⟨he, k, hw⟩ => ⟨he, hw ▸ below_drewN (Below.refl _ _) k⟩
theorem nrmR_yes {l : List UInt8} (h : wordB l = true) : nrmR l = (true, nrmN l) := by rw [nrmR, h]; rfl
theorem nrmR_no {l : List UInt8} (h : wordB l = false) : nrmR l = (false, []) := by rw [nrmR, h]; rfl
theorem add_any (a b : ByteArray) (ha : a.size ≤ 1000) (hb : b.size ≤ 1000) : ∀ W : World, (Op.stringOp .add a b).run Tryd.prog W = .ok (.string (a ++ b)) W := fun W => run_string_add_sum W _ _ (by omega)

end Go.Proofs.YtmhalaleoklplaaDoor
