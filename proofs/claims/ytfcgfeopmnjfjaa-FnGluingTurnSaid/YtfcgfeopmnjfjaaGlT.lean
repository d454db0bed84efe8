/-
  The map of a gluing turned is the map, renamed.
-/
import Derived.Test.YtfcgfeopmnjfjaaGlC
import Derived.Test.YtfcgfeopmnjfjaaGlM
import Derived.Test.YtfcgfeopmnjfjaaPar6
namespace Go.Proofs.Ytfcgfeopmnjfjaa

theorem corL_turn {p : List Int} (hp : IsG p) : corL (turnG p) = conjL (corL p) (folL p.length) := by
  have hv := hp.half
  have e1 : conjL (folL p.length) (folL p.length) = folL p.length := (conjL_eq hv rfl (fun i hi => rfl)).symm
  unfold corL
  rw [turnG_len, ← conj_mul hp.vld hv (by rw [folL_len]), e1]; rfl
theorem turn_same {p : List Int} (hp : IsG p) : sameR (corL p) p (corL (turnG p)) (turnG p) = true := by
  have h := (ren_alike (t := corL p) (f := p) hp.half (by rw [folL_len, corL_len])).same hp.isMap
  rw [corL_turn hp]
  exact h

end Go.Proofs.Ytfcgfeopmnjfjaa
