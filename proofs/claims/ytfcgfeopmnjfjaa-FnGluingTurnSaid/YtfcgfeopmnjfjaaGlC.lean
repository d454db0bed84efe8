/-
  What holds at all gluings turned, by looking at each: as many corners, as many pairs that cross.
-/
import Derived.Test.YtfcgfeopmnjfjaaGlA
import Derived.Test.YtfcgfeopmnjfjaaPar3
import Derived.Test.YtfcgfeopmnjfjaaGluD
namespace Go.Proofs.Ytfcgfeopmnjfjaa

set_option maxRecDepth 100000 in
set_option maxHeartbeats 100000000 in
theorem okT_all : ∀ n, n < 6 → 1 ≤ n → (allG n).all (fun p => decide (chord (turn2 p) = chord p)) = true := by decide +kernel
theorem IsG.turned {p : List Int} (hp : IsG p) : ncor (turnG p) = ncor p ∧ chord (turnG p) = chord p ∧ ggen (turnG p) = ggen p := by
  have h := of_allG okT_all hp
  simp only [decide_eq_true_eq, turn2_eq hp] at h
  have hv := hp.half
  have e1 : conjL (folL p.length) (folL p.length) = folL p.length := (conjL_eq hv rfl (fun i hi => rfl)).symm
  have e2 : corL (turnG p) = conjL (corL p) (folL p.length) := by
    unfold corL
    rw [turnG_len, ← conj_mul hp.vld hv (by rw [folL_len]), e1]; rfl
  have e3 : ncor (turnG p) = ncor p := by
    have hl : (corL p).length = (folL p.length).length := by rw [corL_len, folL_len]
    have := cycles_of_type (corL_vld hp) (conj_vld (corL_vld hp) hv hl) (conj_type (corL_vld hp) hv hl)
    unfold ncor
    rw [e2]
    exact this.symm
  exact ⟨e3, h, by rw [ggen, ggen, turnG_len, e3]⟩

end Go.Proofs.Ytfcgfeopmnjfjaa
