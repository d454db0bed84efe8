/-
  The map of a gluing: that it is a map, its faces, its vertices.
-/
import Derived.Test.YtfcgfeopmnjfjaaGluD
import Derived.Test.YtfcgfeopmnjfjaaCounts
namespace Go.Proofs.Ytfcgfeopmnjfjaa

theorem gn_corL {p : List Int} (hp : IsG p) {i : Nat} (hi : i < p.length) : gn (corL p) i = (gn p i + 1) % p.length := by
  have h := (hp.gn_at hi).2.1
  refine gn_of ?_
  rw [corL, gi_mulL hi, gi_folL h]
theorem gmap_faces {p : List Int} (hp : IsG p) : mulL p (corL p) = folL p.length := by
  refine eq_of_gi (by rw [mulL_len, folL_len]) (fun i hi => ?_)
  rw [mulL_len] at hi
  obtain ⟨-, h1, -, h3⟩ := hp.gn_at hi
  rw [gi_mulL hi, gi_folL hi]
  have hv := corL_vld hp
  rw [hv.gi_gn (by rw [corL_len]; exact h1), gn_corL hp h1, h3]
theorem fol_one : ∀ n, n < 13 → 1 ≤ n → (cyclesL (folL n)).length = 1 := by decide +kernel
theorem gmap_cntF {p : List Int} (hp : IsG p) : cntF (corL p) p = 1 := by
  unfold cntF
  rw [gmap_faces hp]
  exact fol_one _ (by have := hp.2.1; omega) (by have := hp.1; omega)
theorem IsG.isMap {p : List Int} (hp : IsG p) : IsMap (corL p) p := by
  refine ⟨corL_vld hp, hp.vld, corL_len p, fun i hi => ⟨(hp.gn_at hi).2.2.1, (hp.gn_at hi).2.2.2⟩, whole_of_lead fun j hj => ?_⟩
  rw [corL_len] at hj
  induction j with
  | zero => exact .refl _
  | succ j ih =>
    obtain ⟨-, h1, -, h3⟩ := hp.gn_at (show j < p.length by omega)
    have h := Lead.one (Lead.two (ih (by omega)))
    rw [gn_corL hp h1, h3, Nat.mod_eq_of_lt hj] at h
    exact h

end Go.Proofs.Ytfcgfeopmnjfjaa
