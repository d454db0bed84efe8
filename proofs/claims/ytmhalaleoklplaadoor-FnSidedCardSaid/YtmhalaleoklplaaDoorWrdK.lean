/-
  The model's corners.
-/
import Derived.Test.YtmhalaleoklplaaDoorWrdM
import Derived.Test.YtmhalaleoklplaaDoorWrdN
import Derived.Test.YtmhalaleoklplaaDoorWoOrb
import Derived.Test.YtmhalaleoklplaaDoorKit
import Derived.Deep.DeepCutAuto
namespace Go.Proofs.YtmhalaleoklplaaDoor
open Go.RowKit

theorem two_rowsM {w wa wb : World} {n : Nat} {g g' : Nat} (hg : g = w.heap.size) (hg' : g' = wa.heap.size) (ha : Own wa w.heap.size (.slice (some ⟨g, 0, none⟩) n n) (List.replicate n 0)) (hga : w.grownBy wa none) (hb : Own wb wa.heap.size (.slice (some ⟨g', 0, none⟩) n n) (List.replicate n 0)) (hgb : wa.grownBy wb none) :
    g ≠ g' ∧ Own wb w.heap.size (.slice (some ⟨g, 0, none⟩) n n) (List.replicate n 0) ∧ Own wb w.heap.size (.slice (some ⟨g', 0, none⟩) n n) (List.replicate n 0) ∧ Below w.heap.size w wb := by
  have h1 := (ha.lt g rfl).2
  refine ⟨by omega, ha.grown hgb (.inr (by simp [Value.ownBlock])), hb.mono hga.size, ?_⟩
  exact (below_of_grown hga (Nat.le_refl _) (fun k hk => by cases hk)).grown hgb hga.size (fun k hk => by cases hk)

def TwoRowsM (w wx : World) (n : Nat) (v v' : Value) : Prop := ∃ g g', v = .slice (some ⟨g, 0, none⟩) n n ∧ v' = .slice (some ⟨g', 0, none⟩) n n ∧ g ≠ g' ∧ Own wx w.heap.size v (List.replicate n 0) ∧ Own wx w.heap.size v' (List.replicate n 0) ∧ Below w.heap.size w wx
end Go.Proofs.YtmhalaleoklplaaDoor
