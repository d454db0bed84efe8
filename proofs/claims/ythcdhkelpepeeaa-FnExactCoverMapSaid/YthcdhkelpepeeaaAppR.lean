/-
  One row appended to a slice of slices that a call owns: what is known behind it.
-/
import Derived.Test.YthcdhkelpepeeaaAppI
import Derived.Test.YthcdhkelpepeeaaMarkSS
namespace Go.Proofs.Ythcdhkelpepeeaa
open Go.RowKit

/-- What OwnSS says, its values by name. -/
def Opn (w : World) (lo hi : Nat) (v : Value) (xss : List (List Int)) (vs : List Value) : Prop :=
  vs.length = xss.length ∧ w.ownsRow lo 22 1 v xss.length vs ∧ (∀ j, j < xss.length → Own w lo (vs.getD j undef) (xss.getD j []) ∧ ∀ k, (vs.getD j undef).ownBlock = some k → k < hi) ∧
    ∀ j, j < xss.length → ∀ i, i < j → (vs.getD i undef).ownBlock = none ∨ (vs.getD i undef).ownBlock ≠ (vs.getD j undef).ownBlock
theorem OwnSS.opn {w : World} {lo hi : Nat} {v : Value} {xss : List (List Int)} (h : OwnSS w lo hi v xss) : ∃ vs, Opn w lo hi v xss vs := h
theorem Opn.row {w : World} {lo hi L : Nat} {v : Value} {xss : List (List Int)} {vs : List Value} (h : Opn w lo hi v xss vs) (hL : xss.length = L) : w.ownsRow lo 22 1 v L vs := hL ▸ h.2.1
theorem Opn.below {w w' : World} {lo hi : Nat} {v : Value} {xss : List (List Int)} {vs : List Value} (h : Opn w lo hi v xss vs) (hb : Below w.heap.size w w') : Opn w' lo hi v xss vs := by
  obtain ⟨hl, ho, hr, hd⟩ := h
  exact ⟨hl, World.ownsRow.kept ho (row := none) ⟨hb.os, hb.tape, hb.output, hb.size, fun k hk _ => hb.block k hk⟩ (by cases v.ownBlock <;> simp), fun j hj => ⟨(hr j hj).1.below hb, (hr j hj).2⟩, hd⟩
theorem app_row {wr w1 w2 : World} {lo L : Nat} {v u v1 : Value} {xss : List (List Int)} {xs : List Int} {vs : List Value} (hlo : lo ≤ wr.heap.size) (hL : xss.length = L) (h : Opn w1 lo wr.heap.size v xss vs) (hb : Below wr.heap.size wr w1)
    (hu : Own w1 wr.heap.size u xs) (hown : w2.ownsRow lo 22 1 v1 (L + 1) (vs ++ [u])) (hg : (w1.alloc (.cells #[u] 22)).grownBy w2 v.ownBlock) : OwnSS w2 lo w2.heap.size v1 (xss ++ [xs]) ∧ Below lo wr w2 := by
  subst hL
  have hba : Below w1.heap.size w1 (w1.alloc (.cells #[u] 22)) := (Below.refl _ _).alloc (Nat.le_refl _) _
  have hsz := hg.size
  have hbs := hb.size
  rw [World.size_alloc] at hsz
  obtain ⟨hl, ho, hr, hd⟩ := h
  refine ⟨OwnSS.snoc (hi := wr.heap.size) hl (fun j hj => ⟨(hr j hj).1.below hba, (hr j hj).2⟩) hd (ho.alloc _) ((hu.below hba).mono hlo) (fun k hk => (hu.lt k hk).1) (by omega) (fun k hk => by have := (hu.lt k hk).2; omega) hown hg, ?_⟩
  exact ((hb.mono hlo).alloc (by omega) _).grown hg (by simp; omega) (fun k hk => (ho.lt k hk).1)

end Go.Proofs.Ythcdhkelpepeeaa
