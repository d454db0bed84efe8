/-
  An element of an array of two ints, by value.
  The names of a form: the model's and the program's.
  The names of a form: the model's.
-/
import Derived.Test.YtcahnldbamjikaaBase
import Derived.Laws.PanicsMore
import Derived.Test.YtcahnldbamjikaaOrb
import Derived.Test.YtcahnldbamjikaaRename
import Derived.Test.YtcahnldbamjikaaRepeat
import Derived.Maps.AppendAt
import Derived.StillTailTactics
namespace Go.Proofs.Ytcahnldbamjikaa
open Go.RowKit

end Go.Proofs.Ytcahnldbamjikaa

namespace Go.Proofs.Ytcahnldbamjikaa
open Go.RowKit

/-- After i of a dart's two neighbors. -/
def nameI (t f : List Int) (s : List Int × List Int) (d : Nat) : Nat → List Int × List Int
  | 0 => s
  | i + 1 => nameOne (nameI t f s d i) (if i = 0 then gn t d else gn f d)
theorem nameI_two (t f : List Int) (s : List Int × List Int) (d : Nat) : nameI t f s d 2 = nameTwo t f s d := by simp [nameI, nameTwo]
theorem nameOne_new {nm q : List Int} {x : Nat} (h : gi nm x = -1) : nameOne (nm, q) x = (nm.set x (q.length : Int), q ++ [(x : Int)]) := by rw [nameOne, if_pos h]
theorem nameOne_old {nm q : List Int} {x : Nat} (h : ¬ gi nm x = -1) : nameOne (nm, q) x = (nm, q) := by rw [nameOne, if_neg h]

/-- A row of one's own takes a number: it, and what becomes of another row. -/
theorem ne_some {v : Value} {g : Nat} (h : ∀ k, v.ownBlock = some k → k ≠ g) : v.ownBlock = none ∨ v.ownBlock ≠ some g := by
  cases hv : v.ownBlock with
  | none => exact .inl rfl
  | some k => exact .inr (fun e => by injection e with e; exact h k hv e)
theorem some_ne {v : Value} {g : Nat} {A : Nat × Nat} (h : ∀ k, v.ownBlock = some k → k ≠ g) : (Value.slice (some ⟨g, 0, none⟩) A.1 A.2).ownBlock = none ∨ (Value.slice (some ⟨g, 0, none⟩) A.1 A.2).ownBlock ≠ v.ownBlock := by
  refine .inr (fun e => ?_)
  exact h g e.symm rfl

end Go.Proofs.Ytcahnldbamjikaa

namespace Go.Proofs.Ytcahnldbamjikaa
open Go.RowKit

end Go.Proofs.Ytcahnldbamjikaa
