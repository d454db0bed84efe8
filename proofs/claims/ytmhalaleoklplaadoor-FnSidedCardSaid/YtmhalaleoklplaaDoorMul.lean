/-
  PermMul, PermBack, PermConj, the model's and the program's, and what they call.
-/
import Derived.Test.YtmhalaleoklplaaDoorValid
import Derived.RegionTactic
import Derived.ChangeAlike
namespace Go.Proofs.YtmhalaleoklplaaDoor
open Go.RowKit

theorem ret2_eq {v : Value} {a b : Bool} (h : a = b) : Ending.returned (.tuple #[v, .bool a]) = .returned (.tuple #[v, .bool b]) := by rw [h]

/-- The indexes that a leads to lie in b. -/
def Into (a : List Int) (m : Nat) : Prop := ∀ j, j < a.length → 0 ≤ gi a j ∧ gi a j < m
theorem Into.nat {a : List Int} {m j : Nat} (h : Into a m) (hj : j < a.length) : ∃ x : Nat, gi a j = (x : Int) ∧ x < m ∧ gn a j = x := by
  obtain ⟨x, hx⟩ := Int.eq_ofNat_of_zero_le (h j hj).1
  exact ⟨x, hx, by have := (h j hj).2; omega, gn_of hx⟩
theorem Vld.into {p : List Int} (h : Vld p) {m : Nat} (hm : p.length = m) : Into p m := fun j hj => by rw [← hm]; exact h.2.2.1 j hj

end Go.Proofs.YtmhalaleoklplaaDoor
