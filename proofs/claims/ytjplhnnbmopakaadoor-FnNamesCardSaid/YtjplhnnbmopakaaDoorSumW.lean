/-
  The program's words one behind the other; renamed and joined words.
-/
import Derived.Test.YtjplhnnbmopakaaDoorNamed
namespace Go.Proofs.YtjplhnnbmopakaaDoor
open Go.RowKit

/-- How many letters the first i words have; what they are together, renamed. -/
def kS (ws : List (List UInt8)) : Nat → Nat
  | 0 => 0
  | i + 1 => kS ws i + (ws.getD i []).length / 2
def accS (ws : List (List UInt8)) : Nat → List UInt8
  | 0 => []
  | i + 1 => accS ws i ++ namesW (ws.getD i []) (kS ws i)
theorem kS_mono (ws : List (List UInt8)) {i j : Nat} (h : i ≤ j) : kS ws i ≤ kS ws j := by
  induction h with
  | refl => exact Nat.le_refl _
  | step _ ih => exact Nat.le_trans ih (by rw [kS]; omega)
theorem accS_len {ws : List (List UInt8)} (h : ∀ i, i < ws.length → Word (ws.getD i [])) : ∀ i, i ≤ ws.length → (accS ws i).length = 2 * kS ws i := by
  intro i
  induction i with
  | zero => intro _; rfl
  | succ i ih =>
    intro hi
    have := (h i (by omega)).len
    rw [accS, List.length_append, namesW_len, ih (by omega), kS]
    omega

end Go.Proofs.YtjplhnnbmopakaaDoor
