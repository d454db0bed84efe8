/-
  Chapter 3's flip: the model's l3Flip, its list known whole.
-/
import Derived.Test.YthcdhkelpepeeaaSeen
namespace Go.Proofs.Ythcdhkelpepeeaa
open Go.RowKit

/-- Each dart 2k paired with 2k + 1. -/
def flipL : Nat → List Int
  | 0 => []
  | k + 1 => flipL k ++ [2 * (k : Int) + 1, 2 * (k : Int)]
theorem flipL_len : ∀ n, (flipL n).length = 2 * n
  | 0 => rfl
  | k + 1 => by rw [flipL, List.length_append, flipL_len k]; simp; omega

theorem flip_news (w : World) (u u' : Value) (t : TypeId) : ∀ (j : Nat) (v : Value), [u, u'][j]? = some v → (w.alloc (.cells #[u, u'] t)).cell? ((⟨w.heap.size, 0, none⟩ : Addr).add j) = some v := by
  intro j v hj
  have e : (⟨w.heap.size, 0, none⟩ : Addr).add j = ⟨w.heap.size, j, none⟩ := by unfold Addr.add; split <;> simp_all
  rw [e, cell_of_row _ w.heap.size j _ _ (0, 0) (heap_alloc_new w _)]
  simpa using hj

end Go.Proofs.Ythcdhkelpepeeaa
