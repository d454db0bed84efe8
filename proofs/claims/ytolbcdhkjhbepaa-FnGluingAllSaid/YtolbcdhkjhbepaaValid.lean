/-
  PermValid, the model's and the program's: both tell whether a list has 1 to 12 numbers below its length, no two equal.
-/
import Derived.Test.YtolbcdhkjhbepaaKit
namespace Go.Proofs.Ytolbcdhkjhbepaa
open Go.RowKit


theorem l6In_any (x lo hi : Int) (w : World) :
    Calls Try.prog 30 #[.int .i64 x, .int .i64 lo, .int .i64 hi] w fun e w' => e = .returned (.bool (inB x lo hi)) ∧ w = w' := by
  by_cases h : lo ≤ x
  · by_cases h' : x ≤ hi
    · have E := Lib.hid (inB_true h h')
      go_enter Try.func30, Try.ntmps30
      go_wp2
      go_ret
      exact ⟨ret_bool (by rw [E.out]), rfl⟩
    · have E := Lib.hid (inB_false (x := x) (lo := lo) (hi := hi) (fun e => h' e.2))
      go_enter Try.func30, Try.ntmps30
      go_wp2
      go_ret
      exact ⟨ret_bool (by rw [E.out]), rfl⟩
  · have E := Lib.hid (inB_false (x := x) (lo := lo) (hi := hi) (fun e => h e.1))
    go_enter Try.func30, Try.ntmps30
    go_wp2
    go_ret
    exact ⟨ret_bool (by rw [E.out]), rfl⟩

def seenB (xs : List Int) (k j : Nat) : Bool := (List.range k).any fun i => gi xs i == (j : Int)
theorem seenB_iff {xs : List Int} {k j : Nat} : seenB xs k j = true ↔ ∃ i, i < k ∧ gi xs i = (j : Int) := by simp [seenB]
theorem seenB_true {xs : List Int} {k j : Nat} (h : ∃ i, i < k ∧ gi xs i = (j : Int)) : seenB xs k j = true := seenB_iff.2 h
theorem seenB_false {xs : List Int} {k j : Nat} (h : ¬ ∃ i, i < k ∧ gi xs i = (j : Int)) : seenB xs k j = false := by
  rw [Bool.eq_false_iff]; exact fun e => h (seenB_iff.1 e)
/-- Twelve bools of a block of one's own, as the first k of xs have marked them. -/
def Seen (w : World) (b : Nat) (xs : List Int) (k : Nat) : Prop :=
  ∃ cs : Array Value, w.heap[b]? = some (.cells cs 84 (0, 0)) ∧ cs.size = 12 ∧ ∀ j : Nat, j < 12 → cs[j]? = some (.bool (seenB xs k j))
theorem Seen.frozen {w : World} {b k : Nat} {xs : List Int} (h : Seen w b xs k) (j : Nat) : w.frozen? ⟨b, j, none⟩ = false := by
  obtain ⟨cs, h, _⟩ := h
  exact frozen_of_row w b j cs _ h
theorem Seen.cell {w : World} {b k : Nat} {xs : List Int} (h : Seen w b xs k) {j : Nat} (hj : j < 12) : w.cell? ⟨b, j, none⟩ = some (.bool (seenB xs k j)) := by
  obtain ⟨cs, h, _, hc⟩ := h
  rw [cell_of_row w b j cs _ (0, 0) h]; exact hc j hj
theorem Seen.new (w : World) (xs : List Int) : Seen (w.alloc (.cells #[.bool false, .bool false, .bool false, .bool false, .bool false, .bool false, .bool false, .bool false, .bool false, .bool false, .bool false, .bool false] 84)) w.heap.size xs 0 := by
  refine ⟨_, heap_alloc_new w _, rfl, fun j hj => ?_⟩
  have : seenB xs 0 j = false := by simp [seenB]
  rw [this]
  match j, hj with
  | 0, _ => rfl
  | 1, _ => rfl
  | 2, _ => rfl
  | 3, _ => rfl
  | 4, _ => rfl
  | 5, _ => rfl
  | 6, _ => rfl
  | 7, _ => rfl
  | 8, _ => rfl
  | 9, _ => rfl
  | 10, _ => rfl
  | 11, _ => rfl
  | _ + 12, h => exact absurd h (by omega)
theorem Seen.set {w : World} {b k x : Nat} {xs : List Int} (h : Seen w b xs k) (hx : gi xs k = (x : Int)) : Seen (w.setCell ⟨b, x, none⟩ (.bool true)) b xs (k + 1) := by
  obtain ⟨cs, h, hs, hc⟩ := h
  refine ⟨cs.setIfInBounds x (.bool true), ?_, by simpa using hs, fun j hj => ?_⟩
  · simp [World.setCell, Array.getElem?_modify, h]
  · rw [Array.getElem?_setIfInBounds]
    by_cases e : x = j
    · subst e
      rw [if_pos rfl, if_pos (by rw [hs]; exact hj)]
      congr 2; symm
      exact seenB_true ⟨k, by omega, hx⟩
    · rw [if_neg e, hc j hj]
      congr 2
      rw [Bool.eq_iff_iff, seenB_iff, seenB_iff]
      constructor
      · rintro ⟨i, hi, he⟩; exact ⟨i, by omega, he⟩
      · rintro ⟨i, hi, he⟩
        refine ⟨i, ?_, he⟩
        rcases Nat.lt_or_ge i k with h | h
        · exact h
        · obtain rfl : i = k := by omega
          rw [hx] at he; omega

end Go.Proofs.Ytolbcdhkjhbepaa
