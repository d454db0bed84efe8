/-
  PermValid, the model's and the program's: both tell whether a list has 1 to 12 numbers below its length, no two equal.
-/
import Derived.Test.YtnplklccnaiemaaDoorKit
namespace Go.Proofs.YtnplklccnaiemaaDoor
open Go.RowKit


theorem l6In_any (x lo hi : Int) (w : World) :
    Calls Tryd.prog 20 #[.int .i64 x, .int .i64 lo, .int .i64 hi] w fun e w' => e = .returned (.bool (inB x lo hi)) ∧ w = w' := by
  by_cases h : lo ≤ x
  · by_cases h' : x ≤ hi
    · have E := Lib.hid (inB_true h h')
      go_enter Tryd.func20, Tryd.ntmps20
      go_wp2
      go_ret
      exact ⟨ret_bool (by rw [E.out]), rfl⟩
    · have E := Lib.hid (inB_false (x := x) (lo := lo) (hi := hi) (fun e => h' e.2))
      go_enter Tryd.func20, Tryd.ntmps20
      go_wp2
      go_ret
      exact ⟨ret_bool (by rw [E.out]), rfl⟩
  · have E := Lib.hid (inB_false (x := x) (lo := lo) (hi := hi) (fun e => h e.1))
    go_enter Tryd.func20, Tryd.ntmps20
    go_wp2
    go_ret
    exact ⟨ret_bool (by rw [E.out]), rfl⟩

def seenB (xs : List Int) (k j : Nat) : Bool := (List.range k).any fun i => gi xs i == (j : Int)
theorem seenB_iff {xs : List Int} {k j : Nat} : seenB xs k j = true ↔ ∃ i, i < k ∧ gi xs i = (j : Int) := by simp [seenB]
theorem seenB_true {xs : List Int} {k j : Nat} (h : ∃ i, i < k ∧ gi xs i = (j : Int)) : seenB xs k j = true := seenB_iff.2 h
theorem seenB_false {xs : List Int} {k j : Nat} (h : ¬ ∃ i, i < k ∧ gi xs i = (j : Int)) : seenB xs k j = false := by
  rw [Bool.eq_false_iff]; exact fun e => h (seenB_iff.1 e)
end Go.Proofs.YtnplklccnaiemaaDoor
