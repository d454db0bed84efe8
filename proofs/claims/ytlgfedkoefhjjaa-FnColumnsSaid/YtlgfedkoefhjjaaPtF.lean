/-
  The first permutation of a class: the model's and the program's.
-/
import Derived.Test.YtlgfedkoefhjjaaPtS
namespace Go.Proofs.Ytlgfedkoefhjjaa
open Go.RowKit

/-- How many points the first k cycles have. -/
def sn (xs : List Int) : Nat → Nat
  | 0 => 0
  | k + 1 => sn xs k + gn xs k
def cfL (xs : List Int) : Nat → List Int
  | 0 => []
  | k + 1 => cfL xs k ++ tab (gn xs k) fun i => ((sn xs k + (i + 1) % gn xs k : Nat) : Int)
def cf (xs : List Int) : List Int := cfL xs xs.length
theorem cf_in : ∀ xs ∈ allPts, (cf xs).length = sn xs xs.length ∧ (sn xs xs.length : Int) = sumI xs ∧ (∀ k, k < xs.length → sn xs (k + 1) ≤ sn xs xs.length) ∧ ∀ k, k < xs.length → ∀ i, i < gn xs k → gi (cf xs) (sn xs k + i) = ((sn xs k + (i + 1) % gn xs k : Nat) : Int) := by decide +kernel
def cfR (xs : List Int) : Bool × List Int := if pt xs = true then (true, cf xs) else (false, [])
theorem cfR_len {xs ys : List Int} {ok : Bool} (h : cfR xs = (ok, ys)) : ys.length ≤ 12 := by
  unfold cfR at h
  split at h
  · rename_i hb
    injection h with _ h
    have hp := Pt_of hb
    obtain ⟨a, b, _⟩ := cf_in xs hp.all
    have := hp.sum
    rw [← h, a]; omega
  · injection h with _ h; rw [← h]; simp

theorem take_one {T : List Int} {m : Nat} {u : Int} (h : m < T.length) (hu : gi T m = u) : T.take (m + 1) = T.take m ++ [u] := by
  rw [List.take_succ_eq_append_getElem h, ← gi_eq h, hu]

theorem own_take {w : World} {lo m s : Nat} {v : Value} {T : List Int} (hT : T.length = s) (hm : m ≤ s) (h : w.ownsRow lo 3 1 v m (ints (T.take m))) : Own w lo v (T.take m) := by
  unfold Own
  rw [show (T.take m).length = m from by rw [List.length_take]; omega]
  exact h

end Go.Proofs.Ytlgfedkoefhjjaa
