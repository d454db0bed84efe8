/-
  The model's words for a map without an edge: past two darts; what stays, renamed.
-/
import Derived.Test.YtimgpehibkjgkaaDelP
import Derived.Test.YtimgpehibkjgkaaAppF
import Derived.Deep.RegionLaw
import Derived.Deep.AppendLies
namespace Go.Proofs.Ytimgpehibkjgkaa
open Go.RowKit

/-- The names of the darts. -/
def nmL (a b n : Nat) : List Int := tab n fun d => (kpN a b d : Int)
def nmP (a b n k : Nat) : List Int := tab n fun d => if d < k then (kpN a b d : Int) else 0
theorem nmP_len (a b n k : Nat) : (nmP a b n k).length = n := tab_len _ _
theorem nmP_zero (a b n : Nat) : List.replicate n 0 = nmP a b n 0 := tab_ext (by simp) fun j hj => by rw [if_neg (by omega), gi_eq (by simpa using hj)]; simp
theorem nmP_all (a b n : Nat) : nmP a b n n = nmL a b n := tab_ext (nmP_len _ _ _ _) fun j hj => by rw [nmP, gi_tab hj, if_pos hj]
theorem nmP_set {a b n k : Nat} (hk : k < n) : (nmP a b n k).set k (kpN a b k : Int) = nmP a b n (k + 1) := by
  refine tab_ext (by simp [nmP_len]) fun j hj => ?_
  rw [gi_set _ _ _ _ (by rw [nmP_len]; exact hk)]
  by_cases h : j = k
  · rw [if_pos h, h, if_pos (by omega)]
  · rw [if_neg h, nmP, gi_tab hj]
    by_cases h1 : j < k
    · rw [if_pos h1, if_pos (by omega)]
    · rw [if_neg h1, if_neg (by omega)]

end Go.Proofs.Ytimgpehibkjgkaa
