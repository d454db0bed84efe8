/-
  Conjugate partitions: the model's and the program's.
-/
import Derived.Test.YtlgfedkoefhjjaaPtV
import Derived.Test.YtlgfedkoefhjjaaMul
namespace Go.Proofs.Ytlgfedkoefhjjaa
open Go.RowKit

/-- How many of the first k numbers are greater than m. -/
def cntP (xs : List Int) : Nat → Nat → Int
  | 0, _ => 0
  | k + 1, m => cntP xs k m + if (m : Int) < gi xs k then 1 else 0
theorem cntP_le (xs : List Int) (k m : Nat) : 0 ≤ cntP xs k m ∧ cntP xs k m ≤ k := by
  induction k with
  | zero => simp [cntP]
  | succ k ih => simp only [cntP]; split <;> omega
def cj (xs : List Int) : List Int := tab (gn xs 0) fun m => cntP xs xs.length m
theorem cj_len (xs : List Int) : (cj xs).length = gn xs 0 := tab_len _ _
def cjR (xs : List Int) : Bool × List Int := if pt xs = true then (true, cj xs) else (false, [])
theorem Pt.nat {xs : List Int} (h : Pt xs) {j : Nat} (hj : j < xs.length) : ∃ x : Nat, gi xs j = (x : Int) ∧ 1 ≤ x ∧ x ≤ 6 ∧ gn xs j = x := by
  have := h.le hj
  obtain ⟨x, hx⟩ := Int.eq_ofNat_of_zero_le (show 0 ≤ gi xs j by omega)
  exact ⟨x, hx, by omega, by omega, gn_of hx⟩
theorem Pt.first {xs : List Int} (h : Pt xs) : ∀ j, j < xs.length → gi xs j ≤ gi xs 0 := by
  intro j
  induction j with
  | zero => intro _; exact Int.le_refl _
  | succ j ih =>
    intro hj
    have a := h.2.2.1 (j + 1) hj (by omega)
    rw [Nat.add_sub_cancel] at a
    have := ih (by omega)
    omega
theorem cjR_len {xs ys : List Int} {ok : Bool} (h : cjR xs = (ok, ys)) : ys.length ≤ 12 := by
  unfold cjR at h
  split at h
  · rename_i hb
    injection h with _ h
    obtain ⟨x, _, _, h6, hg⟩ := (Pt_of hb).nat (j := 0) (by have := (Pt_of hb).1; omega)
    rw [← h, cj_len, hg]; omega
  · injection h with _ h; rw [← h]; simp

end Go.Proofs.Ytlgfedkoefhjjaa
