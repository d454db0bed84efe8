/-
  The next permutation: plain; the model's.
  The next permutation, the program's: a segment turned round in place; advance.
-/
import Derived.Test.YtlnegaenjcekcaaLawMap
import Derived.Test.YtlnegaenjcekcaaCopy
namespace Go.Proofs.Ytlnegaenjcekcaa
open Go.RowKit
set_option linter.unusedVariables false

/-- Where the last ascent begins, and one more; 0 if there is none. -/
def atR (p : List Int) : Nat → Nat
  | 0 => 0
  | i + 1 => if gi p (i + 1) < gi p i then atR p i else i + 1
/-- The last place from k down whose number is not less than that at a. -/
def wR (p : List Int) (a : Nat) : Nat → Nat
  | 0 => 0
  | k + 1 => if gi p (k + 1) < gi p a then wR p a k else k + 1
def swapAt (p : List Int) (a k j : Nat) : Int := if j = k then gi p a else gi p j
def nextP (p : List Int) (a k : Nat) : List Int := tab p.length fun j => if j < a then gi p j else if j = a then gi p k else swapAt p a k (p.length - (j - a))
def nextL (p : List Int) : List Int := if atR p (p.length - 1) = 0 then [] else nextP p (atR p (p.length - 1) - 1) (wR p (atR p (p.length - 1) - 1) (p.length - 1))
theorem nextP_len (p : List Int) (a k : Nat) : (nextP p a k).length = p.length := tab_len _ _
theorem atR_le (p : List Int) : ∀ i, atR p i ≤ i
  | 0 => Nat.le_refl _
  | i + 1 => by
    rw [atR]
    split
    · exact Nat.le_succ_of_le (atR_le p i)
    · exact Nat.le_refl _
theorem atR_up (p : List Int) : ∀ i, atR p i ≠ 0 → ¬ gi p (atR p i) < gi p (atR p i - 1)
  | 0, h => absurd rfl h
  | i + 1, h => by
    rw [atR] at h ⊢
    split
    · rename_i h1
      rw [if_pos h1] at h
      exact atR_up p i h
    · rename_i h1
      exact h1
theorem wR_le (p : List Int) (a : Nat) : ∀ k, wR p a k ≤ k
  | 0 => Nat.le_refl _
  | k + 1 => by
    rw [wR]
    split
    · exact Nat.le_succ_of_le (wR_le p a k)
    · exact Nat.le_refl _
theorem wR_ge (p : List Int) (a b : Nat) (hb : 0 < b) (h : ¬ gi p b < gi p a) : ∀ k, b ≤ k → b ≤ wR p a k
  | 0, h1 => by omega
  | k + 1, h1 => by
    rw [wR]
    split
    · rename_i h2
      by_cases e : b = k + 1
      · subst e; exact absurd h2 h
      · exact wR_ge p a b hb h k (by omega)
    · exact h1
theorem take_tab_succ {xs : List Int} {m : Nat} (h : m < xs.length) : xs.take (m + 1) = xs.take m ++ [gi xs m] := by
  rw [List.take_succ_eq_append_getElem h, gi_eq h]
theorem nextP_start {p : List Int} {a k : Nat} (ha : a < p.length) : (nextP p a k).take (a + 1) = p.take a ++ [gi p k] := by
  have hl := nextP_len p a k
  rw [take_tab_succ (by rw [hl]; exact ha)]
  congr 1
  · refine eq_of_gi (by rw [List.length_take, List.length_take, hl]) fun j hj => ?_
    rw [List.length_take] at hj
    have e1 : gi ((nextP p a k).take a) j = gi (nextP p a k) j := by rw [gi_eq (by rw [List.length_take]; omega), gi_eq (by omega), List.getElem_take]
    have e2 : gi (p.take a) j = gi p j := by rw [gi_eq (by rw [List.length_take]; omega), gi_eq (by omega), List.getElem_take]
    rw [e1, e2, nextP, gi_tab (by omega), if_pos (by omega)]
  · rw [nextP, gi_tab ha, if_neg (by omega), if_pos rfl]
theorem nextP_at {p : List Int} {a k j : Nat} (hj : j < p.length) (ha : a < j) : gi (nextP p a k) (a + (p.length - j)) = swapAt p a k j := by
  rw [nextP, gi_tab (by omega), if_neg (by omega), if_neg (by omega)]
  congr 1
  omega

theorem rd_take {w : World} {A : Option Addr} {n m : Nat} {xs : List Int} (h : Rd w A n xs) (hm : m ≤ n) : Rd w A m (xs.take m) := by
  refine ⟨by rw [List.length_take, h.1]; omega, fun h0 => ?_⟩
  obtain ⟨ad, e, hc⟩ := h.2 (by omega)
  refine ⟨ad, e, fun j hj => ?_⟩
  have e1 : gi (xs.take m) j = gi xs j := by
    have := h.1
    rw [gi_eq (by rw [List.length_take]; omega), gi_eq (by omega), List.getElem_take]
  rw [e1]
  exact hc j (by omega)

end Go.Proofs.Ytlnegaenjcekcaa

namespace Go.Proofs.Ytlnegaenjcekcaa
open Go.RowKit
set_option linter.unusedVariables false

/-- The m numbers from off on, t pairs of them exchanged from outside in. -/
def revSeg (p : List Int) (off m t : Nat) : List Int := tab p.length fun j => if off ≤ j ∧ j < off + m ∧ (j - off < t ∨ m - t ≤ j - off) then gi p (off + (m - 1 - (j - off))) else gi p j
theorem revSeg_len (p : List Int) (off m t : Nat) : (revSeg p off m t).length = p.length := tab_len _ _
theorem revSeg_zero (p : List Int) (off m : Nat) : revSeg p off m 0 = p := by
  refine eq_of_gi (revSeg_len _ _ _ _) fun j hj => ?_
  rw [revSeg_len] at hj
  rw [revSeg, gi_tab hj, if_neg (by omega)]
theorem gi_set_ (xs : List Int) (k j : Nat) (u : Int) (hj : j < xs.length) : gi (xs.set k u) j = if j = k then u else gi xs j := by
  unfold gi
  simp only [List.getD_eq_getElem?_getD, List.getElem?_set]
  by_cases e : k = j
  · subst e; simp [hj]
  · rw [if_neg e, if_neg (fun h => e h.symm)]
theorem revSeg_step {p : List Int} {off m t : Nat} (ht : t < m - 1 - t) (hm : off + m ≤ p.length) :
    ((revSeg p off m t).set (off + t) (gi (revSeg p off m t) (off + (m - 1 - t)))).set (off + (m - 1 - t)) (gi (revSeg p off m t) (off + t)) = revSeg p off m (t + 1) := by
  have e1 : gi (revSeg p off m t) (off + (m - 1 - t)) = gi p (off + (m - 1 - t)) := by rw [revSeg, gi_tab (by omega), if_neg (by omega)]
  have e2 : gi (revSeg p off m t) (off + t) = gi p (off + t) := by rw [revSeg, gi_tab (by omega), if_neg (by omega)]
  refine eq_of_gi (by rw [List.length_set, List.length_set, revSeg_len, revSeg_len]) fun j hj => ?_
  rw [List.length_set, List.length_set, revSeg_len] at hj
  rw [gi_set_ _ _ _ _ (by rw [List.length_set, revSeg_len]; exact hj), gi_set_ _ _ _ _ (by rw [revSeg_len]; exact hj), e1, e2]
  have e3 : gi (revSeg p off m (t + 1)) j = if off ≤ j ∧ j < off + m ∧ (j - off < t + 1 ∨ m - (t + 1) ≤ j - off) then gi p (off + (m - 1 - (j - off))) else gi p j := by rw [revSeg, gi_tab hj]
  have e4 : gi (revSeg p off m t) j = if off ≤ j ∧ j < off + m ∧ (j - off < t ∨ m - t ≤ j - off) then gi p (off + (m - 1 - (j - off))) else gi p j := by rw [revSeg, gi_tab hj]
  rw [e3, e4]
  by_cases h1 : j = off + (m - 1 - t)
  · rw [if_pos h1, if_pos (by omega)]
    congr 1; omega
  · rw [if_neg h1]
    by_cases h2 : j = off + t
    · rw [if_pos h2, if_pos (by omega)]
      congr 1; omega
    · rw [if_neg h2]
      by_cases h3 : off ≤ j ∧ j < off + m ∧ (j - off < t ∨ m - t ≤ j - off)
      · rw [if_pos h3, if_pos (by omega)]
      · rw [if_neg h3, if_neg (by omega)]

theorem grown_drewN_ {w w' : World} {row : Option Nat} (h : w.grownBy w' row) (d : Nat) : w.grownBy (w'.drewN d) row := ⟨h.os, h.tape, h.output, h.size, h.block⟩

def exch (p : List Int) (a k : Nat) : List Int := (p.set a (gi p k)).set k (gi p a)
theorem exch_len (p : List Int) (a k : Nat) : (exch p a k).length = p.length := by simp [exch]
theorem gi_exch {p : List Int} {a k j : Nat} (hj : j < p.length) (hak : a ≠ k) : gi (exch p a k) j = if j = k then gi p a else if j = a then gi p k else gi p j := by
  rw [exch, gi_set_ _ _ _ _ (by rw [List.length_set]; exact hj), gi_set_ _ _ _ _ hj]
theorem next_rev {p : List Int} {a k : Nat} (hak : a < k) (hk : k < p.length) : revSeg (exch p a k) (a + 1) (p.length - (a + 1)) ((p.length - (a + 1)) / 2) = nextP p a k := by
  refine eq_of_gi (by rw [revSeg_len, exch_len, nextP_len]) fun j hj => ?_
  rw [revSeg_len, exch_len] at hj
  rw [revSeg, gi_tab (by rw [exch_len]; exact hj), nextP, gi_tab hj]
  by_cases h1 : j < a
  · rw [if_neg (by omega), if_pos h1, gi_exch hj (by omega), if_neg (by omega), if_neg (by omega)]
  · rw [if_neg h1]
    by_cases h2 : j = a
    · rw [if_neg (by omega), if_pos h2, gi_exch hj (by omega), if_neg (by omega), if_pos h2]
    · rw [if_neg h2, swapAt]
      by_cases h3 : a + 1 ≤ j ∧ j < a + 1 + (p.length - (a + 1)) ∧ (j - (a + 1) < (p.length - (a + 1)) / 2 ∨ p.length - (a + 1) - (p.length - (a + 1)) / 2 ≤ j - (a + 1))
      · rw [if_pos h3, gi_exch (by omega) (by omega), show a + 1 + (p.length - (a + 1) - 1 - (j - (a + 1))) = p.length - (j - a) from by omega]
        by_cases h4 : p.length - (j - a) = k
        · rw [if_pos h4, if_pos h4]
        · rw [if_neg h4, if_neg h4, if_neg (by omega)]
      · have h5 : p.length - (j - a) = j := by omega
        rw [if_neg h3, gi_exch hj (by omega), h5]
        by_cases h4 : j = k
        · rw [if_pos h4, if_pos h4]
        · rw [if_neg h4, if_neg h4, if_neg h2]

end Go.Proofs.Ytlnegaenjcekcaa
