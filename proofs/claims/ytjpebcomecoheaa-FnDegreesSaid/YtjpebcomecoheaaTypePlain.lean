/-
  Plain: the type of a permutation: the lengths of its cycles, the greatest first, as they are counted and as they are sorted.
-/
import Derived.Test.YtjpebcomecoheaaOrb
namespace Go.Proofs.Ytjpebcomecoheaa

/-- How many of the first i cycles have k points. -/
def cnt (cs : List (List Int)) (k : Nat) : Nat → Nat
  | 0 => 0
  | i + 1 => cnt cs k i + (if (cs.getD i []).length = k then 1 else 0)
/-- The lengths from k down, each as often as there are cycles of it. -/
def fromLen (cs : List (List Int)) : Nat → List Int
  | 0 => []
  | k + 1 => List.replicate (cnt cs (k + 1) cs.length) ((k : Int) + 1) ++ fromLen cs k
def typeL (p : List Int) : List Int := fromLen (cyclesL p) p.length
theorem cnt_le (cs : List (List Int)) (k i : Nat) : cnt cs k i ≤ i := by
  induction i with
  | zero => simp [cnt]
  | succ i ih => rw [cnt]; split <;> omega
theorem cnt_sum (cs : List (List Int)) : ∀ (i n : Nat), (∀ j, j < i → 1 ≤ (cs.getD j []).length ∧ (cs.getD j []).length ≤ n) → ((List.range n).map fun k => cnt cs (k + 1) i).sum = i := by
  intro i
  induction i with
  | zero =>
    intro n _
    have : ((List.range n).map fun k => cnt cs (k + 1) 0) = List.replicate n 0 := by
      apply List.ext_getElem (by simp)
      intro j h1 h2
      simp [cnt]
    rw [this]; simp
  | succ i ih =>
    intro n h
    have h1 := ih n (fun j hj => h j (by omega))
    have h2 := h i (by omega)
    have key : ∀ m, ((List.range m).map fun k => cnt cs (k + 1) (i + 1)).sum = ((List.range m).map fun k => cnt cs (k + 1) i).sum + (if (cs.getD i []).length ≤ m then 1 else 0) := by
      intro m
      induction m with
      | zero => rw [if_neg (by omega)]; simp
      | succ m ihm =>
        rw [List.range_succ, List.map_append, List.map_append, List.sum_append, List.sum_append, ihm]
        simp only [List.map_cons, List.map_nil, List.sum_cons, List.sum_nil, cnt]
        by_cases e : (cs.getD i []).length = m + 1
        · rw [if_pos e, if_neg (by omega), if_pos (by omega)]; omega
        · rw [if_neg e]
          by_cases e' : (cs.getD i []).length ≤ m
          · rw [if_pos e', if_pos (by omega)]; omega
          · rw [if_neg e', if_neg (by omega)]; omega
    rw [key n, h1, if_pos h2.2]
theorem fromLen_len (cs : List (List Int)) : ∀ n, (fromLen cs n).length = ((List.range n).map fun k => cnt cs (k + 1) cs.length).sum := by
  intro n
  induction n with
  | zero => simp [fromLen]
  | succ n ih => rw [fromLen, List.length_append, List.length_replicate, ih, List.range_succ, List.map_append, List.sum_append]; simp; omega
def typeR (p : List Int) : Bool × List Int := if vld p = true then (true, typeL p) else (false, [])

/-- A list that never rises. -/
def Falls (xs : List Int) : Prop := xs.Pairwise fun a b => b ≤ a
theorem fromLen_le (cs : List (List Int)) : ∀ n x, x ∈ fromLen cs n → x ≤ n := by
  intro n
  induction n with
  | zero => intro x h; simp [fromLen] at h
  | succ n ih =>
    intro x h
    rw [fromLen, List.mem_append] at h
    rcases h with h | h
    · have := (List.mem_replicate.1 h).2; omega
    · have := ih x h; omega
theorem fromLen_falls (cs : List (List Int)) : ∀ n, Falls (fromLen cs n) := by
  intro n
  induction n with
  | zero => simp [fromLen, Falls]
  | succ n ih =>
    rw [fromLen, Falls, List.pairwise_append]
    refine ⟨List.pairwise_replicate.2 (.inr (Int.le_refl _)), ih, fun a ha b hb => ?_⟩
    have := (List.mem_replicate.1 ha).2
    have := fromLen_le cs n b hb
    omega
theorem fromLen_count (cs : List (List Int)) (x : Int) : ∀ n, (fromLen cs n).count x = if 1 ≤ x ∧ x ≤ n then cnt cs x.toNat cs.length else 0 := by
  intro n
  induction n with
  | zero => rw [if_neg (by omega)]; simp [fromLen]
  | succ n ih =>
    rw [fromLen, List.count_append, ih, List.count_replicate]
    by_cases e : (n : Int) + 1 = x
    · subst e
      rw [if_pos (by simp), if_neg (by omega), if_pos (by omega)]
      simp
    · rw [if_neg (by simpa using e)]
      by_cases h : 1 ≤ x ∧ x ≤ n
      · rw [if_pos h, if_pos (by omega)]; omega
      · rw [if_neg h, if_neg (by omega)]
theorem cnt_count (cs : List (List Int)) (k : Nat) : ∀ i, i ≤ cs.length → cnt cs k i = ((cs.take i).map fun c => (c.length : Int)).count (k : Int) := by
  intro i
  induction i with
  | zero => intro _; simp [cnt]
  | succ i ih =>
    intro h
    rw [cnt, ih (by omega), List.take_succ_eq_append_getElem (by omega), List.map_append, List.count_append]
    congr 1
    have e : cs.getD i [] = cs[i] := by simp [List.getD, show i < cs.length by omega]
    rw [e]
    simp only [List.map_cons, List.map_nil, List.count_singleton]
    by_cases hk : cs[i].length = k
    · simp [hk]
    · rw [if_neg hk, if_neg (by simp; omega)]
/-- Two lists that never rise and have each number as often are equal. -/
theorem falls_eq : ∀ (xs ys : List Int), Falls xs → Falls ys → xs.Perm ys → xs = ys := by
  intro xs
  induction xs with
  | nil => intro ys _ _ h; exact (List.Perm.nil_eq h)
  | cons x xs ih =>
    intro ys hx hy h
    cases ys with
    | nil => exact absurd h.length_eq (by simp)
    | cons y ys =>
      have hxy : x = y := by
        have h1 : x ∈ y :: ys := h.subset (by simp)
        have h2 : y ∈ x :: xs := h.symm.subset (by simp)
        have a : x ≤ y := by
          rcases List.mem_cons.1 h1 with e | e
          · omega
          · exact (List.pairwise_cons.1 hy).1 x e
        have b : y ≤ x := by
          rcases List.mem_cons.1 h2 with e | e
          · omega
          · exact (List.pairwise_cons.1 hx).1 y e
        omega
      subst hxy
      rw [ih ys (List.pairwise_cons.1 hx).2 (List.pairwise_cons.1 hy).2 ((List.perm_cons x).1 h)]

end Go.Proofs.Ytjpebcomecoheaa
