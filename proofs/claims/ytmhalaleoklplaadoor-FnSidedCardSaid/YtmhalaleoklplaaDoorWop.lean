/-
  Plain: what is done with words: turned, read back, renamed, joined, cut. No program in sight.
-/
import Derived.Test.YtmhalaleoklplaaDoorWrd
namespace Go.Proofs.YtmhalaleoklplaaDoor

/-- The letter in its other form. -/
def oth (c : UInt8) : UInt8 := c ^^^ 32
/-- The letter with a number, small or large. -/
def nmb (n : Nat) (s : Bool) : UInt8 := UInt8.ofNat (if s then 97 + n else 65 + n)
def turnW (l : List UInt8) : List UInt8 := l.drop 1 ++ l.take 1
def backW (l : List UInt8) : List UInt8 := (l.map oth).reverse
theorem backW_len (l : List UInt8) : (backW l).length = l.length := by simp [backW]
theorem backW_append (a b : List UInt8) : backW (a ++ b) = backW b ++ backW a := by simp [backW]
theorem oth_all : ∀ n, n < 256 → 0 ≤ ltr (UInt8.ofNat n) → oth (UInt8.ofNat n) = nmb (ltr (UInt8.ofNat n)).toNat (!sml (UInt8.ofNat n)) := by decide +kernel
theorem oth_eq (c : UInt8) (h : 0 ≤ ltr c) : oth c = nmb (ltr c).toNat (!sml c) := by
  have := oth_all c.toNat (by have := c.toNat_lt; omega)
  rw [show UInt8.ofNat c.toNat = c from by simp] at this
  exact this h
theorem ltr_oth_all : ∀ n, n < 256 → 0 ≤ ltr (UInt8.ofNat n) → ltr (oth (UInt8.ofNat n)) = ltr (UInt8.ofNat n) ∧ sml (oth (UInt8.ofNat n)) = !sml (UInt8.ofNat n) := by decide +kernel
theorem ltr_oth (c : UInt8) (h : 0 ≤ ltr c) : ltr (oth c) = ltr c ∧ sml (oth c) = !sml c := by
  have := ltr_oth_all c.toNat (by have := c.toNat_lt; omega)
  rw [show UInt8.ofNat c.toNat = c from by simp] at this
  exact this h
theorem ltr_nmb : ∀ n, n < 5 → ∀ s, ltr (nmb n s) = n ∧ sml (nmb n s) = s := by decide +kernel
theorem oth_nmb : ∀ n, n < 11 → ∀ s, oth (nmb n s) = nmb n (!s) := by decide +kernel

/-- The first side with the letter of a side; how many letters are there first ahead of a side. -/
def fst (l : List UInt8) (i : Nat) : Nat := min i (par l i)
def rk (l : List UInt8) (i : Nat) : Nat := (List.range i).countP fun j => decide (j < par l j)
theorem rk_zero (l : List UInt8) : rk l 0 = 0 := rfl
theorem rk_succ (l : List UInt8) (i : Nat) : rk l (i + 1) = rk l i + if i < par l i then 1 else 0 := by
  simp [rk, List.range_succ, List.countP_append]
theorem rk_mono (l : List UInt8) {i j : Nat} (h : i ≤ j) : rk l i ≤ rk l j := by
  induction h with
  | refl => exact Nat.le_refl _
  | step _ ih => rw [rk_succ]; omega
/-- The byte of a side renamed. -/
def nmAt (l : List UInt8) (k i : Nat) : UInt8 := nmb (k + rk l (fst l i)) (sml (gb l i) == sml (gb l (fst l i)))
def namesW (l : List UInt8) (k : Nat) : List UInt8 := (List.range l.length).map (nmAt l k)
theorem namesW_len (l : List UInt8) (k : Nat) : (namesW l k).length = l.length := by simp [namesW]
theorem gb_names {l : List UInt8} {k i : Nat} (h : i < l.length) : gb (namesW l k) i = nmAt l k i := by
  rw [gb_eq (by rw [namesW_len]; exact h)]; simp [namesW]

/-! ### How many letters -/
/-- Half of the numbers below n, by an exchange of two and two. -/
theorem half_first : ∀ (n : Nat) (f : Nat → Nat), (∀ i, i < n → f i < n ∧ f i ≠ i ∧ f (f i) = i) → 2 * ((List.range n).countP fun j => decide (j < f j)) = n := by
  intro n f h
  have h1 : (List.range n).countP (fun j => decide (j < f j)) = (List.range n).countP (fun j => decide (f j < j)) := by
    have hp : ((List.range n).map f).Perm (List.range n) := by
      apply (List.perm_ext_iff_of_nodup ?_ List.nodup_range).2
      · intro a
        simp only [List.mem_map, List.mem_range]
        constructor
        · rintro ⟨b, hb, rfl⟩; exact (h b hb).1
        · intro ha; exact ⟨f a, (h a ha).1, (h a ha).2.2⟩
      · rw [List.nodup_iff_pairwise_ne, List.pairwise_map]
        refine List.Pairwise.imp_of_mem ?_ List.nodup_range
        intro a b ha hb hab e
        simp only [List.mem_range] at ha hb
        have := (h a ha).2.2
        rw [e, (h b hb).2.2] at this
        exact hab this.symm
    rw [← hp.countP_eq (fun j => decide (j < f j)), List.countP_map]
    apply List.countP_congr
    intro a ha
    simp only [List.mem_range] at ha
    simp [(h a ha).2.2]
  have h2 : (List.range n).countP (fun j => decide (j < f j)) + (List.range n).countP (fun j => decide (f j < j)) = n := by
    have e : (List.range n).countP (fun j => decide (f j < j)) = (List.range n).countP (fun j => decide (¬ decide (j < f j) = true)) := by
      apply List.countP_congr
      intro a ha
      simp only [List.mem_range] at ha
      have := (h a ha).2.1
      simp only [decide_eq_true_eq]
      omega
    have := List.length_eq_countP_add_countP (fun j => decide (j < f j)) (l := List.range n)
    rw [e]
    rw [List.length_range] at this
    exact this.symm
  omega
theorem Word.rk_all {l : List UInt8} (h : Word l) : 2 * rk l l.length = l.length :=
  half_first l.length (par l) fun _ hi => ⟨(h.isPar hi).lt, (h.isPar hi).ne, h.par2 hi⟩
theorem Word.isFst {l : List UInt8} (h : Word l) {i : Nat} (hi : i < l.length) : fst l i < par l (fst l i) ∧ fst l i < l.length ∧ ltr (gb l (fst l i)) = ltr (gb l i) := by
  have hp := h.isPar hi
  unfold fst
  rcases Nat.lt_or_ge i (par l i) with h1 | h1
  · rw [Nat.min_eq_left (by omega)]; exact ⟨h1, hi, rfl⟩
  · have := hp.ne
    rw [Nat.min_eq_right h1, h.par2 hi]; exact ⟨by omega, hp.lt, hp.eq⟩
theorem Word.rk_lt {l : List UInt8} (h : Word l) {i : Nat} (hi : i < l.length) : 2 * rk l (fst l i) + 2 ≤ l.length := by
  obtain ⟨h1, h2, _⟩ := h.isFst hi
  have h3 := h.rk_all
  have h4 := rk_succ l (fst l i)
  rw [if_pos h1] at h4
  have h5 := rk_mono l (show fst l i + 1 ≤ l.length by omega)
  omega

/-! ### What the functions answer -/
def strR (ok : Bool) (l : List UInt8) : Bool × List UInt8 := if ok then (true, l) else (false, [])
def turnWR (l : List UInt8) : Bool × List UInt8 := strR (wordB l) (turnW l)
def backWR (l : List UInt8) : Bool × List UInt8 := strR (wordB l) (backW l)
def namesWR (l : List UInt8) : Bool × List UInt8 := strR (wordB l) (namesW l 0)
def joinOk (a b : List UInt8) : Bool := wordB a && wordB b && decide (a.length + b.length ≤ 10)
def joinW (a b : List UInt8) : List UInt8 := namesW a 0 ++ namesW b (a.length / 2)
def joinWR (a b : List UInt8) : Bool × List UInt8 := strR (joinOk a b) (joinW a b)
/-- The word behind a cut. -/
def restW (l : List UInt8) (i k m : Nat) : List UInt8 :=
  let r := l.drop (m + 1) ++ [nmb (ltr (gb l k)).toNat false] ++ (l.take m).drop i
  if sml (gb l k) == sml (gb l m) then backW r else r
def cutW (l : List UInt8) (i k : Nat) : List UInt8 := (l.take i).drop (k + 1) ++ [nmb (ltr (gb l k)).toNat true] ++ l.take k ++ restW l i k (par l k)
def cutOk (l : List UInt8) (i k : Int) : Bool := wordB l && decide (1 ≤ i ∧ i ≤ (l.length : Int) - 1) && decide (0 ≤ k ∧ k ≤ i - 1) && decide (i ≤ (par l k.toNat : Int))
def cutWR (l : List UInt8) (i k : Int) : Bool × List UInt8 := strR (cutOk l i k) (cutW l i.toNat k.toNat)

end Go.Proofs.YtmhalaleoklplaaDoor
