/-
  Partitions in plain words: what one is, that there are 29 of them, and how they are listed.
-/
import Derived.Test.YtkbdbkoeahihiaaPlain
namespace Go.Proofs.Ytkbdbkoeahihiaa

def sumI : List Int → Int
  | [] => 0
  | x :: r => x + sumI r
theorem sumI_append (a b : List Int) : sumI (a ++ b) = sumI a + sumI b := by
  induction a with
  | nil => simp [sumI]
  | cons x a ih => simp only [List.cons_append, sumI, ih]; omega
theorem sumI_take_succ {xs : List Int} {k : Nat} (h : k < xs.length) : sumI (xs.take (k + 1)) = sumI (xs.take k) + gi xs k := by
  rw [List.take_succ_eq_append_getElem h, sumI_append, gi_eq h]
  simp [sumI]
theorem sumI_take_all (xs : List Int) : sumI (xs.take xs.length) = sumI xs := by rw [List.take_length]

/-- A partition of its sum, 1 to 6. -/
def Pt (xs : List Int) : Prop := 1 ≤ xs.length ∧ (∀ j, j < xs.length → 1 ≤ gi xs j) ∧ (∀ j, j < xs.length → 0 < j → gi xs j ≤ gi xs (j - 1)) ∧ sumI xs ≤ 6
instance (xs : List Int) : Decidable (Pt xs) := by unfold Pt; infer_instance
def pt (xs : List Int) : Bool := decide (Pt xs)
theorem pt_true {xs : List Int} (h : Pt xs) : pt xs = true := by simp [pt, h]
theorem pt_false {xs : List Int} (h : ¬ Pt xs) : pt xs = false := by simp [pt, h]
theorem Pt_of {xs : List Int} (h : pt xs = true) : Pt xs := by simpa [pt] using h

/-- No number greater than the one ahead, the first one at most m, all at least 1. -/
def Dsc : Int → List Int → Prop
  | _, [] => True
  | m, x :: r => 1 ≤ x ∧ x ≤ m ∧ Dsc x r
theorem Dsc_of : ∀ (xs : List Int) (m : Int), (∀ j, j < xs.length → 1 ≤ gi xs j) → (∀ j, j < xs.length → 0 < j → gi xs j ≤ gi xs (j - 1)) → (0 < xs.length → gi xs 0 ≤ m) → Dsc m xs := by
  intro xs
  induction xs with
  | nil => intro m _ _ _; trivial
  | cons x r ih =>
    intro m h1 h2 h3
    refine ⟨by simpa [gi] using h1 0 (by simp), by simpa [gi] using h3 (by simp), ih x (fun j hj => ?_) (fun j hj h0 => ?_) (fun h0 => ?_)⟩
    · simpa [gi] using h1 (j + 1) (by simp; omega)
    · have := h2 (j + 1) (by simp; omega) (by omega)
      obtain ⟨i, rfl⟩ : ∃ i, j = i + 1 := ⟨j - 1, by omega⟩
      simpa [gi] using this
    · simpa [gi] using h2 1 (by simp; omega) (by omega)
theorem sumI_ge_len : ∀ (xs : List Int), (∀ j, j < xs.length → 1 ≤ gi xs j) → (xs.length : Int) ≤ sumI xs := by
  intro xs
  induction xs with
  | nil => intro _; simp [sumI]
  | cons x r ih =>
    intro h1
    have a := ih (fun j hj => by simpa [gi] using h1 (j + 1) (by simp; omega))
    have b : 1 ≤ x := by simpa [gi] using h1 0 (by simp)
    simp only [sumI, List.length_cons]; omega
theorem gi_le_sumI : ∀ (xs : List Int), (∀ j, j < xs.length → 1 ≤ gi xs j) → ∀ j, j < xs.length → gi xs j ≤ sumI xs := by
  intro xs
  induction xs with
  | nil => intro _ j hj; exact absurd hj (by simp)
  | cons x r ih =>
    intro h1 j hj
    have h1' : ∀ j, j < r.length → 1 ≤ gi r j := fun j hj => by simpa [gi] using h1 (j + 1) (by simp; omega)
    have b : 1 ≤ x := by simpa [gi] using h1 0 (by simp)
    have c := sumI_ge_len r h1'
    cases j with
    | zero => simp only [gi, sumI, List.getD_cons_zero]; omega
    | succ j =>
      have := ih h1' j (by simpa using hj)
      simp only [gi, sumI, List.getD_cons_succ] at this ⊢; omega
theorem Pt.le {xs : List Int} (h : Pt xs) {j : Nat} (hj : j < xs.length) : 1 ≤ gi xs j ∧ gi xs j ≤ 6 := ⟨h.2.1 j hj, by have := gi_le_sumI xs h.2.1 j hj; have := h.2.2.2; omega⟩
theorem Pt.len {xs : List Int} (h : Pt xs) : xs.length ≤ 6 := by have := sumI_ge_len xs h.2.1; have := h.2.2.2; omega
theorem Pt.sum {xs : List Int} (h : Pt xs) : 1 ≤ sumI xs ∧ sumI xs ≤ 6 := by have := sumI_ge_len xs h.2.1; have := h.2.2.2; have := h.1; omega

theorem sumI_take_le : ∀ (xs : List Int) (k : Nat), (∀ j, j < xs.length → 1 ≤ gi xs j) → sumI (xs.take k) ≤ sumI xs := by
  intro xs
  induction xs with
  | nil => intro k _; simp [sumI]
  | cons x r ih =>
    intro k h1
    have h1' : ∀ j, j < r.length → 1 ≤ gi r j := fun j hj => by simpa [gi] using h1 (j + 1) (by simp; omega)
    have b : 1 ≤ x := by simpa [gi] using h1 0 (by simp)
    have c := sumI_ge_len r h1'
    cases k with
    | zero => simp only [List.take_zero, sumI]; omega
    | succ k => have := ih k h1'; simp only [List.take_succ_cons, sumI]; omega
theorem Pt.take {xs : List Int} (h : Pt xs) (k : Nat) : sumI (xs.take k) ≤ 6 := by have := sumI_take_le xs k h.2.1; have := h.2.2.2; omega
theorem sumI_take_ge : ∀ (xs : List Int) (k : Nat), k ≤ xs.length → (∀ j, j < k → 1 ≤ gi xs j) → (k : Int) ≤ sumI (xs.take k) := by
  intro xs
  induction xs with
  | nil => intro k hk _; simp at hk; subst hk; simp [sumI]
  | cons x r ih =>
    intro k hk h1
    cases k with
    | zero => simp [sumI]
    | succ k =>
      have b : 1 ≤ x := by simpa [gi] using h1 0 (by omega)
      have := ih k (by simpa using hk) (fun j hj => by simpa [gi] using h1 (j + 1) (by omega))
      simp only [List.take_succ_cons, sumI]; omega

/-- All partitions of a number with no number greater than another one, the greater first number first. -/
def ptsOf : Nat → Nat → Nat → List (List Int)
  | _, 0, _ => [[]]
  | 0, _ + 1, _ => []
  | f + 1, n + 1, most => (List.range (min (n + 1) most)).flatMap fun i => (ptsOf f (n + 1 - (min (n + 1) most - i)) (min (n + 1) most - i)).map (((min (n + 1) most - i : Nat) : Int) :: ·)
theorem mem_ptsOf : ∀ (xs : List Int) (f n most : Nat), Dsc most xs → sumI xs = n → n ≤ f → xs ∈ ptsOf f n most := by
  intro xs
  induction xs with
  | nil => intro f n most _ hs _; simp [sumI] at hs; obtain rfl : n = 0 := by omega
           cases f <;> simp [ptsOf]
  | cons x r ih =>
    intro f n most hd hs hn
    obtain ⟨h1, h2, h3⟩ := hd
    have hr : 0 ≤ sumI r := by
      clear ih hs hn
      have : ∀ (r : List Int) (m : Int), Dsc m r → 0 ≤ sumI r := by
        intro r
        induction r with
        | nil => intro m _; simp [sumI]
        | cons y r ih => intro m h; have := ih y h.2.2; have := h.1; simp only [sumI]; omega
      exact this r x h3
    simp only [sumI] at hs
    obtain ⟨y, rfl⟩ := Int.eq_ofNat_of_zero_le (show 0 ≤ x by omega)
    obtain ⟨n', rfl⟩ : ∃ n', n = n' + 1 := ⟨n - 1, by omega⟩
    obtain ⟨f', rfl⟩ : ∃ f', f = f' + 1 := ⟨f - 1, by omega⟩
    simp only [ptsOf, List.mem_flatMap, List.mem_range, List.mem_map]
    have hy : y ≤ min (n' + 1) most := by simp only [Nat.min_def]; split <;> omega
    refine ⟨min (n' + 1) most - y, by omega, r, ?_, ?_⟩
    · have e : min (n' + 1) most - (min (n' + 1) most - y) = y := by omega
      rw [e]
      exact ih f' (n' + 1 - y) y h3 (by omega) (by omega)
    · have e : min (n' + 1) most - (min (n' + 1) most - y) = y := by omega
      rw [e]
def allPts : List (List Int) := (List.range 6).flatMap fun i => ptsOf 6 (i + 1) (i + 1)
theorem Pt.mem {xs : List Int} (h : Pt xs) {n : Nat} (hn : sumI xs = n) : xs ∈ ptsOf 6 n n := by
  refine mem_ptsOf xs 6 n n (Dsc_of xs n h.2.1 h.2.2.1 (fun h0 => ?_)) hn ?_
  · have := gi_le_sumI xs h.2.1 0 h0; omega
  · have := h.2.2.2; omega
theorem Pt.all {xs : List Int} (h : Pt xs) : xs ∈ allPts := by
  have hs := h.sum
  obtain ⟨n, hn⟩ := Int.eq_ofNat_of_zero_le (show 0 ≤ sumI xs by omega)
  refine List.mem_flatMap.2 ⟨n - 1, by simp; omega, ?_⟩
  rw [show n - 1 + 1 = n from by omega]
  exact h.mem hn
theorem allPts_pt : ∀ xs ∈ allPts, Pt xs := by decide +kernel
/-- Pairs of partitions of one number. -/
def pairPts : List (List Int × List Int) := (List.range 6).flatMap fun i => (ptsOf 6 (i + 1) (i + 1)).flatMap fun a => (ptsOf 6 (i + 1) (i + 1)).map fun b => (a, b)
theorem Pt.pair {a b : List Int} (h : Pt a) (h' : Pt b) (he : sumI a = sumI b) : (a, b) ∈ pairPts := by
  have hs := h.sum
  obtain ⟨n, hn⟩ := Int.eq_ofNat_of_zero_le (show 0 ≤ sumI a by omega)
  refine List.mem_flatMap.2 ⟨n - 1, by simp; omega, ?_⟩
  rw [show n - 1 + 1 = n from by omega]
  exact List.mem_flatMap.2 ⟨a, h.mem hn, List.mem_map.2 ⟨b, h'.mem (by omega), rfl⟩⟩

end Go.Proofs.Ytkbdbkoeahihiaa
