/-
  Plain: when two lists are a map.
-/
import Derived.Test.YtjpebcomecoheaaReach
namespace Go.Proofs.Ytjpebcomecoheaa

def Paired (f : List Int) : Prop := ∀ i, i < f.length → gn f i ≠ i ∧ gn f (gn f i) = i
instance (f : List Int) : Decidable (Paired f) := by unfold Paired; infer_instance
def pairedB (f : List Int) : Bool := decide (Paired f)
theorem pairedB_true {f : List Int} (h : Paired f) : pairedB f = true := by simp [pairedB, h]
theorem pairedB_false {f : List Int} (h : ¬ Paired f) : pairedB f = false := by simp [pairedB, h]
theorem Paired_of {f : List Int} (h : pairedB f = true) : Paired f := by simpa [pairedB] using h

def Whole (t f : List Int) : Prop := ∀ j, j < t.length → orb t f j = 0
noncomputable instance (t f : List Int) : Decidable (Whole t f) := by unfold Whole; infer_instance
noncomputable def wholeB (t f : List Int) : Bool := decide (Whole t f)
theorem wholeB_true {t f : List Int} (h : Whole t f) : wholeB t f = true := by simp [wholeB, h]
theorem wholeB_false {t f : List Int} (h : ¬ Whole t f) : wholeB t f = false := by simp [wholeB, h]
theorem Whole_of {t f : List Int} (h : wholeB t f = true) : Whole t f := by simpa [wholeB] using h

noncomputable def mapV (t f : List Int) : Bool := both t f && (pairedB f && wholeB t f)
structure IsMap (t f : List Int) : Prop where
  turn : Vld t
  flip : Vld f
  len : t.length = f.length
  paired : Paired f
  whole : Whole t f
theorem mapV_iff {t f : List Int} : mapV t f = true ↔ IsMap t f := by
  simp only [mapV, Bool.and_eq_true, both_iff]
  constructor
  · rintro ⟨⟨h1, h2, h3⟩, h4, h5⟩
    exact ⟨h1, h2, h3, Paired_of h4, Whole_of h5⟩
  · rintro ⟨h1, h2, h3, h4, h5⟩
    exact ⟨⟨h1, h2, h3⟩, pairedB_true h4, wholeB_true h5⟩

/-- The greatest of the first k + 1 numbers. -/
def maxTo (xs : List Int) : Nat → Int
  | 0 => gi xs 0
  | k + 1 => max (maxTo xs k) (gi xs (k + 1))
theorem maxTo_le {xs : List Int} {b : Int} : ∀ (k : Nat), maxTo xs k ≤ b ↔ ∀ j, j ≤ k → gi xs j ≤ b := by
  intro k
  induction k with
  | zero =>
    constructor
    · intro h j hj
      obtain rfl : j = 0 := by omega
      exact h
    · intro h; exact h 0 (Nat.le_refl _)
  | succ k ih =>
    rw [maxTo]
    constructor
    · intro h j hj
      by_cases e : j = k + 1
      · subst e; omega
      · exact ih.1 (by omega) j (by omega)
    · intro h
      have h1 := ih.2 (fun j hj => h j (by omega))
      have h2 := h (k + 1) (Nat.le_refl _)
      omega
theorem maxTo_ge (xs : List Int) : ∀ k : Nat, gi xs 0 ≤ maxTo xs k := by
  intro k
  induction k with
  | zero => exact Int.le_refl _
  | succ k ih => rw [maxTo]; omega
theorem max_whole {t f : List Int} (h1 : 1 ≤ t.length) : (maxTo (orbL t f) (t.length - 1) == 0) = wholeB t f := by
  rw [Bool.eq_iff_iff, beq_iff_eq]
  have h0 : 0 ≤ gi (orbL t f) 0 := by rw [gi_orbL (by omega)]; omega
  have hg := maxTo_ge (orbL t f) (t.length - 1)
  constructor
  · intro h
    have hl := (maxTo_le (xs := orbL t f) (b := 0) (t.length - 1)).1 (by omega)
    refine wholeB_true fun j hj => ?_
    have := hl j (by omega)
    rw [gi_orbL hj] at this
    omega
  · intro h
    have hw := Whole_of h
    have := (maxTo_le (xs := orbL t f) (b := 0) (t.length - 1)).2 (fun j hj => by
      rw [gi_orbL (by omega), hw j (by omega)]; omega)
    omega

end Go.Proofs.Ytjpebcomecoheaa
