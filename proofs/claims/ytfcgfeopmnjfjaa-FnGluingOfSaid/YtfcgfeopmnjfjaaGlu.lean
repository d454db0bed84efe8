/-
  Gluings of a polygon as plain lists: which lists are gluings, their corners, genus, chords, and the gluing turned.
-/
import Derived.Test.YtfcgfeopmnjfjaaPlain
namespace Go.Proofs.Ytfcgfeopmnjfjaa

def IsG (p : List Int) : Prop := 2 ≤ p.length ∧ p.length ≤ 10 ∧ ∀ i, i < p.length → 0 ≤ gi p i ∧ gi p i < p.length ∧ gi p i ≠ i ∧ gi p (gn p i) = i
instance (p : List Int) : Decidable (IsG p) := by unfold IsG; infer_instance
def glu (p : List Int) : Bool := decide (IsG p)
theorem glu_iff {p : List Int} : glu p = true ↔ IsG p := by simp [glu]
theorem glu_true {p : List Int} (h : IsG p) : glu p = true := by simp [glu, h]
theorem glu_false {p : List Int} (h : ¬ IsG p) : glu p = false := by simp [glu, h]
theorem IsG.gn_at {p : List Int} (h : IsG p) {i : Nat} (hi : i < p.length) : gi p i = (gn p i : Int) ∧ gn p i < p.length ∧ gn p i ≠ i ∧ gn p (gn p i) = i := by
  obtain ⟨h0, h1, h2, h3⟩ := h.2.2 i hi
  have e : gi p i = (gn p i : Int) := by unfold gn; omega
  refine ⟨e, by omega, by omega, ?_⟩
  show (gi p (gn p i)).toNat = i
  rw [h3]; omega
theorem IsG.vld {p : List Int} (h : IsG p) : Vld p := by
  refine ⟨by have := h.1; omega, by have := h.2.1; omega, fun j hj => ⟨(h.2.2 j hj).1, (h.2.2 j hj).2.1⟩, fun j hj i hij e => ?_⟩
  have h1 := (h.gn_at hj).2.2.2
  have h2 := (h.gn_at (i := i) (by omega)).2.2.2
  have : gn p i = gn p j := by unfold gn; rw [e]
  rw [this] at h2; omega

/-- Each side to the one that follows. -/
def folL (n : Nat) : List Int := tab n fun i => ((i + 1) % n : Nat)
theorem folL_len (n : Nat) : (folL n).length = n := tab_len _ _
theorem folL_vld : ∀ n, n < 13 → 1 ≤ n → Vld (folL n) := by decide +kernel
theorem gi_folL {n i : Nat} (h : i < n) : gi (folL n) i = (((i + 1) % n : Nat) : Int) := gi_tab h
theorem gn_folL {n i : Nat} (h : i < n) : gn (folL n) i = (i + 1) % n := gn_of (gi_folL h)

def corL (p : List Int) : List Int := mulL p (folL p.length)
theorem corL_len (p : List Int) : (corL p).length = p.length := mulL_len _ _
def ncor (p : List Int) : Nat := (cyclesL (corL p)).length
def gcorR (p : List Int) : Int := if glu p = true then (ncor p : Int) else -1
def ggen (p : List Int) : Int := (((p.length / 2 : Nat) : Int) + 1 - (ncor p : Int)).tdiv 2
def ggenR (p : List Int) : Int := if glu p = true then ggen p else -1

/-- Of the sides up to b those that cross the pair that begins at a. -/
def crA (p : List Int) (a : Nat) : Nat → Nat
  | 0 => 0
  | b + 1 => crA p a b + if a < b ∧ (b : Int) < gi p a ∧ gi p a < gi p b then 1 else 0
theorem crA_succ (p : List Int) (a b : Nat) : crA p a (b + 1) = crA p a b + if a < b ∧ (b : Int) < gi p a ∧ gi p a < gi p b then 1 else 0 := rfl
def chN (p : List Int) : Nat → Nat
  | 0 => 0
  | a + 1 => chN p a + crA p a p.length
def chord (p : List Int) : Nat := chN p p.length
theorem crA_le (p : List Int) (a : Nat) : ∀ b, crA p a b ≤ b
  | 0 => Nat.le_refl _
  | b + 1 => by rw [crA_succ]; have := crA_le p a b; split <;> omega
theorem chN_le (p : List Int) : ∀ a, chN p a ≤ a * p.length
  | 0 => by simp [chN]
  | a + 1 => by unfold chN; have := chN_le p a; have := crA_le p a p.length; rw [Nat.succ_mul]; omega
theorem crA_low (p : List Int) (a : Nat) : ∀ b, b ≤ a + 1 → crA p a b = 0
  | 0, _ => rfl
  | b + 1, h => by rw [crA_succ, crA_low p a b (by omega), if_neg (by omega)]
theorem crA_high (p : List Int) (a b : Nat) (h : gi p a ≤ (b : Int)) : ∀ d, crA p a (b + d) = crA p a b
  | 0 => rfl
  | d + 1 => by
    rw [← Nat.add_assoc]
    rw [crA_succ, crA_high p a b h d, if_neg (by omega), Nat.add_zero]
theorem crA_end {p : List Int} {a b : Nat} (hb : b ≤ p.length) (h : gi p a ≤ (b : Int)) : crA p a p.length = crA p a b := by
  have := crA_high p a b h (p.length - b)
  rwa [show b + (p.length - b) = p.length by omega] at this
theorem crA_yes {p : List Int} {a b : Nat} (h : a < b) (h' : (b : Int) < gi p a) (h2 : gi p a < gi p b) : crA p a (b + 1) = crA p a b + 1 := by
  rw [crA_succ, if_pos ⟨h, h', h2⟩]
theorem crA_no {p : List Int} {a b : Nat} (h2 : ¬ gi p a < gi p b) : crA p a (b + 1) = crA p a b := by
  rw [crA_succ, if_neg (fun e => h2 e.2.2)]; rfl
def gchR (p : List Int) : Int := if glu p = true then (chord p : Int) else -1
def gplR (p : List Int) : Bool := glu p && decide (chord p = 0)

/-- The gluing turned. -/
def turnG (p : List Int) : List Int := conjL p (folL p.length)
def gtuR (p : List Int) : Bool × List Int := if glu p = true then (true, turnG p) else (false, [])
theorem gtuR_len {p ys : List Int} {ok : Bool} (h : gtuR p = (ok, ys)) : ys.length ≤ 12 := by
  unfold gtuR at h
  split at h
  · rename_i hg
    injection h with _ h
    have := (glu_iff.1 hg).2.1
    rw [← h, turnG, conjL_len, folL_len]; omega
  · injection h with _ h; rw [← h]; simp
theorem turnG_eq {p ys : List Int} (hp : IsG p) (hl : ys.length = p.length) (he : ∀ i, i < p.length → gi ys ((i + 1) % p.length) = (((gn p i + 1) % p.length : Nat) : Int)) : ys = turnG p := by
  have hv := folL_vld p.length (by have := hp.2.1; omega) (by have := hp.1; omega)
  refine conjL_eq hv (by rw [hl, folL_len]) (fun i hi => ?_)
  rw [folL_len] at hi
  rw [gn_folL hi, he i hi, gi_folL (hp.gn_at hi).2.1]

end Go.Proofs.Ytfcgfeopmnjfjaa
