/-
  Plain: rows and columns of characters are at right angles.
-/
import Derived.Test.YtlgfedkoefhjjaaChT
namespace Go.Proofs.Ytlgfedkoefhjjaa
open Go.RowKit

/-- Over the first i types: sizes times both characters. -/
def crS (p o : List Int) (L : List (List Int)) : Nat → Int
  | 0 => 0
  | i + 1 => crS p o L i + cs (L.getD i []) * chr p (L.getD i []) * chr o (L.getD i [])
def crT (p o : List Int) (L : List (List Int)) : Nat → Int
  | 0 => 0
  | i + 1 => crT p o L i + csT (L.getD i []) * chT p (L.getD i []) * chT o (L.getD i [])
/-- Over the first i shapes: both characters. -/
def coS (p o : List Int) (L : List (List Int)) : Nat → Int
  | 0 => 0
  | i + 1 => coS p o L i + chr (L.getD i []) p * chr (L.getD i []) o
def coT (p o : List Int) (L : List (List Int)) : Nat → Int
  | 0 => 0
  | i + 1 => coT p o L i + chT (L.getD i []) p * chT (L.getD i []) o
def bigB (x : Int) : Bool := decide (-100000 ≤ x) && decide (x ≤ 100000)
theorem bigB_iff {x : Int} (h : bigB x = true) : -100000 ≤ x ∧ x ≤ 100000 := by simpa [bigB] using h
def Lof (p : List Int) : List (List Int) := ptsOf 7 (sumI p).toNat (sumI p).toNat
theorem Lof_ok {p a : List Int} (hp : Pt p) (ha : a ∈ Lof p) : Pt a ∧ sumI a = sumI p := by
  have hs := hp.sum
  obtain ⟨h1, h2⟩ := shapes_in (sumI p).toNat (by omega) (by omega) a ha
  exact ⟨Pt_of h1, by rw [h2]; omega⟩
theorem getD_mem {L : List (List Int)} {i : Nat} (h : i < L.length) : L.getD i [] ∈ L := by
  rw [List.getD_eq_getElem?_getD, List.getElem?_eq_getElem h]; exact List.getElem_mem _
theorem crT_of {p o : List Int} (h : PairOk p o) : ∀ i, i ≤ (Lof p).length → crS p o (Lof p) i = crT p o (Lof p) i := by
  intro i
  induction i with
  | zero => intro _; rfl
  | succ i ih =>
    intro hi
    obtain ⟨h1, h2⟩ := Lof_ok h.1 (getD_mem (L := Lof p) (i := i) (by omega))
    rw [crS, crT, ih (by omega), csT_of h1, chT_of ⟨h.1, h1, h2.symm⟩, chT_of ⟨h.2.1, h1, by rw [h2]; exact h.2.2.symm⟩]
theorem coT_of {p o : List Int} (h : PairOk p o) : ∀ i, i ≤ (Lof p).length → coS p o (Lof p) i = coT p o (Lof p) i := by
  intro i
  induction i with
  | zero => intro _; rfl
  | succ i ih =>
    intro hi
    obtain ⟨h1, h2⟩ := Lof_ok h.1 (getD_mem (L := Lof p) (i := i) (by omega))
    rw [coS, coT, ih (by omega), chT_of ⟨h1, h.1, h2⟩, chT_of ⟨h1, h.2.1, by rw [h2]; exact h.2.2⟩]
def orB (q : List Int × List Int) : Bool := decide ((Lof q.1).length ≤ 15) && ((List.range (Lof q.1).length).all fun i => bigB (crT q.1 q.2 (Lof q.1) (i + 1)) && bigB (coT q.1 q.2 (Lof q.1) (i + 1)) && bigB (csT ((Lof q.1).getD i []) * chT q.1 ((Lof q.1).getD i [])) && bigB (csT ((Lof q.1).getD i []) * chT q.1 ((Lof q.1).getD i []) * chT q.2 ((Lof q.1).getD i [])) && bigB (chT ((Lof q.1).getD i []) q.1 * chT ((Lof q.1).getD i []) q.2) && bigB (csT ((Lof q.1).getD i []))) &&
  decide (crT q.1 q.2 (Lof q.1) (Lof q.1).length = if eqB q.2 q.1 then fct (sumI q.1).toNat else 0) && decide (coT q.1 q.2 (Lof q.1) (Lof q.1).length * csT q.1 = if eqB q.2 q.1 then fct (sumI q.1).toNat else 0) && (eqB q.2 q.1 || decide (coT q.1 q.2 (Lof q.1) (Lof q.1).length = 0))
set_option maxHeartbeats 0 in
theorem orB_all : ∀ q ∈ pairPts, orB q = true := by decide +kernel
theorem or_law {p o : List Int} (h : PairOk p o) : (Lof p).length ≤ 15 ∧ (∀ i, i < (Lof p).length →
    bigB (crS p o (Lof p) (i + 1)) = true ∧ bigB (coS p o (Lof p) (i + 1)) = true ∧ bigB (cs ((Lof p).getD i []) * chr p ((Lof p).getD i [])) = true ∧ bigB (cs ((Lof p).getD i []) * chr p ((Lof p).getD i []) * chr o ((Lof p).getD i [])) = true ∧ bigB (chr ((Lof p).getD i []) p * chr ((Lof p).getD i []) o) = true ∧ bigB (cs ((Lof p).getD i [])) = true) ∧
    crS p o (Lof p) (Lof p).length = (if eqB o p then fct (sumI p).toNat else 0) ∧ coS p o (Lof p) (Lof p).length * cs p = (if eqB o p then fct (sumI p).toNat else 0) ∧ (eqB o p = false → coS p o (Lof p) (Lof p).length = 0) := by
  have := orB_all (p, o) (h.1.pair h.2.1 h.2.2)
  simp only [orB, Bool.and_eq_true, Bool.or_eq_true, decide_eq_true_eq, List.all_eq_true, List.mem_range] at this
  obtain ⟨⟨⟨⟨a, b⟩, c⟩, d⟩, e⟩ := this
  rw [crT_of h _ (Nat.le_refl _), coT_of h _ (Nat.le_refl _), csT_of h.1]
  refine ⟨a, fun i hi => ?_, c, d, fun hne => e.resolve_left (by rw [hne]; simp)⟩
  obtain ⟨⟨⟨⟨⟨b1, b2⟩, b3⟩, b4⟩, b5⟩, b6⟩ := b i hi
  obtain ⟨h1, h2⟩ := Lof_ok h.1 (getD_mem (L := Lof p) (i := i) hi)
  rw [crT_of h _ (by omega), coT_of h _ (by omega), csT_of h1, chT_of ⟨h.1, h1, h2.symm⟩, chT_of ⟨h.2.1, h1, by rw [h2]; exact h.2.2.symm⟩, chT_of ⟨h1, h.1, h2⟩, chT_of ⟨h1, h.2.1, by rw [h2]; exact h.2.2⟩]
  exact ⟨b1, b2, b3, b4, b5, b6⟩

end Go.Proofs.Ytlgfedkoefhjjaa
