/-
  What holds at all gluings, by looking at each: corners, genus, pairs that cross, neighbors.
-/
import Derived.Test.YtfcgfeopmnjfjaaGlA
namespace Go.Proofs.Ytfcgfeopmnjfjaa

def okG (p : List Int) : Bool :=
  decide (cws p p.length = 2 * chord p) && decide (2 * (chord p : Int) ≤ ((p.length / 2 : Nat) : Int) * (((p.length / 2 : Nat) : Int) - 1))
  && decide (1 ≤ ncor p) && decide (ncor p ≤ p.length / 2 + 1)
  && decide (0 ≤ ggen p) && (decide (ggen p = 0) == decide (chord p = 0)) && decide (ggen p ≤ chord p)
  && (decide (chord p ≠ 0) || (List.range p.length).any fun i => decide (gi p i = (i : Int) + 1))
  && decide (p.length % 2 = 0)
set_option maxRecDepth 100000 in
set_option maxHeartbeats 100000000 in
theorem okG_all : ∀ n, n < 6 → 1 ≤ n → (allG n).all okG = true := by decide +kernel
structure OkG (p : List Int) : Prop where
  cws : cws p p.length = 2 * chord p
  most : 2 * (chord p : Int) ≤ ((p.length / 2 : Nat) : Int) * (((p.length / 2 : Nat) : Int) - 1)
  cor1 : 1 ≤ ncor p
  cor2 : ncor p ≤ p.length / 2 + 1
  gen0 : 0 ≤ ggen p
  genC : ggen p = 0 ↔ chord p = 0
  genL : ggen p ≤ chord p
  near : chord p = 0 → ∃ i, i < p.length ∧ gi p i = (i : Int) + 1
  even : p.length % 2 = 0
theorem IsG.ok {p : List Int} (hp : IsG p) : OkG p := by
  have h := of_allG okG_all hp
  simp only [okG, Bool.and_eq_true, decide_eq_true_eq, beq_iff_eq, Bool.or_eq_true, List.any_eq_true, List.mem_range, decide_eq_decide] at h
  obtain ⟨⟨⟨⟨⟨⟨⟨⟨h1, h2⟩, h3⟩, h4⟩, h5⟩, h6⟩, h7⟩, h8⟩, h9⟩ := h
  exact ⟨h1, h2, h3, h4, h5, h6, h7, fun e => h8.resolve_left (fun h => h e), h9⟩

end Go.Proofs.Ytfcgfeopmnjfjaa
