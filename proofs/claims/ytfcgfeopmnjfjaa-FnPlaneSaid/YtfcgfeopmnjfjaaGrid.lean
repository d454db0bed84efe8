/-
  A table that a call owns: a row of rows of ints, each cell to be read and written.
-/
import Derived.Test.YtfcgfeopmnjfjaaSeen
namespace Go.Proofs.Ytfcgfeopmnjfjaa
open Go.RowKit
set_option linter.unusedVariables false

/-- Block X holds m slices, the i-th of them n ints at block b i; T says what stands there. -/
structure Grid (w : World) (lo X : Nat) (b c : Nat → Nat) (m n : Nat) (T : Nat → Nat → Int) : Prop where
  out : ∀ i, i < m → w.cell? ⟨X, i, none⟩ = some (.slice (some ⟨b i, 0, none⟩) n (c i))
  inn : ∀ i, i < m → ∀ j, j < n → w.cell? ⟨b i, j, none⟩ = some (.int .i64 (T i j))
  fr : ∀ i, i < m → ∀ j, j < n → w.frozen? ⟨b i, j, none⟩ = false
  inj : ∀ i, i < m → ∀ j, j < m → b i = b j → i = j
  nx : ∀ i, i < m → b i ≠ X
  lb : ∀ i, i < m → lo ≤ b i

theorem OwnSS.grid {w : World} {lo hi m n : Nat} {v : Value} {xss : List (List Int)} (h : OwnSS w lo hi v xss) (hm : xss.length = m) (hm0 : 0 < m) (hn : ∀ i, i < m → (xss.getD i []).length = n) (hn0 : 0 < n) :
    ∃ X c0 b c, v = .slice (some ⟨X, 0, none⟩) m c0 ∧ Grid w lo X b c m n (fun i j => gi (xss.getD i []) j) := by
  subst hm
  obtain ⟨vs, hl, ho, hr, hd⟩ := h
  have ho0 := ho
  rcases ho.2 with ⟨_, h0⟩ | ⟨X, cap, cur, rfl, _, hX, _⟩
  · omega
  have key : ∀ i, ∃ b c, i < xss.length → vs.getD i undef = .slice (some ⟨b, 0, none⟩) n c ∧ lo ≤ b ∧ (∀ j, j < n → w.cell? ⟨b, j, none⟩ = some (.int .i64 (gi (xss.getD i []) j)) ∧ w.frozen? ⟨b, j, none⟩ = false) ∧ ∃ cur', w.heap[b]? = some (.cells cur' 3 (0, 0)) := fun i => by
    by_cases hi : i < xss.length
    · have hO := (hr i hi).1
      have hO' := hO
      obtain ⟨A, c, e, -, -⟩ := hO.form' (hn i hi)
      rcases hO'.2 with ⟨_, h0⟩ | ⟨g, cap', cur', e', hg, hh, _⟩
      · rw [hn i hi] at h0; omega
      · rw [hn i hi] at e'
        refine ⟨g, cap', fun _ => ⟨e', hg, fun j hj => ?_, cur', hh⟩⟩
        rw [e'] at hO
        obtain ⟨g2, e2, _, c2, f2⟩ := hO.cellAt (hn i hi) hj
        simp only [Option.some.injEq, Addr.mk.injEq, and_true] at e2
        subst e2
        exact ⟨c2, f2⟩
    · exact ⟨0, 0, fun h => absurd h hi⟩
  obtain ⟨b, hb⟩ := Classical.axiomOfChoice key
  obtain ⟨c, hc⟩ := Classical.axiomOfChoice hb
  refine ⟨X, cap, b, c, rfl, ⟨fun i hi => ?_, fun i hi j hj => ((hc i hi).2.2.1 j hj).1, fun i hi j hj => ((hc i hi).2.2.1 j hj).2, fun i hi j hj e => ?_, fun i hi e => ?_, fun i hi => (hc i hi).2.1⟩⟩
  · rw [World.ownsRow.cellAt ho0 i (by omega)]
    have := (hc i hi).1
    have hiv : i < vs.length := by omega
    rw [List.getD_eq_getElem?_getD, List.getElem?_eq_getElem hiv] at this
    rw [List.getElem?_eq_getElem hiv]
    simpa using this
  · have h1 := (hc i hi).1
    have h2 := (hc j hj).1
    rcases Nat.lt_trichotomy i j with hlt | he | hlt
    · have := hd j hj i hlt
      rw [h1, h2, e] at this
      simp [Value.ownBlock] at this
    · exact he
    · have := hd i hi j hlt
      rw [h1, h2, e] at this
      simp [Value.ownBlock] at this
  · obtain ⟨cur', h1⟩ := (hc i hi).2.2.2
    rw [e, hX] at h1
    injection h1 with h1
    injection h1 with _ h2
    exact absurd h2 (by decide)

section
variable {w w' : World} {lo X : Nat} {b c : Nat → Nat} {m n : Nat} {T T' : Nat → Nat → Int}
theorem Grid.congr (h : Grid w lo X b c m n T) (hT : ∀ i, i < m → ∀ j, j < n → T i j = T' i j) : Grid w lo X b c m n T' :=
  ⟨h.out, fun i hi j hj => by rw [h.inn i hi j hj, hT i hi j hj], h.fr, h.inj, h.nx, h.lb⟩
theorem Grid.drewN (h : Grid w lo X b c m n T) (d : Nat) : Grid (w.drewN d) lo X b c m n T := ⟨h.out, h.inn, h.fr, h.inj, h.nx, h.lb⟩
theorem Grid.set (h : Grid w lo X b c m n T) {i j : Nat} (hi : i < m) (hj : j < n) (r : Int) (hT : ∀ i', i' < m → ∀ j', j' < n → T' i' j' = if i' = i ∧ j' = j then r else T i' j') :
    Grid (w.setCell ⟨b i, j, none⟩ (.int .i64 r)) lo X b c m n T' := by
  refine ⟨fun i' hi' => ?_, fun i' hi' j' hj' => ?_, fun i' hi' j' hj' => ?_, h.inj, h.nx, h.lb⟩
  · rw [World.cell?_setCell_other]
    · exact h.out i' hi'
    · intro e; simp at e; exact h.nx i hi e.1
  · by_cases e : i' = i ∧ j' = j
    · obtain ⟨rfl, rfl⟩ := e
      rw [hT _ hi' _ hj', if_pos ⟨rfl, rfl⟩]
      exact World.cell?_setCell_same' _ _ _ (by rw [h.inn i' hi' j' hj']; rfl)
    · rw [hT _ hi' _ hj', if_neg e, World.cell?_setCell_other]
      · exact h.inn i' hi' j' hj'
      · intro e2; simp at e2
        exact e ⟨(h.inj i hi i' hi' e2.1).symm, e2.2.symm⟩
  · rw [World.frozen?_setCell]; exact h.fr i' hi' j' hj'
end

theorem gi_rep (n : Nat) (x : Int) {j : Nat} (h : j < n) : gi (List.replicate n x) j = x := by simp [gi, List.getD, h]
theorem getD_rep (n : Nat) (x : List Int) {j : Nat} (h : j < n) : (List.replicate n x).getD j [] = x := by simp [List.getD, h]

end Go.Proofs.Ytfcgfeopmnjfjaa
