/-
  A loop over the cycles of a permutation: what the loop's body keeps for the iterator, what the iterator keeps for the loop, and the loop's rule.
  The program's iterator over the cycles of a permutation keeps its word; the function that makes it; the library's Collect.
-/
import Derived.Test.YtbbidlgdldofdaaSeen
import Derived.RangeFuncNested
import Derived.RangeFuncBound
import Derived.RangeFuncCalls
import Derived.RangeFuncLeaves
import Derived.RangeFuncBox
import Derived.Shelf.Abstract
import Derived.Shelf.RegionOpen
import Derived.OwnWalkIn
import Derived.TacticsInMore
import Derived.LoopNIn
import Derived.LoopIn
namespace Go.Proofs.Ytbbidlgdldofdaa
open Go.RowKit Go.Shelf

/-- The types whose blocks a body leaves alone: the iterator's marks, and the variable that holds the permutation. -/
def Shut (o : Obj) : Prop := o.isCells = false ∨ ∃ cs, o = .cells cs 70 (0, 0) ∨ o = .cells cs 45 (0, 0)

/-- What one round of the body keeps. -/
structure Keep (n₀ : Nat) (W W' : World) : Prop where
  below : Below n₀ W W'
  kept : ∀ (k : Nat) (o : Obj), W.heap[k]? = some o → Shut o → W'.heap[k]? = some o

theorem Keep.refl (n₀ : Nat) (W : World) : Keep n₀ W W := ⟨Below.refl _ _, fun _ _ h _ => h⟩
theorem Keep.trans {n₀ : Nat} {A B C : World} (h : Keep n₀ A B) (k : Keep n₀ B C) : Keep n₀ A C := ⟨h.below.trans k.below, fun i o hi ho => k.kept i o (h.kept i o hi ho) ho⟩
theorem Keep.alloc {n₀ : Nat} {A B : World} (h : Keep n₀ A B) (hn : n₀ ≤ B.heap.size) (o : Obj) : Keep n₀ A (B.alloc o) :=
  ⟨h.below.alloc hn o, fun i q hi hq => by
    have h1 := h.kept i q hi hq
    exact (Below.heap_alloc B o i (Array.getElem?_eq_some_iff.1 h1).1).trans h1⟩
theorem Keep.drewN {n₀ : Nat} {A B : World} (h : Keep n₀ A B) (n : Nat) : Keep n₀ A (B.drewN n) := ⟨below_drewN h.below n, h.kept⟩
theorem Keep.grown {n₀ : Nat} {A B C : World} {row : Option Nat} (h : Keep n₀ A B) (hn : n₀ ≤ B.heap.size) (hg : B.grownBy C row)
    (hr : ∀ r, row = some r → n₀ ≤ r ∧ ∃ o : Obj, B.heap[r]? = some o ∧ ¬ Shut o) : Keep n₀ A C :=
  ⟨h.below.grown hg hn (fun k hk => (hr k hk).1), fun i o hi ho => by
    have h1 := h.kept i o hi ho
    refine (hg.block i (Array.getElem?_eq_some_iff.1 h1).1 (fun e => ?_)).trans h1
    obtain ⟨_, o', h2, h3⟩ := hr i e.symm
    rw [h1] at h2
    injection h2 with h2
    subst h2
    exact h3 ho⟩
theorem not_shut {cs : Array Value} {t : TypeId} {fr : Nat × Nat} (h1 : t ≠ 70) (h2 : t ≠ 45) : ¬ Shut (.cells cs t fr) := by
  rintro (h | ⟨cs', h | h⟩)
  · simp [Obj.isCells] at h
  · injection h with _ h; exact h1 h
  · injection h with _ h; exact h2 h

/-- What the iterator keeps between two rounds: all but its own marks, which lie from block L on. -/
structure Goes (L : Nat) (W W' : World) : Prop where
  os : W'.os = W.os
  tape : W'.tape = W.tape
  output : W'.output = W.output
  size : W.heap.size ≤ W'.heap.size
  block : ∀ k : Nat, k < W.heap.size → (k < L ∨ ∀ cs, W.heap[k]? ≠ some (.cells cs 70 (0, 0))) → W'.heap[k]? = W.heap[k]?
theorem Goes.refl (L : Nat) (W : World) : Goes L W W := ⟨rfl, rfl, rfl, Nat.le_refl _, fun _ _ _ => rfl⟩
theorem Goes.of_below {L : Nat} {W W' : World} (h : Below W.heap.size W W') : Goes L W W' := ⟨h.os, h.tape, h.output, h.size, fun k hk _ => h.block k hk⟩
theorem Goes.below {L : Nat} {W W' : World} (h : Goes L W W') (hL : L ≤ W.heap.size) : Below L W W' := ⟨h.os, h.tape, h.output, h.size, fun k hk => h.block k (by omega) (.inl hk)⟩
theorem Goes.of_marks {L : Nat} {W W' : World} {b N : Nat} {vis : List Nat} (hg : W.grownBy W' (some b)) (hs : SeenT W b 70 N vis) (hL : L ≤ b) : Goes L W W' :=
  ⟨hg.os, hg.tape, hg.output, hg.size, fun k hk hc => hg.block k hk (fun e => by
    injection e with e
    subst e
    rcases hc with hc | hc
    · omega
    · obtain ⟨cs, h, _⟩ := hs
      exact hc cs h)⟩

variable {F : Fence} {n : Nat}

/-- Where a slice that came in lies. -/
theorem Rd.kept {w w' : World} {A : Option Addr} {m n₀ : Nat} {xs : List Int} (h : Rd w A m xs) (hA : ∀ ad : Addr, A = some ad → 0 < m → ad.block < n₀) (hb : Below n₀ w w') : Rd w' A m xs :=
  ⟨h.1, fun hn => by
    obtain ⟨ad, e, hc⟩ := h.2 hn
    exact ⟨ad, e, fun j hj => (hb.cell (by rw [add_block]; exact hA ad e hn)).trans (hc j hj)⟩⟩

def roundEnd (n₀ : Nat) (I : List (List Int) → World → Prop) (xs : List (List Int)) (W : World) : Exit → Act → World → Prop
  | .normal, _, W' => Keep n₀ W W' ∧ I xs W'
  | _, _, _ => False

theorem keep_put {n₀ : Nat} {W : World} {l : Nat} {r r' : Loop} (hl : W.heap[l]? = some (.loop r)) (hn : n₀ ≤ l) : Below n₀ W (W.putObj l (.loop r')) :=
  (Below.refl n₀ W).grown (grownBy_putObj' W l _) (by have := (Array.getElem?_eq_some_iff.1 hl).1; omega) (fun k e => by cases e; exact hn)

theorem Goes.box {L : Nat} {A B : World} {b : Nat} {cs : Array Value} {t : TypeId} (hgo : Goes L A B) (h : A.heap[b]? = some (.cells cs t (0, 0))) (ht : t ≠ 70) : B.heap[b]? = some (.cells cs t (0, 0)) :=
  (hgo.block b (Array.getElem?_eq_some_iff.1 h).1 (.inr fun cs' e => by rw [h] at e; injection e with e; injection e with _ e; exact ht e)).trans h
theorem put_box {W : World} {b l : Nat} {cs : Array Value} {t : TypeId} {fr : Nat × Nat} {o o' : Obj} (h : W.heap[b]? = some (.cells cs t fr)) (hl : W.heap[l]? = some o) (ho : o.isCells = false) : (W.putObj l o').heap[b]? = some (.cells cs t fr) := by
  refine (World.putObj_heap_other (fun e => ?_)).trans h
  subst e
  rw [h] at hl
  injection hl with hl
  subst hl
  simp [Obj.isCells] at ho
theorem put_below {n₀ : Nat} {W : World} {l : Nat} (o' : Obj) (hn : n₀ ≤ l) (hz : n₀ ≤ W.heap.size) : Below n₀ W (W.putObj l o') :=
  (Below.refl n₀ W).grown (grownBy_putObj' W l o') hz (fun k e => by cases e; exact hn)
theorem set_box {W : World} {b : Nat} {u u' : Value} {t : TypeId} (h : W.heap[b]? = some (.cells #[u] t (0, 0))) : (W.setCell ⟨b, 0, none⟩ u').heap[b]? = some (.cells #[u'] t (0, 0)) := by
  simp [World.setCell, Array.getElem?_modify, h]
theorem keep_set {n₀ : Nat} {W : World} {b : Nat} {cs : Array Value} {t : TypeId} {u : Value} (h : W.heap[b]? = some (.cells cs t (0, 0))) (hn : n₀ ≤ b) (h1 : t ≠ 70) (h2 : t ≠ 45) (i : Nat) : Keep n₀ W (W.setCell ⟨b, i, none⟩ u) :=
  (Keep.refl n₀ W).grown (by have := (Array.getElem?_eq_some_iff.1 h).1; omega) (grown_set W b i u) (fun r e => by cases e; exact ⟨hn, _, h, not_shut h1 h2⟩)

end Go.Proofs.Ytbbidlgdldofdaa

namespace Go.Proofs.Ytbbidlgdldofdaa
open Go.RowKit Go.Shelf
attribute [local go_sem] Oper.semAt_some
variable {F : Fence} {n : Nat}

theorem seen12 (w : World) : SeenT (w.alloc (.cells #[.bool false, .bool false, .bool false, .bool false, .bool false, .bool false, .bool false, .bool false, .bool false, .bool false, .bool false, .bool false] 70)) w.heap.size 70 12 [] := by
  refine ⟨_, heap_alloc_new w _, rfl, fun j hj => ?_⟩
  match j, hj with
  | 0, _ => rfl
  | 1, _ => rfl
  | 2, _ => rfl
  | 3, _ => rfl
  | 4, _ => rfl
  | 5, _ => rfl
  | 6, _ => rfl
  | 7, _ => rfl
  | 8, _ => rfl
  | 9, _ => rfl
  | 10, _ => rfl
  | 11, _ => rfl
  | _ + 12, h => exact absurd h (by omega)

theorem cell_of_block {w : World} {b : Nat} {u : Value} {t : TypeId} (h : w.heap[b]? = some (.cells #[u] t (0, 0))) : w.cell? ⟨b, 0, none⟩ = some u := by
  rw [cell_of_row w b 0 #[u] t (0, 0) h]; rfl

end Go.Proofs.Ytbbidlgdldofdaa
