/-
  Words on memory for maps: a box of two slices, a map that a call owns; the small functions of package laws on maps.
-/
import Derived.Test.YtcenffndclpjoaaBack
import Derived.Test.YtcenffndclpjoaaSeen
import Derived.LoopIn
import Derived.LoopNIn
import Derived.OwnWalkIn
import Derived.RangeFuncBound
import Derived.RangeFuncBox
import Derived.RangeFuncCalls
import Derived.RangeFuncLeaves
import Derived.RangeFuncNested
import Derived.Shelf.Abstract
import Derived.Shelf.RegionOpen
import Derived.TacticsInMore
namespace Go.Proofs.Ytcenffndclpjoaa
open Go.RowKit

/-- Only blocks from lo up to hi have changed. -/
structure Chg (lo hi : Nat) (w w' : World) : Prop where
  os : w'.os = w.os
  tape : w'.tape = w.tape
  output : w'.output = w.output
  size : w.heap.size ≤ w'.heap.size
  block : ∀ k : Nat, k < w.heap.size → (k < lo ∨ hi ≤ k) → w'.heap[k]? = w.heap[k]?
section
variable {lo hi : Nat} {w w' w'' : World}
theorem Chg.refl (lo hi : Nat) (w : World) : Chg lo hi w w := ⟨rfl, rfl, rfl, Nat.le_refl _, fun _ _ _ => rfl⟩
theorem Chg.trans (h : Chg lo hi w w') (k : Chg lo hi w' w'') : Chg lo hi w w'' :=
  ⟨k.os.trans h.os, k.tape.trans h.tape, k.output.trans h.output, Nat.le_trans h.size k.size, fun i hi' ho => (k.block i (Nat.lt_of_lt_of_le hi' h.size) ho).trans (h.block i hi' ho)⟩
theorem Chg.of_below (h : Below w.heap.size w w') : Chg lo hi w w' := ⟨h.os, h.tape, h.output, h.size, fun k hk _ => h.block k hk⟩
theorem Chg.of_grown {row : Option Nat} (h : w.grownBy w' row) (hr : ∀ k, row = some k → lo ≤ k ∧ k < hi) : Chg lo hi w w' :=
  ⟨h.os, h.tape, h.output, h.size, fun k hk ho => h.block k hk (fun e => by have := hr k e.symm; omega)⟩
theorem Chg.below {B : Nat} (h : Chg lo hi w w') (hB : B ≤ lo) (hs : B ≤ w.heap.size) : Below B w w' := ⟨h.os, h.tape, h.output, h.size, fun k hk => h.block k (by omega) (by omega)⟩
end

/-- A value whose row, if it has one, lies from block a on, ahead of block b. -/
def InIv (v : Value) (a b : Nat) : Prop := ∀ k, v.ownBlock = some k → a ≤ k ∧ k < b
theorem Own.iv {w : World} {lo : Nat} {v : Value} {xs : List Int} (h : Own w lo v xs) : InIv v lo w.heap.size := h.lt
theorem InIv.wide {v : Value} {a b a' b' : Nat} (h : InIv v a b) (ha : a' ≤ a) (hb : b ≤ b') : InIv v a' b' := fun k hk => by have := h k hk; omega
theorem InIv.outside {v : Value} {a b lo hi : Nat} (h : InIv v a b) (ho : b ≤ lo ∨ hi ≤ a) : ∀ k, v.ownBlock = some k → k < lo ∨ hi ≤ k := fun k hk => by have := h k hk; omega
theorem Own.chg {w w' : World} {l lo hi : Nat} {v : Value} {xs : List Int} (h : Own w l v xs) (hc : Chg lo hi w w') (ho : ∀ k, v.ownBlock = some k → k < lo ∨ hi ≤ k) : Own w' l v xs := by
  obtain ⟨h1, h2⟩ := h
  refine ⟨h1, ?_⟩
  rcases h2 with h2 | ⟨g, cap, cur, hv, hg, hh, r⟩
  · exact .inl h2
  · refine .inr ⟨g, cap, cur, hv, hg, (hc.block g (Array.getElem?_eq_some_iff.1 hh).1 (ho g ?_)).trans hh, r⟩
    rw [hv]; rfl
theorem Rd.chg {w w' : World} {lo hi n : Nat} {A : Option Addr} {xs : List Int} (h : Rd w A n xs) (hA : ∀ ad, A = some ad → 0 < n → ad.block < lo) (hc : Chg lo hi w w') : Rd w' A n xs :=
  ⟨h.1, fun hn => by
    obtain ⟨ad, e, hcell⟩ := h.2 hn
    refine ⟨ad, e, fun j hj => ?_⟩
    refine (World.cell?_of_block (w := w) (w' := w') ?_).trans (hcell j hj)
    rw [add_block]
    have hb := World.block_lt_of_cell? w _ (hcell j hj)
    rw [add_block] at hb
    exact hc.block _ hb (.inl (hA ad e hn))⟩

/-- Block b holds two values as a struct of type t. -/
def Box (w : World) (b : Nat) (t : TypeId) (u u' : Value) : Prop := w.heap[b]? = some (.cells #[u, u'] t (0, 0))
section
variable {w w' : World} {b lo hi : Nat} {t : TypeId} {u u' : Value}
theorem Box.cell0 (h : Box w b t u u') : w.cell? ⟨b, 0, none⟩ = some u := by rw [cell_of_row w b 0 _ _ (0, 0) h]; rfl
theorem Box.cell1 (h : Box w b t u u') : w.cell? ⟨b, 1, none⟩ = some u' := by rw [cell_of_row w b 1 _ _ (0, 0) h]; rfl
theorem Box.lt (h : Box w b t u u') : b < w.heap.size := (Array.getElem?_eq_some_iff.1 h).1
theorem Box.below (h : Box w b t u u') (hb : Below w.heap.size w w') : Box w' b t u u' := (hb.block b h.lt).trans h
theorem Box.chg (h : Box w b t u u') (hc : Chg lo hi w w') (ho : b < lo ∨ hi ≤ b) : Box w' b t u u' := (hc.block b h.lt ho).trans h
theorem Box.drewN (h : Box w b t u u') (n : Nat) : Box (w.drewN n) b t u u' := h
theorem Box.new (w : World) (t : TypeId) (u u' : Value) : Box (w.alloc (.cells #[u, u'] t)) w.heap.size t u u' := heap_alloc_new w _
theorem Box.frozen (h : Box w b t u u') (j : Nat) : w.frozen? ⟨b, j, none⟩ = false := frozen_of_row w b j _ _ h
end

/-- Both values of a box stored anew. -/
theorem set_row2 {w : World} {b j : Nat} {cs : Array Value} {t : TypeId} {u : Value} (h : w.heap[b]? = some (.cells cs t (0, 0))) : (w.setCell ⟨b, j, none⟩ u).heap[b]? = some (.cells (cs.setIfInBounds j u) t (0, 0)) := by
  simp [World.setCell, Array.getElem?_modify, h]
theorem Box.store2 {w : World} {b : Nat} {t : TypeId} {x y : Value} (h : Box w b t x y) (u u' : Value) :
    Box ((w.setCell ⟨b, 0, none⟩ u).setCell ⟨b, 1, none⟩ u') b t u u' ∧ w.grownBy ((w.setCell ⟨b, 0, none⟩ u).setCell ⟨b, 1, none⟩ u') (some b) := by
  refine ⟨?_, grownBy_trans (grown_set _ _ _ _) (grown_set _ _ _ _)⟩
  unfold Box at h ⊢
  rw [set_row2 (set_row2 h)]; rfl
/-- A variable that is made and takes two values. -/
theorem Box.local_ (w : World) (t : TypeId) (u u' : Value) :
    ∃ W, w.alloc (.cells #[u, u'] t) = W ∧ Box W w.heap.size t u u' ∧ Below w.heap.size w W ∧ W.heap.size = w.heap.size + 1 :=
  ⟨_, rfl, Box.new w t u u', (Below.refl _ _).alloc (Nat.le_refl _) _, by simp⟩

/-- A map that a call owns: two rows of its own. -/
structure OwnM (w : World) (lo : Nat) (u u' : Value) (t f : List Int) : Prop where
  turn : Own w lo u t
  flip : Own w lo u' f
  apart : ∀ k, u.ownBlock = some k → u'.ownBlock ≠ some k
section
variable {w w' : World} {lo lo' hi : Nat} {u u' : Value} {t f : List Int}
theorem OwnM.mono (h : OwnM w lo u u' t f) (hl : lo' ≤ lo) : OwnM w lo' u u' t f := ⟨h.turn.mono hl, h.flip.mono hl, h.apart⟩
theorem OwnM.below (h : OwnM w lo u u' t f) (hb : Below w.heap.size w w') : OwnM w' lo u u' t f := ⟨h.turn.below hb, h.flip.below hb, h.apart⟩
theorem OwnM.chg (h : OwnM w lo u u' t f) (hc : Chg lo' hi w w') (h1 : ∀ k, u.ownBlock = some k → k < lo' ∨ hi ≤ k) (h2 : ∀ k, u'.ownBlock = some k → k < lo' ∨ hi ≤ k) : OwnM w' lo u u' t f := ⟨h.turn.chg hc h1, h.flip.chg hc h2, h.apart⟩
theorem OwnM.nil_ (w : World) (lo : Nat) : OwnM w lo (.slice none 0 0) (.slice none 0 0) [] [] := ⟨Own.nil_ _ _, Own.nil_ _ _, fun k hk => by cases hk⟩
theorem OwnM.form (h : OwnM w lo u u' t f) {n n' : Nat} (hn : t.length = n) (hn' : f.length = n') : ∃ A c A' c', u = .slice A n c ∧ u' = .slice A' n' c' ∧ Rd w A n t ∧ Rd w A' n' f := by
  obtain ⟨A, c, h1, h2, _⟩ := h.turn.form' hn
  obtain ⟨A', c', h3, h4, _⟩ := h.flip.form' hn'
  exact ⟨A, c, A', c', h1, h3, h2, h4⟩
end

theorem Below.of_drewN {B k : Nat} {w w' : World} (h : Below B (w.drewN k) w') : Below B w w' := ⟨h.os, h.tape, h.output, h.size, h.block⟩

/-- What is left of m when n and n' are taken off, -1 if there is not so much. -/
def szOf (m : Int) (n n' : Nat) : Int := if m - n < 0 then -1 else if m - n - n' < 0 then -1 else m - n - n'
theorem szOf_eq {m : Int} {n n' : Nat} (h : (n : Int) + n' ≤ m) : szOf m n n' = m - n - n' := by
  unfold szOf
  rw [if_neg (by omega), if_neg (by omega)]
theorem szOf_fits {m : Int} {n n' : Nat} (_h0 : 0 ≤ m) (h : ¬ szOf m n n' < 0) : (n : Int) + n' ≤ m ∧ szOf m n n' = m - n - n' := by
  have hle : (n : Int) + n' ≤ m := by
    unfold szOf at h
    by_cases h1 : m - n < 0
    · rw [if_pos h1] at h; omega
    · rw [if_neg h1] at h
      by_cases h2 : m - n - n' < 0
      · rw [if_pos h2] at h; omega
      · omega
  exact ⟨hle, szOf_eq hle⟩
end Go.Proofs.Ytcenffndclpjoaa
