/-
  The subgraph of a choice by the program: parts, sides, rank, nullity, genus.
-/
import Derived.Test.YthcdhkelpepeeaaRibS
namespace Go.Proofs.Ythcdhkelpepeeaa
open Go.RowKit

def qa (x : Int) : Int := IntKind.u64.wrap (bits BinOp.and IntKind.u64 (x / 2) 6148914691236517205 + bits BinOp.and IntKind.u64 x 6148914691236517205)
def qb (x : Int) : Int := IntKind.u64.wrap (bits BinOp.and IntKind.u64 (x / 4) 3689348814741910323 + bits BinOp.and IntKind.u64 x 3689348814741910323)
def qc (x : Int) : Int := bits BinOp.and IntKind.u64 (x / 16 + x) 1085102592571150095
def qd (x : Int) : Int := bits BinOp.and IntKind.i64 x 127
theorem q_in : ∀ b : Nat, b < 64 → (0 ≤ qa b ∧ qa b < 256) ∧ (0 ≤ qb (qa b) ∧ qb (qa b) < 256) ∧ (0 ≤ qc (qb (qa b)) ∧ qc (qb (qa b)) < 16) ∧ qd (qc (qb (qa b))) = ((bL b).length : Nat) := by decide +kernel
theorem bL_few : ∀ b : Nat, b < 64 → (bL b).length ≤ 6 := by decide +kernel

theorem box2_drewN {w : World} {b n c n' c' : Nat} {A A' : Option Addr} (h : Box2 w b A n c A' n' c') (k : Nat) : Box2 (w.drewN k) b A n c A' n' c' := h
/-- How many of the first k numbers stand at their own places. -/
def fixN (xs : List Int) : Nat → Nat
  | 0 => 0
  | k + 1 => fixN xs k + if gi xs k = (k : Int) then 1 else 0
theorem fixN_le (xs : List Int) : ∀ k, fixN xs k ≤ k
  | 0 => Nat.le_refl _
  | k + 1 => by have := fixN_le xs k; rw [fixN]; split <;> omega
noncomputable def ptsN (t f : List Int) (s : Nat) : Nat := fixN (orbL t (flipS f s)) t.length
def sidN (t f : List Int) (s : Nat) : Nat := (cyclesL (sidL t f s)).length
/-- Parts, sides, rank, nullity, genus, told by the numbers of parts, sides, vertices, chosen edges. -/
def subI (p sd v e : Nat) : List Int := [(p : Int), (sd : Int), (v : Int) - p, (e : Int) - ((v : Int) - p), (2 * (p : Int) - v + e - sd).tdiv 2]
noncomputable def subL (t f : List Int) (s : Nat) : List Int := subI (ptsN t f s) (sidN t f s) (cntV t) (bL s).length
def aggOf (xs : List Int) : Value := .agg ((xs.map (Value.int .i64)).toArray)

/-- Block b holds five values as a struct of type t. -/
def Row5 (w : World) (b : Nat) (t : TypeId) (u0 u1 u2 u3 u4 : Value) : Prop := w.heap[b]? = some (.cells #[u0, u1, u2, u3, u4] t (0, 0))
section
variable {w w' : World} {b : Nat} {t : TypeId} {u0 u1 u2 u3 u4 : Value}
theorem Row5.new (w : World) (t : TypeId) (u0 u1 u2 u3 u4 : Value) : Row5 (w.alloc (.cells #[u0, u1, u2, u3, u4] t)) w.heap.size t u0 u1 u2 u3 u4 := heap_alloc_new w _
theorem Row5.lt (h : Row5 w b t u0 u1 u2 u3 u4) : b < w.heap.size := (Array.getElem?_eq_some_iff.1 h).1
theorem Row5.below (h : Row5 w b t u0 u1 u2 u3 u4) (hb : Below w.heap.size w w') : Row5 w' b t u0 u1 u2 u3 u4 := (hb.block b h.lt).trans h
theorem Row5.cells (h : Row5 w b t u0 u1 u2 u3 u4) : w.cell? ⟨b, 0, none⟩ = some u0 ∧ w.cell? ⟨b, 1, none⟩ = some u1 ∧ w.cell? ⟨b, 2, none⟩ = some u2 ∧ w.cell? ⟨b, 3, none⟩ = some u3 ∧ w.cell? ⟨b, 4, none⟩ = some u4 := by
  refine ⟨?_, ?_, ?_, ?_, ?_⟩ <;> (rw [cell_of_row w b _ _ _ (0, 0) h]; rfl)
theorem Row5.frozen (h : Row5 w b t u0 u1 u2 u3 u4) (j : Nat) : w.frozen? ⟨b, j, none⟩ = false := frozen_of_row w b j _ _ h
theorem Row5.store (h : Row5 w b t u0 u1 u2 u3 u4) (v0 v1 v2 v3 v4 : Value) :
    Row5 (((((w.setCell ⟨b, 0, none⟩ v0).setCell ⟨b, 1, none⟩ v1).setCell ⟨b, 2, none⟩ v2).setCell ⟨b, 3, none⟩ v3).setCell ⟨b, 4, none⟩ v4) b t v0 v1 v2 v3 v4 ∧ w.grownBy (((((w.setCell ⟨b, 0, none⟩ v0).setCell ⟨b, 1, none⟩ v1).setCell ⟨b, 2, none⟩ v2).setCell ⟨b, 3, none⟩ v3).setCell ⟨b, 4, none⟩ v4) (some b) := by
  refine ⟨?_, grownBy_trans (grownBy_trans (grownBy_trans (grownBy_trans (grown_set _ _ _ _) (grown_set _ _ _ _)) (grown_set _ _ _ _)) (grown_set _ _ _ _)) (grown_set _ _ _ _)⟩
  unfold Row5 at h ⊢
  rw [set_row2 (set_row2 (set_row2 (set_row2 (set_row2 h))))]; rfl
end

end Go.Proofs.Ythcdhkelpepeeaa
