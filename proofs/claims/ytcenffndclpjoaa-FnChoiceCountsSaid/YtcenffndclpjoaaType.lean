/-
  The model's PermType.
  The program's PermType: the lengths are collected, sorted and turned around.
-/
import Derived.Test.YtcenffndclpjoaaOrb
import Derived.Test.YtcenffndclpjoaaKitSS
import Derived.Test.YtcenffndclpjoaaShelf
import Derived.Lib.OwnBridge
import Derived.Lib.AppendIntMem
namespace Go.Proofs.Ytcenffndclpjoaa
open Go.RowKit

theorem cyc_bounds {p : List Int} (hp : Vld p) : ∀ j, j < (cyclesL p).length → 1 ≤ ((cyclesL p).getD j []).length ∧ ((cyclesL p).getD j []).length ≤ p.length := by
  intro j hj
  have hm : (cyclesL p).getD j [] ∈ cyclesL p := by
    have : (cyclesL p).getD j [] = (cyclesL p)[j] := by simp [List.getD, hj]
    rw [this]; exact List.getElem_mem hj
  have hc := (cyclesL_spec hp).1 _ hm
  refine ⟨hc.pos, ?_⟩
  have h2 := nodup_len p.length (((cyclesL p).getD j []).map Int.toNat) (by
    rw [List.Nodup, List.pairwise_iff_getElem]
    intro a b ha hb hab
    simp only [List.length_map] at ha hb
    have h3 := hc.apart a b hab hb
    simp only [gn, gi_eq hb, gi_eq ha] at h3
    simpa using h3) (fun x hx => by
    obtain ⟨a, ha, rfl⟩ := List.mem_map.1 hx
    obtain ⟨i, hi, rfl⟩ := List.getElem_of_mem ha
    have := hc.lt i hi
    simpa only [gn, gi_eq hi] using this)
  simpa using h2
theorem typeL_len {p : List Int} (hp : Vld p) : (typeL p).length = (cyclesL p).length := by
  rw [typeL, fromLen_len, cnt_sum _ _ _ (cyc_bounds hp)]

theorem typeR_len {p ys : List Int} {ok : Bool} (h : typeR p = (ok, ys)) : ys.length ≤ 12 := by
  unfold typeR at h
  split at h
  · rename_i hb
    injection h with _ h
    have hv := Vld_of hb
    have := cyclesL_len (p := p)
    have := hv.2.1
    rw [← h, typeL_len hv]; omega
  · injection h with _ h; rw [← h]; simp

end Go.Proofs.Ytcenffndclpjoaa

namespace Go.Proofs.Ytcenffndclpjoaa
open Go.RowKit Go.Shelf Go.Sort
attribute [local go_sem] Oper.semAt_some

def lens (cs : List (List Int)) : List Int := cs.map fun c => (c.length : Int)
theorem lens_snoc (a : List (List Int)) (c : List Int) : lens (a ++ [c]) = lens a ++ [(c.length : Int)] := by simp [lens]
theorem lens_count {p : List Int} (hp : Vld p) (x : Int) : (typeL p).count x = (lens (cyclesL p)).count x := by
  rw [typeL, fromLen_count]
  by_cases h : 1 ≤ x ∧ x ≤ p.length
  · rw [if_pos h, cnt_count _ _ _ (Nat.le_refl _), List.take_length]
    rw [Int.toNat_of_nonneg (by omega)]
    rfl
  · rw [if_neg h]
    symm
    rw [List.count_eq_zero]
    intro hm
    obtain ⟨c, hc, rfl⟩ := List.mem_map.1 hm
    obtain ⟨j, hj, rfl⟩ := List.getElem_of_mem hc
    have := cyc_bounds hp j hj
    have e : (cyclesL p).getD j [] = (cyclesL p)[j] := by simp [List.getD, hj]
    rw [e] at this
    omega
theorem sorted_type {p : List Int} (hp : Vld p) : ((lens (cyclesL p)).mergeSort fun x y => decide (x ≤ y)).reverse = typeL p := by
  refine falls_eq _ _ ?_ (fromLen_falls _ _) ?_
  · rw [Falls, List.pairwise_reverse]
    have := List.pairwise_mergeSort (le := fun (x y : Int) => decide (x ≤ y)) (fun a b c h1 h2 => by simp at h1 h2 ⊢; omega) (fun a b => by simp; omega) (lens (cyclesL p))
    exact this.imp (fun h => by simpa using h)
  · refine (List.reverse_perm _).trans ((List.mergeSort_perm _ _).trans ?_)
    rw [List.perm_iff_count]
    intro x
    exact (lens_count hp x).symm

theorem sort_grown {W : World} {g k : Nat} {d : Array Int} {os : Array Obj} : W.grownBy (grow (putRow (Value.int .i64) (Sort.ahead W k) g 0 d) os) (some g) := by
  refine ⟨rfl, rfl, rfl, by simp [grow, putRow, mapBlock, Sort.ahead], fun i hi hne => ?_⟩
  have hne' : g ≠ i := fun e => hne (by rw [e])
  simp only [grow, putRow, mapBlock, Sort.ahead]
  rw [Array.getElem?_append, if_pos (by simpa using hi), Array.getElem?_modify, if_neg hne']

/-- A row put in another order, blocks of the callee's own behind: the row is owned, all else is as it was. -/
theorem row_after {w W W1 : World} {n₀ b l g cap m k : Nat} {zs ys : List Int} {os : Array Obj} {bx : Value} {o : Obj}
    (hW1 : W1 = grow (putRow (Value.int .i64) (Sort.ahead W k) g 0 ys.toArray) os)
    (hvo : W.ownsRow n₀ 3 1 (.slice (some ⟨g, 0, none⟩) m cap) m (ints zs)) (hyl : ys.length = m)
    (hb : W.heap[b]? = some (.cells #[bx] 23 (0, 0))) (hK : W.heap[l]? = some o) (ho : o.isCells = false) (hbe : Below n₀ w W) (hz : n₀ ≤ W.heap.size) :
    W1.ownsRow n₀ 3 1 (.slice (some ⟨g, 0, none⟩) m cap) m (ints ys) ∧ W1.heap[b]? = some (.cells #[bx] 23 (0, 0)) ∧ W1.heap[l]? = some o ∧ Below n₀ w W1 := by
  subst hW1
  have hg : W.grownBy (grow (putRow (Value.int .i64) (Sort.ahead W k) g 0 ys.toArray) os) (some g) := sort_grown
  obtain ⟨hn, cs, hh⟩ := row_kind hvo g rfl
  refine ⟨?_, box_grown hb hvo hg (by decide), (hg.block l (Array.getElem?_eq_some_iff.1 hK).1 (fun e' => ?_)).trans hK, hbe.grown hg hz (fun r e => by cases e; exact hn)⟩
  · have h1 := Lib.ownsRow_putRow (q := k) (k := m) (ys := ys) hvo hyl (Nat.le_refl _)
    rw [show ys.take m = ys by rw [← hyl]; exact List.take_length] at h1
    exact Lib.ownsRow_grow h1 0 os
  · injection e' with e'
    subst e'
    rw [hh] at hK
    injection hK with hK
    subst hK
    simp [Obj.isCells] at ho
theorem holds_row {W : World} {n₀ g cap m : Nat} {zs : List Int} (hvo : W.ownsRow n₀ 3 1 (.slice (some ⟨g, 0, none⟩) m cap) m (ints zs)) : zs.length = m ∧ g < W.heap.size ∧ Holds (Value.int .i64) W g 0 zs.toArray := by
  obtain ⟨g', cap', e, _, h1, _, _, h2, h3⟩ := Lib.holds_of_ownsRow (enc := Value.int .i64) hvo (by simp)
  injection e with e1
  injection e1 with e1
  injection e1 with e1
  subst e1
  exact ⟨h2, h1, h3⟩
end Go.Proofs.Ytcenffndclpjoaa
