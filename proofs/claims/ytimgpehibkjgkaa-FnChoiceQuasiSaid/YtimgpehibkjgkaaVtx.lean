/-
  The numbers of the vertices: the model's and the program's (a loop over the cycles).
-/
import Derived.Test.YtimgpehibkjgkaaRibN
import Derived.Test.YtimgpehibkjgkaaKitSS
import Derived.Deep.OwnRows
namespace Go.Proofs.Ytimgpehibkjgkaa
open Go.RowKit Go.Shelf
attribute [local go_sem] Oper.semAt_some

/-- The number of the cycle of a point. -/
noncomputable def vertN (t : List Int) (d : Nat) : Nat := leastOf fun j => j < (cyclesL t).length ∧ inC ((cyclesL t).getD j []) d
noncomputable def vertL (t : List Int) : List Int := tab t.length fun d => (vertN t d : Int)
theorem vertL_len (t : List Int) : (vertL t).length = t.length := tab_len _ _
/-- The points of the cycles so far have their numbers. -/
def Numd (zs : List Int) (pre : List (List Int)) : Prop := ∀ j, j < pre.length → ∀ q, q < (pre.getD j []).length → gi zs (gn (pre.getD j []) q) = (j : Int)
theorem getD_mem {cs : List (List Int)} {j : Nat} (h : j < cs.length) : cs.getD j [] ∈ cs := by
  have : cs.getD j [] = cs[j] := by simp [List.getD, h]
  rw [this]; exact List.getElem_mem h
theorem numd_all {t zs : List Int} (ht : Vld t) (hl : zs.length = t.length) (h : Numd zs (cyclesL t)) : zs = vertL t := by
  refine tab_ext hl fun d hd => ?_
  obtain ⟨h1, h2, h3⟩ := cyclesL_spec ht
  obtain ⟨c, hc, hcd⟩ := h2 d hd
  obtain ⟨j, hj, rfl⟩ := List.getElem_of_mem hc
  have hgd : (cyclesL t).getD j [] = (cyclesL t)[j] := by simp [List.getD, hj]
  obtain ⟨⟨k1, k2⟩, _⟩ := leastOf_spec (p := fun j => j < (cyclesL t).length ∧ inC ((cyclesL t).getD j []) d) ⟨j, hj, by rw [hgd]; exact hcd⟩
  obtain ⟨q, hq, hqd⟩ := k2
  have := h _ k1 q hq
  rw [hqd] at this
  exact this
theorem Numd.more {zs' : List Int} {pre : List (List Int)} {x : List Int} (h : Numd zs' pre) (hx : ∀ q, q < x.length → gi zs' (gn x q) = (pre.length : Int)) : Numd zs' (pre ++ [x]) := by
  intro j hj q hq
  rw [List.length_append] at hj
  by_cases e : j < pre.length
  · rw [getD_append_left' _ _ _ e] at hq ⊢
    exact h j e q hq
  · have : j = pre.length := by simp at hj; omega
    subst this
    have e2 : (pre ++ [x]).getD pre.length [] = x := by simp [List.getD]
    rw [e2] at hq ⊢
    exact hx q hq
theorem Numd.set {zs : List Int} {pre : List (List Int)} {d : Nat} {v : Int} (h : Numd zs pre) (hd : d < zs.length) (hn : ∀ c, c ∈ pre → ¬ inC c d) : Numd (zs.set d v) pre := by
  intro j hj q hq
  rw [gi_set _ _ _ _ hd, if_neg]
  · exact h j hj q hq
  · intro e
    exact hn _ (getD_mem hj) ⟨q, hq, e⟩

end Go.Proofs.Ytimgpehibkjgkaa
