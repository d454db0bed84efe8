/-
  Plain: all cycles one behind the other: each point once; heads ascend.
-/
import Derived.Test.YteajaikgeephmaaPar7
import Derived.Test.YteajaikgeephmaaOrdBound
namespace Go.Proofs.Yteajaikgeephmaa

def hasB (xs : List Int) (m : Int) : Bool := xs.any fun x => x == m
theorem hasB_iff {xs : List Int} {m : Int} : hasB xs m = true ↔ ∃ j, j < xs.length ∧ gi xs j = m := by
  unfold hasB
  rw [List.any_eq_true]
  constructor
  · rintro ⟨x, hx, e⟩
    obtain ⟨j, hj, rfl⟩ := List.getElem_of_mem hx
    exact ⟨j, hj, by rw [gi_eq hj]; simpa using e⟩
  · rintro ⟨j, hj, e⟩
    exact ⟨gi xs j, by rw [gi_eq hj]; exact List.getElem_mem hj, by simpa using e⟩

theorem cover_len : ∀ (n : Nat) (l : List Nat), (∀ x, x < n → x ∈ l) → n ≤ l.length
  | 0, _, _ => Nat.zero_le _
  | n + 1, l, h => by
    have h1 := h n (by omega)
    have h2 := cover_len n (l.erase n) (fun x hx => (List.mem_erase_of_ne (by omega)).2 (h x (by omega)))
    rw [List.length_erase_of_mem h1] at h2
    have h3 := List.length_pos_of_mem h1
    omega
theorem flatten_len : ∀ cs : List (List Int), cs.flatten.length = sumL cs
  | [] => rfl
  | c :: r => by simp [sumL, flatten_len r]
theorem mem_flatN_of {cs : List (List Int)} {c : List Int} (hc : c ∈ cs) {x : Nat} (h : inC c x) : x ∈ flatN cs := by
  induction cs with
  | nil => cases hc
  | cons d r ih =>
    rw [flatN, List.mem_append]
    rcases List.mem_cons.1 hc with rfl | hc
    · obtain ⟨j, hj, e⟩ := h
      exact .inl (List.mem_map.2 ⟨j, List.mem_range.2 hj, e⟩)
    · exact .inr (ih hc)
theorem flat_all {p : List Int} (hp : Vld p) : (cyclesL p).flatten.length = p.length := by
  rw [flatten_len]
  refine Nat.le_antisymm (sum_le hp) ?_
  rw [← flatN_len]
  refine cover_len _ _ fun x hx => ?_
  obtain ⟨c, hc, h⟩ := (cyclesL_spec hp).2.1 x hx
  exact mem_flatN_of hc h
theorem getD_eq {cs : List (List Int)} {i : Nat} (hi : i < cs.length) : cs.getD i [] = cs[i] := by simp [List.getD, hi]
theorem cyc_at {p : List Int} (hp : Vld p) {i : Nat} (hi : i < (cyclesL p).length) : Cyc p ((cyclesL p).getD i []) := by
  rw [getD_eq hi]; exact (cyclesL_spec hp).1 _ (List.getElem_mem hi)
theorem head_up {p : List Int} (hp : Vld p) {i j : Nat} (hj : j < i) (hi : i < (cyclesL p).length) : gn ((cyclesL p).getD j []) 0 < gn ((cyclesL p).getD i []) 0 := by
  rw [getD_eq hi, getD_eq (Nat.lt_trans hj hi)]
  exact List.pairwise_iff_getElem.1 (cyclesL_heads hp).2 j i (Nat.lt_trans hj hi) hi hj
theorem head_least {p : List Int} (hp : Vld p) {i : Nat} (hi : i < (cyclesL p).length) {k : Nat} (hk : k < ((cyclesL p).getD i []).length) : gn ((cyclesL p).getD i []) 0 ≤ gn ((cyclesL p).getD i []) k := by
  rw [getD_eq hi] at hk ⊢
  exact (cyclesL_heads hp).1 _ (List.getElem_mem hi) k hk
theorem mem_gi {xs : List Int} {x : Int} (h : x ∈ xs) : ∃ j, j < xs.length ∧ gi xs j = x := by
  obtain ⟨j, hj, rfl⟩ := List.getElem_of_mem h
  exact ⟨j, hj, gi_eq hj⟩
theorem fresh {p : List Int} (hp : Vld p) {i : Nat} (hi : i < (cyclesL p).length) {k : Nat} (hk : k < ((cyclesL p).getD i []).length) :
    hasB (((cyclesL p).take i).flatten ++ ((cyclesL p).getD i []).take k) (gi ((cyclesL p).getD i []) k) = false := by
  rw [Bool.eq_false_iff]
  intro h
  have hc := cyc_at hp hi
  obtain ⟨j, hj, e⟩ := hasB_iff.1 h
  have hm : gi ((cyclesL p).getD i []) k ∈ ((cyclesL p).take i).flatten ++ ((cyclesL p).getD i []).take k := by
    rw [← e, gi_eq hj]; exact List.getElem_mem hj
  rcases List.mem_append.1 hm with h1 | h1
  · obtain ⟨c, hcm, hx⟩ := List.mem_flatten.1 h1
    obtain ⟨q, hq, rfl⟩ := List.getElem_of_mem hcm
    rw [List.length_take] at hq
    rw [List.getElem_take] at hx
    have hqi : q < i := by omega
    have hqc := (cyclesL_spec hp).1 _ (List.getElem_mem (show q < (cyclesL p).length by omega))
    obtain ⟨a, ha, e2⟩ := mem_gi hx
    rw [hqc.nat a ha, hc.nat k hk] at e2
    have := List.pairwise_iff_getElem.1 (cyclesL_spec hp).2.2 q i (by omega) hi hqi (gn ((cyclesL p).getD i []) k) ⟨a, ha, by omega⟩
    rw [← getD_eq hi] at this
    exact this ⟨k, hk, rfl⟩
  · obtain ⟨a, ha, e2⟩ := mem_gi h1
    rw [List.length_take] at ha
    have e3 : gi (((cyclesL p).getD i []).take k) a = gi ((cyclesL p).getD i []) a := by
      rw [gi_eq (by rw [List.length_take]; omega), gi_eq (by omega), List.getElem_take]
    rw [e3, hc.nat a (by omega), hc.nat k hk] at e2
    have := gn_apart hc (show a < _ by omega) hk (by omega)
    omega

theorem flatten_take_le (cs : List (List Int)) (i : Nat) : (cs.take i).flatten.length ≤ cs.flatten.length := by
  have h := congrArg (fun l => l.flatten.length) (List.take_append_drop i cs)
  simp only [List.flatten_append, List.length_append] at h
  omega
theorem sum_take_le {p : List Int} (hp : Vld p) (i : Nat) : ((cyclesL p).take i).flatten.length ≤ p.length := by
  rw [← flat_all hp]; exact flatten_take_le _ _

end Go.Proofs.Yteajaikgeephmaa
