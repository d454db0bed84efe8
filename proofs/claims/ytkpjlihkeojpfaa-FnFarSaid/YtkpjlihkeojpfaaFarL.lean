/-
  Distances, plain: ways back, ways one behind the other, and fewer than vertices.
-/
import Derived.Test.YtkpjlihkeojpfaaFarP
import Derived.Test.YtkpjlihkeojpfaaCounts
namespace Go.Proofs.Ytkpjlihkeojpfaa
open Go.RowKit

section
variable {t f : List Int} {x y z d k k' s s' : Nat}
theorem Way.trans (h : Way t f x d k s) (h' : Way t f d y k' s') : Way t f x y (k + k') (s + s') := by
  induction h' with
  | here => exact h
  | turn _ ih => exact ih.turn
  | flip _ ih => exact ih.flip
theorem Way.along (x : Nat) : ∀ j, Way t f x (it t j x) 0 j
  | 0 => .here
  | j + 1 => (Way.along x j).turn
theorem Way.back (hm : IsMap t f) (hx : x < t.length) (h : Way t f x d k s) : ∃ s', Way t f d x k s' := by
  induction h with
  | here => exact ⟨0, .here⟩
  | @turn d k s h ih =>
    obtain ⟨s', h'⟩ := ih
    obtain ⟨j, hj⟩ := it_round hm.turn (way_lt hm hx h)
    have h2 := Way.along (t := t) (f := f) (gn t d) j
    rw [hj] at h2
    have h3 := h2.trans h'
    rw [Nat.zero_add] at h3
    exact ⟨_, h3⟩
  | @flip d k s h ih =>
    obtain ⟨s', h'⟩ := ih
    have h2 : Way t f (gn f d) (gn f (gn f d)) (0 + 1) (0 + 1) := (Way.here).flip
    rw [(hm.paired d (by rw [← hm.len]; exact way_lt hm hx h)).2] at h2
    have h3 := h2.trans h'
    rw [show 0 + 1 + k = k + 1 by omega] at h3
    exact ⟨_, h3⟩
theorem far_way (hm : IsMap t f) (hx : x < t.length) (hy : y < t.length) : ∃ s, Way t f x y (gi (farL t f x) y).toNat s := by
  obtain ⟨s, _, h⟩ := (far_is hm hx).way y hy
  exact ⟨s, h⟩
theorem far_in (hm : IsMap t f) (hx : x < t.length) (hy : y < t.length) : 0 ≤ gi (farL t f x) y ∧ gi (farL t f x) y < t.length := (far_is hm hx).small hy
theorem far_le (hm : IsMap t f) (hx : x < t.length) (h : Way t f x y k s) : gi (farL t f x) y ≤ k := (far_is hm hx).least y k s h
theorem far_sym (hm : IsMap t f) (hx : x < t.length) (hy : y < t.length) : gi (farL t f y) x = gi (farL t f x) y := by
  have key : ∀ {a b : Nat}, a < t.length → b < t.length → gi (farL t f b) a ≤ gi (farL t f a) b := fun {a b} ha hb => by
    obtain ⟨s, h⟩ := far_way hm ha hb
    obtain ⟨s', h'⟩ := h.back hm ha
    have := far_le hm hb h'; have := far_in hm ha hb
    omega
  have := key hx hy; have := key hy hx; omega
theorem far_tri (hm : IsMap t f) (hx : x < t.length) (hy : y < t.length) (hz : z < t.length) : gi (farL t f x) z ≤ gi (farL t f x) y + gi (farL t f y) z := by
  obtain ⟨s, h⟩ := far_way hm hx hy
  obtain ⟨s', h'⟩ := far_way hm hy hz
  have := far_le hm hx (h.trans h'); have := far_in hm hx hy; have := far_in hm hy hz
  omega
theorem far_turn0 (hm : IsMap t f) (hx : x < t.length) : gi (farL t f x) (gn t x) = 0 := by
  have := far_le hm hx (Way.here (t := t) (f := f) (x := x)).turn
  have := far_in hm hx (hm.turn.gn_lt hx)
  omega
theorem far_flip1 (hm : IsMap t f) (hx : x < t.length) : gi (farL t f x) (gn f x) ≤ 1 := by
  have := far_le hm hx (Way.here (t := t) (f := f) (x := x)).flip
  omega
theorem far_step (hm : IsMap t f) (hx : x < t.length) (hy : y < t.length) : gi (farL t f x) (gn t y) = gi (farL t f x) y := by
  have hty := hm.turn.gn_lt hy
  have h1 : gi (farL t f y) (gn t y) = 0 := far_turn0 hm hy
  have h2 := far_tri hm hx hy hty
  have h3 := far_tri hm hx hty hy
  rw [far_sym hm hy hty, h1] at h3
  omega
theorem far_iter (hm : IsMap t f) (hx : x < t.length) (hy : y < t.length) : ∀ j, it t j y < t.length ∧ gi (farL t f x) (it t j y) = gi (farL t f x) y
  | 0 => ⟨hy, rfl⟩
  | j + 1 => by
    obtain ⟨h1, h2⟩ := far_iter hm hx hy j
    exact ⟨hm.turn.gn_lt h1, (far_step hm hx h1).trans h2⟩
/-- Ahead of the last edge. -/
theorem Way.last (h : Way t f x d k s) : 1 ≤ k → ∃ d' s' j, Way t f x d' (k - 1) s' ∧ d = it t j (gn f d') := by
  induction h with
  | here => intro h; omega
  | turn _ ih => intro h; obtain ⟨d', s', j, h1, h2⟩ := ih h; exact ⟨d', s', j + 1, h1, by rw [h2]; rfl⟩
  | @flip d k s h _ => intro _; exact ⟨d, s, 0, h, rfl⟩
theorem far_level (hm : IsMap t f) (hx : x < t.length) : ∀ (m y : Nat), y < t.length → gi (farL t f x) y = m → ∀ v, v ≤ m → ∃ d, d < t.length ∧ gi (farL t f x) d = v
  | 0, y, hy, h, v, hv => ⟨y, hy, by rw [h]; omega⟩
  | m + 1, y, hy, h, v, hv => by
    by_cases e : v = m + 1
    · exact ⟨y, hy, by rw [h, e]⟩
    · obtain ⟨s, hw⟩ := far_way hm hx hy
      obtain ⟨d', s', j, h1, h2⟩ := hw.last (by omega)
      have hd := way_lt hm hx h1
      have hfd : gn f d' < t.length := by rw [hm.len]; exact hm.flip.gn_lt (by rw [← hm.len]; exact hd)
      have a1 := far_le hm hx h1
      have a2 := far_tri hm hx hd hfd
      have a3 := far_flip1 hm hd
      have a4 := (far_iter hm hx hfd j).2
      rw [← h2] at a4
      exact far_level hm hx m d' hd (by omega) v (by omega)
/-- Fewer edges than vertices. -/
theorem far_few (hm : IsMap t f) (hx : x < t.length) (hy : y < t.length) : gi (farL t f x) y < cntV t := by
  obtain ⟨m, hmm⟩ := Int.eq_ofNat_of_zero_le (far_in hm hx hy).1
  obtain ⟨h1, h2, h3⟩ := cyclesL_spec hm.turn
  have hex : ∀ v, v ≤ m → ∃ i, i < (cyclesL t).length ∧ ∃ j, j < ((cyclesL t).getD i []).length ∧ gi (farL t f x) (gn ((cyclesL t).getD i []) j) = v := fun v hv => by
    obtain ⟨d, hd, e⟩ := far_level hm hx m y hy hmm v hv
    obtain ⟨c, hc, j, hj, hjd⟩ := h2 d hd
    obtain ⟨i, hi, rfl⟩ := List.getElem_of_mem hc
    have e2 : (cyclesL t).getD i [] = (cyclesL t)[i] := by simp [List.getD, List.getElem?_eq_getElem hi]
    exact ⟨i, hi, j, by rw [e2]; exact hj, by rw [e2, hjd]; exact e⟩
  have hsame : ∀ i, i < (cyclesL t).length → ∀ j, j < ((cyclesL t).getD i []).length → gi (farL t f x) (gn ((cyclesL t).getD i []) j) = gi (farL t f x) (gn ((cyclesL t).getD i []) 0) := fun i hi j hj => by
    have e2 : (cyclesL t).getD i [] = (cyclesL t)[i] := by simp [List.getD, List.getElem?_eq_getElem hi]
    rw [e2] at hj ⊢
    have hcy := h1 _ (List.getElem_mem hi)
    have h0 := hcy.it j (show 0 < ((cyclesL t)[i]).length by omega)
    rw [Nat.zero_add, Nat.mod_eq_of_lt hj] at h0
    rw [← h0]
    refine (far_iter hm hx ?_ j).2
    exact hcy.lt _ (by omega)
  have hch : ∀ v, ∃ i, v ≤ m → i < (cyclesL t).length ∧ gi (farL t f x) (gn ((cyclesL t).getD i []) 0) = v := fun v => by
    by_cases hv : v ≤ m
    · obtain ⟨i, hi, j, hj, e⟩ := hex v hv
      exact ⟨i, fun _ => ⟨hi, by rw [← hsame i hi j hj]; exact e⟩⟩
    · exact ⟨0, fun h => absurd h hv⟩
  have := nodup_len (cyclesL t).length ((List.range (m + 1)).map fun v => Classical.choose (hch v)) ?_ ?_
  · rw [List.length_map, List.length_range] at this
    rw [hmm, cntV]; omega
  · refine List.pairwise_map.2 ?_
    refine List.Pairwise.imp_of_mem ?_ List.nodup_range
    intro a b ha hb hab e
    have ha' : a ≤ m := by have := List.mem_range.1 ha; omega
    have hb' : b ≤ m := by have := List.mem_range.1 hb; omega
    have q1 := (Classical.choose_spec (hch a) ha').2
    have q2 := (Classical.choose_spec (hch b) hb').2
    rw [e, q2] at q1
    exact hab (by omega)
  · intro i hi
    obtain ⟨v, hv, rfl⟩ := List.mem_map.1 hi
    exact (Classical.choose_spec (hch v) (by have := List.mem_range.1 hv; omega)).1
end
end Go.Proofs.Ytkpjlihkeojpfaa
