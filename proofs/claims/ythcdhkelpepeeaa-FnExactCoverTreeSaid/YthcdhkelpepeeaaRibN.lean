/-
  The sides of a choice and its five numbers, as the model counts them.
-/
import Derived.Test.YthcdhkelpepeeaaRibM
namespace Go.Proofs.Ythcdhkelpepeeaa
open Go.RowKit

theorem cyc_few {p : List Int} (hp : Vld p) : ∀ j, j < (cyclesL p).length → 1 ≤ ((cyclesL p).getD j []).length ∧ ((cyclesL p).getD j []).length ≤ p.length ∧ Cyc p ((cyclesL p).getD j []) := by
  intro j hj
  have hm : (cyclesL p).getD j [] ∈ cyclesL p := by
    have : (cyclesL p).getD j [] = (cyclesL p)[j] := by simp [List.getD, hj]
    rw [this]; exact List.getElem_mem hj
  have hc := (cyclesL_spec hp).1 _ hm
  refine ⟨hc.pos, ?_, hc⟩
  have h2 := nodup_len p.length (((cyclesL p).getD j []).map Int.toNat) (by
    rw [List.Nodup, List.pairwise_iff_getElem]
    intro a b ha hb hab
    simp only [List.length_map] at ha hb
    have h3 := hc.apart a b hab hb
    simp only [gn, gi_eq hb, gi_eq ha] at h3
    simpa using h3) (fun x hx => by
    obtain ⟨a, ha, rfl⟩ := List.mem_map.1 hx
    obtain ⟨i, hi, rfl⟩ := List.getElem_of_mem ha
    have := hc.lt i hi
    simpa only [gn, gi_eq hi] using this)
  simpa using h2

/-- How many of the first k points of a cycle are marked. -/
def onN (c : Nat → Bool) (cy : List Int) : Nat → Nat
  | 0 => 0
  | k + 1 => onN c cy k + if c (gn cy k) = true then 1 else 0
theorem onN_le (c : Nat → Bool) (cy : List Int) : ∀ k, onN c cy k ≤ k
  | 0 => Nat.le_refl _
  | k + 1 => by have := onN_le c cy k; rw [onN]; split <;> omega
theorem onN_zero {c : Nat → Bool} {cy : List Int} : ∀ k, onN c cy k = 0 ↔ ∀ j, j < k → c (gn cy j) = false
  | 0 => ⟨fun _ j hj => absurd hj (by omega), fun _ => rfl⟩
  | k + 1 => by
    rw [onN]
    constructor
    · intro h j hj
      have h0 := (onN_zero (c := c) (cy := cy) k).1 (by omega)
      by_cases e : j = k
      · subst e
        cases hc : c (gn cy j) with
        | false => rfl
        | true => rw [if_pos hc] at h; omega
      · exact h0 j (by omega)
    · intro h
      rw [(onN_zero k).2 (fun j hj => h j (by omega)), h k (by omega), if_neg (by decide)]
/-- How many of the first i cycles have no marked point. -/
def bareTo (cs : List (List Int)) (c : Nat → Bool) : Nat → Nat
  | 0 => 0
  | i + 1 => bareTo cs c i + if onN c (cs.getD i []) (cs.getD i []).length = 0 then 1 else 0
theorem bareTo_le (cs : List (List Int)) (c : Nat → Bool) : ∀ k, bareTo cs c k ≤ k
  | 0 => Nat.le_refl _
  | k + 1 => by have := bareTo_le cs c k; rw [bareTo]; split <;> omega
theorem smCs_snoc (F : Nat → Nat) (x : List Int) : ∀ a : List (List Int), smCs F (a ++ [x]) = smCs F a + smC F x
  | [] => by simp [smCs]
  | y :: a => by rw [List.cons_append, smCs, smCs, smCs_snoc F x a]; omega
theorem smC_bare {t d : List Int} (c : Nat → Bool) (h : Cyc t d) : smC (fun i => ch (BareAt t c i)) d = if onN c d d.length = 0 then 1 else 0 := by
  by_cases h0 : onN c d d.length = 0
  · rw [if_pos h0]
    have hall := (onN_zero d.length).1 h0
    refine smC_one h ?_ ?_
    · obtain ⟨j0, hj0, hmin⟩ := least_at (gn d) d.length h.pos
      refine ⟨j0, hj0, fun k => ?_, fun k => ?_⟩
      · rw [h.it k hj0]; exact hmin _ (Nat.mod_lt _ h.pos)
      · rw [h.it k hj0]; exact hall _ (Nat.mod_lt _ h.pos)
    · intro i j hi hj hPi hPj
      obtain ⟨q, hq⟩ := h.reach hi hj
      obtain ⟨q', hq'⟩ := h.reach hj hi
      have a := hPi.1 q
      have b := hPj.1 q'
      rw [hq] at a
      rw [hq'] at b
      omega
  · rw [if_neg h0]
    refine smC_none fun i hi hb => h0 ((onN_zero d.length).2 fun j hj => ?_)
    obtain ⟨q, hq⟩ := h.reach hi hj
    have := hb.2 q
    rwa [hq] at this
theorem bareTo_all {t : List Int} (ht : Vld t) (c : Nat → Bool) : bareTo (cyclesL t) c (cyclesL t).length = bareN t c := by
  rw [bareN, sum_cycles ht]
  have key : ∀ i, i ≤ (cyclesL t).length → bareTo (cyclesL t) c i = smCs (fun i => ch (BareAt t c i)) ((cyclesL t).take i) := by
    intro i
    induction i with
    | zero => intro _; rfl
    | succ i ih =>
      intro hi
      have hlt : i < (cyclesL t).length := by omega
      have e : (cyclesL t).take (i + 1) = (cyclesL t).take i ++ [(cyclesL t).getD i []] := by
        rw [List.take_add_one, List.getElem?_eq_getElem hlt]
        simp [List.getD, hlt]
      rw [bareTo, ih (by omega), e, smCs_snoc, smC_bare c (cyc_few ht i hlt).2.2]
  have := key _ (Nat.le_refl _)
  rwa [List.take_length] at this

/-- The faces of the first k darts. -/
def facP (t f : List Int) (s k : Nat) : List Int := tab f.length fun d => if d < k ∧ chB f s d = true then (ret (sidL t f s) (chB f s) 12 (gn (sidL t f s) d) : Int) else (d : Int)
theorem facP_len (t f : List Int) (s k : Nat) : (facP t f s k).length = f.length := tab_len _ _
theorem facP_zero (t f : List Int) (s : Nat) : marks 0 f.length = facP t f s 0 := tab_ext (marks_len _ _) fun j hj => by rw [gi_marks hj, if_neg (fun h => by omega)]; omega
theorem facP_all (t f : List Int) (s : Nat) : facP t f s f.length = facS t f s := by
  unfold facP facS retL
  rw [sidL_len]
  refine tab_ext (tab_len _ _) fun j hj => ?_
  rw [gi_tab hj]
  by_cases h : chB f s j = true
  · rw [if_pos ⟨hj, h⟩, if_pos h]
  · rw [if_neg (fun h' => h h'.2), if_neg h]
theorem facP_no {t f : List Int} {s k : Nat} (h : chB f s k = false) : facP t f s (k + 1) = facP t f s k := by
  unfold facP
  congr 1
  funext d
  by_cases hd : d = k
  · rw [if_neg (fun h' => by rw [hd, h] at h'; exact absurd h'.2 (by decide)), if_neg (fun h' => by omega)]
  · have : (d < k + 1 ∧ chB f s d = true) ↔ (d < k ∧ chB f s d = true) := ⟨fun h' => ⟨by omega, h'.2⟩, fun h' => ⟨by omega, h'.2⟩⟩
    simp only [this]
theorem facP_yes {t f : List Int} {s k x : Nat} (h : chB f s k = true) (hk : k < f.length) (hx : ret (sidL t f s) (chB f s) 12 (gn (sidL t f s) k) = x) : (facP t f s k).set k (x : Int) = facP t f s (k + 1) := by
  refine tab_ext (by simp [facP_len]) fun j hj => ?_
  rw [gi_set _ _ _ _ (by rw [facP_len]; exact hk)]
  by_cases h1 : j = k
  · rw [if_pos h1, h1, if_pos ⟨by omega, h⟩, hx]
  · rw [if_neg h1, facP, gi_tab hj]
    have : (j < k + 1 ∧ chB f s j = true) ↔ (j < k ∧ chB f s j = true) := ⟨fun h' => ⟨by omega, h'.2⟩, fun h' => ⟨by omega, h'.2⟩⟩
    simp only [this]

/-- How far the next marked point is. -/
noncomputable def away (p : List Int) (c : Nat → Bool) (x : Nat) : Nat := leastOf fun k => c (it p k x) = true
theorem away_eq {p : List Int} {c : Nat → Bool} {x k : Nat} (h : FirstAt p c x k) : away p c x = k := by
  obtain ⟨h1, h2⟩ := leastOf_spec (p := fun k => c (it p k x) = true) ⟨k, h.1⟩
  have h3 := h2 k h.1
  unfold away
  rcases Nat.lt_or_ge (leastOf fun k => c (it p k x) = true) k with h4 | h4
  · have := h.2 _ h4; rw [h1] at this; exact absurd this (by decide)
  · omega
theorem FirstAt.next {p : List Int} {c : Nat → Bool} {x q : Nat} (h : FirstAt p c x (q + 1)) : c x = false ∧ FirstAt p c (gn p x) q := by
  refine ⟨h.2 0 (by omega), ?_, fun j hj => ?_⟩
  · have := h.1; rwa [it_succ'] at this
  · have := h.2 (j + 1) (by omega); rwa [it_succ'] at this

end Go.Proofs.Ythcdhkelpepeeaa
