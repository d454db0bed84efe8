/-
  EdgeKind: the model's and the program's. Without one edge a map has one part or two.
-/
import Derived.Test.YtimgpehibkjgkaaVtx
import Derived.Test.YtimgpehibkjgkaaRibC
import Derived.Test.YtimgpehibkjgkaaL7D
import Derived.Deep.RegionHeld3
import Derived.Deep.RegionWith
namespace Go.Proofs.Ytimgpehibkjgkaa
open Go.RowKit

/-! ### Plain -/
theorem fixN_sm (xs : List Int) : ∀ k, fixN xs k = sm k fun i => ch (gi xs i = (i : Int))
  | 0 => rfl
  | k + 1 => by
    rw [fixN, sm, fixN_sm xs k]
    by_cases h : gi xs k = (k : Int)
    · rw [if_pos h, ch_true h]
    · rw [if_neg h, ch_false h]
theorem sm_at_most {n a : Nat} : sm n (fun i => ch (i = a)) ≤ 1 := by
  by_cases h : a < n
  · rw [sm_one n h (fun k _ hne => ch_false hne)]; exact ch_le _
  · rw [sm_congr (G := fun _ => 0) n (fun i hi => ch_false (by omega)), sm_zero]; omega
theorem parts_two {t f : List Int} (hm : IsMap t f) {d s : Nat} (hd : d < f.length) (hs : ∀ y, y < f.length → chB f s y = false → edgN f y = edgN f d) : ptsN t f s = 1 ∨ ptsN t f s = 2 := by
  have hl := hm.len
  have hq := flipS_vld hm.flip hm.paired s
  have hql : t.length = (flipS f s).length := by rw [flipS_len, hl]
  have key : ∀ y, Lead t f d y → Lead t (flipS f s) d y ∨ Lead t (flipS f s) (gn f d) y := by
    intro y h
    have hlt : ∀ {y}, Lead t f d y → y < f.length := fun h => by rw [← hl]; exact h.lt hm.turn hm.flip hl (by rw [hl]; exact hd)
    induction h with
    | refl => exact .inl (.refl _)
    | one h' ih =>
      rcases ih with ih | ih
      · exact .inl (.one ih)
      · exact .inr (.one ih)
    | two h' ih =>
      rename_i u
      have hu := hlt h'
      cases hc : chB f s u with
      | true =>
        have e : gn (flipS f s) u = gn f u := by rw [gn_flipS hu, if_pos hc]
        rw [← e]
        rcases ih with ih | ih
        · exact .inl (.two ih)
        · exact .inr (.two ih)
      | false =>
        rcases edgN_inj hm.flip hm.paired hd hu (hs u hu hc).symm with h | h
        · rw [h]; exact .inr (.refl _)
        · rw [h, (hm.paired d hd).2]; exact .inl (.refl _)
  have hdt : d < t.length := by rw [hl]; exact hd
  have hfd : gn f d < t.length := by rw [hl]; exact hm.flip.gn_lt hd
  have horb : ∀ y, y < t.length → orb t (flipS f s) y = orb t (flipS f s) d ∨ orb t (flipS f s) y = orb t (flipS f s) (gn f d) := by
    intro y hy
    rcases key y (hm.lead hdt hy) with h | h
    · exact .inl (orb_eq hm.turn hq hql h hdt)
    · exact .inr (orb_eq hm.turn hq hql h hfd)
  have h1 : ptsN t f s = sm t.length fun i => ch (orb t (flipS f s) i = i) := by
    rw [ptsN, fixN_sm]
    refine sm_congr _ fun i hi => ch_congr ?_
    rw [gi_orbL hi]
    exact ⟨fun h => by omega, fun h => by omega⟩
  have h2 : ptsN t f s ≤ 2 := by
    rw [h1]
    refine Nat.le_trans (sm_le (G := fun i => ch (i = orb t (flipS f s) d) + ch (i = orb t (flipS f s) (gn f d))) _ fun i hi => ?_) ?_
    · by_cases h : orb t (flipS f s) i = i
      · rw [ch_true h]
        rcases horb i hi with h' | h'
        · rw [ch_true (h.symm.trans h')]; omega
        · rw [ch_true (P := i = orb t (flipS f s) (gn f d)) (h.symm.trans h')]; omega
      · rw [ch_false h]; omega
    · rw [sm_add]
      have a1 := sm_at_most (n := t.length) (a := orb t (flipS f s) d)
      have a2 := sm_at_most (n := t.length) (a := orb t (flipS f s) (gn f d))
      omega
  have h3 : 1 ≤ ptsN t f s := by
    rw [h1]
    have hlt : orb t (flipS f s) d < t.length := Nat.lt_of_le_of_lt orb_le hdt
    have := sm_le (F := fun i => ch (i = orb t (flipS f s) d)) (G := fun i => ch (orb t (flipS f s) i = i)) t.length (fun i _ => by
      by_cases h : i = orb t (flipS f s) d
      · rw [ch_true h, ch_true]
        · exact Nat.le_refl _
        · rw [h]; exact orb_orb hm.turn hq hql hdt
      · rw [ch_false h]; omega)
    rw [sm_one t.length hlt (fun k _ hne => ch_false hne), ch_true rfl] at this
    exact this
  omega
/-- The lesser dart of an edge. -/
def dE (f : List Int) (e : Nat) : Nat := gn (lesPre f f.length) e
theorem dE_of {f : List Int} (hf : Vld f) (hp : Paired f) {e : Nat} (he : e < f.length / 2) : dE f e < f.length ∧ dE f e < gn f (dE f e) ∧ lesN f (dE f e) = e ∧ gi (lesPre f f.length) e = (dE f e : Int) := by
  have hh : lesN f f.length = f.length / 2 := by have := lesN_half hf hp; omega
  obtain ⟨d, h1, h2, h3⟩ := lesPre_find (f := f) (k := f.length) (e := e) (by rw [hh]; exact he)
  have := lesPre_at h2 h1
  rw [h3] at this
  have e1 : dE f e = d := gn_of this
  rw [e1]
  exact ⟨h1, h2, h3, this⟩
/-- All edges but one. -/
def butE (h e : Nat) : Nat := 2 ^ h - 1 - 2 ^ e
theorem but_in : ∀ h : Nat, h < 7 → ∀ e : Nat, e < h → butE h e < 2 ^ h ∧ butE h e < 64 ∧ bL (2 ^ e) = [(e : Int)] ∧ 2 ^ e < 2 ^ h ∧ (∀ j : Nat, j < 7 → (butE h e).testBit j = (decide (j < h) && decide (j ≠ e))) ∧ bits BinOp.andNot IntKind.u64 ((2 ^ h - 1 : Nat) : Int) (IntKind.u64.wrap (2 ^ min e 64)) = (butE h e : Int) := by decide +kernel
theorem rest_one {h e : Nat} (hh : h < 7) (he : e < h) : restP [(e : Int)] h = bL (butE h e) := by
  obtain ⟨b1, b2, b3, b4, -, -⟩ := but_in h hh e he
  have h64 : 2 ^ e < 64 := lt_of_pow b4 (by omega)
  rw [← b3, rest_bits h64 h (by omega), ← (rest_in h hh _ h64 b4).2.1]; rfl
theorem but_parts {t f : List Int} (hm : IsMap t f) {e : Nat} (he : e < f.length / 2) : ptsN t f (butE (f.length / 2) e) = 1 ∨ ptsN t f (butE (f.length / 2) e) = 2 := by
  obtain ⟨d1, d2, d3, -⟩ := dE_of hm.flip hm.paired he
  have h12 := hm.flip.2.1
  have hh : lesN f f.length = f.length / 2 := by have := lesN_half hm.flip hm.paired; omega
  refine parts_two hm d1 fun y hy hc => ?_
  rw [edgN_less d2, d3]
  have hlt := edgN_lt hm.flip hm.paired hy
  rw [hh] at hlt
  unfold chB at hc
  rw [(but_in (f.length / 2) (by omega) e he).2.2.2.2.1 _ (by omega)] at hc
  by_cases h : edgN f y = e
  · exact h
  · simp [hlt, h] at hc
noncomputable def kindE (t f : List Int) (e : Nat) : Int := if vertN t (dE f e) = vertN t (gn f (dE f e)) then 2 else (ptsN t f (butE (f.length / 2) e) : Int) - 1
noncomputable def kdR (t f : List Int) (x : Int) : Int := if mapV t f = true ∧ hasEB (f.length / 2) x = true then kindE t f x.toNat else -1
theorem chV_one {t f : List Int} (hm : IsMap t f) {e : Nat} (he : e < f.length / 2) : chV t f [(e : Int)] = true := by
  rw [chV, mapV_iff.2 hm, ascB_true, Bool.true_and]
  intro i hi
  have : i = 0 := by simp at hi; omega
  subst this
  exact inB_true (by show (-1 : Int) + 1 ≤ gi [(e : Int)] 0; simp [gi]) (by show gi [(e : Int)] 0 ≤ _; simp [gi]; omega)
theorem vertN_le {t : List Int} (ht : Vld t) {d : Nat} (hd : d < t.length) : vertN t d ≤ 12 := by
  obtain ⟨h1, h2, h3⟩ := cyclesL_spec ht
  obtain ⟨c, hc, hcd⟩ := h2 d hd
  obtain ⟨j, hj, rfl⟩ := List.getElem_of_mem hc
  have hgd : (cyclesL t).getD j [] = (cyclesL t)[j] := by simp [List.getD, hj]
  obtain ⟨⟨k1, _⟩, _⟩ := leastOf_spec (p := fun j => j < (cyclesL t).length ∧ inC ((cyclesL t).getD j []) d) ⟨j, hj, by rw [hgd]; exact hcd⟩
  have := cyclesL_len (p := t)
  have := ht.2.1
  unfold vertN
  omega

end Go.Proofs.Ytimgpehibkjgkaa
