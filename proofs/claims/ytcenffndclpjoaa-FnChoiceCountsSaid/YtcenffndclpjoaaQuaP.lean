/-
  Plain: the choice of all edges and that of none: parts, sides, genus.
  All numbers less than n: the laws' own list.
  Plain: how many cycles the chosen edges' flip has, the parity of a choice's sides, one side is one part: what FnChoiceQuasi asks.
-/
import Derived.Test.YtcenffndclpjoaaDelQR
import Derived.Test.YtcenffndclpjoaaRestQ
import Derived.Test.YtcenffndclpjoaaGenus
import Derived.Test.YtcenffndclpjoaaAppI
namespace Go.Proofs.Ytcenffndclpjoaa

/-- All numbers less than n. -/
def allN (n : Nat) : List Int := (List.range n).map fun (i : Nat) => (i : Int)
theorem allN_len (n : Nat) : (allN n).length = n := by simp [allN]
theorem allN_succ (n : Nat) : allN (n + 1) = allN n ++ [(n : Int)] := by simp [allN, List.range_succ]
theorem allN_in : ∀ h : Nat, h < 7 → 2 ^ h - 1 < 64 ∧ 2 ^ h - 1 < 2 ^ h ∧ bL (2 ^ h - 1) = allN h ∧ (∀ j : Nat, j < h → (2 ^ h - 1).testBit j = true) ∧ ascB h (allN h) = true ∧ ascB h [] = true ∧ bL 0 = [] := by decide +kernel
section
variable {t f : List Int}
theorem flip_all (hm : IsMap t f) : flipS f (2 ^ (f.length / 2) - 1) = f := by
  have h12 := hm.flip.2.1
  have hh : lesN f f.length = f.length / 2 := by have := lesN_half hm.flip hm.paired; omega
  refine eq_of_gi (flipS_len _ _) fun d hd => ?_
  rw [flipS_len] at hd
  have hlt := edgN_lt hm.flip hm.paired hd
  rw [hh] at hlt
  rw [gi_flipS hd, if_pos]
  unfold chB
  exact (allN_in (f.length / 2) (by omega)).2.2.2.1 _ hlt
theorem gn_flip_none {y : Nat} (hy : y < f.length) : gn (flipS f 0) y = y := by
  rw [gn_flipS hy, if_neg]
  unfold chB
  simp
theorem pts_all (hm : IsMap t f) : ptsN t f (2 ^ (f.length / 2) - 1) = 1 := by
  rw [ptsN, flip_all hm]
  exact one_part hm.turn hm.flip hm.len hm.turn.1 fun y hy => hm.lead hm.turn.1 hy
theorem sid_all (hm : IsMap t f) : sidN t f (2 ^ (f.length / 2) - 1) = cntF t f := by
  rw [sidN, sidL, flip_all hm]; rfl
theorem sid_none (hm : IsMap t f) : sidN t f 0 = cntV t := by
  rw [sidN, cntV]
  congr 2
  refine eq_of_gi (by rw [sidL_len, hm.len]) fun d hd => ?_
  rw [sidL_len] at hd
  have h : gi (sidL t f 0) d = gi t (gn (flipS f 0) d) := gi_mulL (by rw [flipS_len]; exact hd)
  rw [h, gn_flip_none hd]
theorem pts_none (hm : IsMap t f) : ptsN t f 0 = cntV t := by
  have hq := flipS_vld hm.flip hm.paired 0
  have hl : t.length = (flipS f 0).length := by rw [flipS_len, hm.len]
  rw [ptsN, cntV, ← lows_cycles hm.turn, fixN_sm, lows]
  refine sm_congr _ fun i hi => ch_congr ?_
  have hway : ∀ x y, x < t.length → Lead t (flipS f 0) x y → ∃ k, it t k x = y := fun x y hx h => by
    induction h with
    | refl => exact ⟨0, rfl⟩
    | @one y h ih => obtain ⟨k, rfl⟩ := ih; exact ⟨k + 1, rfl⟩
    | @two y h ih =>
      obtain ⟨k, rfl⟩ := ih
      exact ⟨k, (gn_flip_none (by rw [← hm.len]; exact it_lt hm.turn k hx)).symm⟩
  rw [gi_orbL hi]
  constructor
  · intro e k
    have h1 : Lead t (flipS f 0) i (it t k i) := lead_it i k
    have h2 := h1.sym hm.turn hq hl hi
    have h3 := orb_least h2
    rw [← it_itf]
    omega
  · intro h
    have h1 : Lead t (flipS f 0) (orb t (flipS f 0) i) i := orb_lead
    have hlt : orb t (flipS f 0) i < t.length := Nat.lt_of_le_of_lt orb_le hi
    obtain ⟨k, hk⟩ := hway _ _ hi (h1.sym hm.turn hq hl hlt)
    have h2 := h k
    rw [← it_itf, hk] at h2
    have := orb_le (p := t) (q := flipS f 0) (x := i)
    omega
/-- What FnChoice asks of a map. -/
theorem all_facts (hm : IsMap t f) : ccR t f (allN (f.length / 2)) = (true, [(1 : Int), (cntF t f : Int), (cntV t : Int) - (1 : Nat), (f.length / 2 : Nat) - ((cntV t : Int) - (1 : Nat)), genusOf t f]) ∧ ∃ a2 a3 a4 : Int, ccR t f [] = (true, [(cntV t : Int), (cntV t : Int), a2, a3, a4]) := by
  have h12 := hm.flip.2.1
  obtain ⟨a1, a2, a3, -, a5, a6, a7⟩ := allN_in (f.length / 2) (by omega)
  have hv : chV t f (allN (f.length / 2)) = true := by rw [chV, mapV_iff.2 hm, a5]; rfl
  have hv0 : chV t f [] = true := by rw [chV, mapV_iff.2 hm, a6]; rfl
  refine ⟨?_, ?_⟩
  · rw [ccR, if_pos hv, sOf_eq a1 a3, subL, subI, pts_all hm, sid_all hm, a3, allN_len, genusOf, cntE]
    rfl
  · have e : ccR t f [] = (true, subL t f 0) := by rw [ccR, if_pos hv0, sOf_eq (by decide) a7]
    rw [e, subL, subI, pts_none hm, sid_none hm]
    exact ⟨_, _, _, rfl⟩
end

end Go.Proofs.Ytcenffndclpjoaa

namespace Go.Proofs.Ytcenffndclpjoaa
open Go.RowKit

end Go.Proofs.Ytcenffndclpjoaa

namespace Go.Proofs.Ytcenffndclpjoaa

theorem cyc_par {a b : List Int} (ha : Vld a) (hb : Vld b) (hl : a.length = b.length) : (a.length + (cyclesL (mulL a b)).length + (cyclesL a).length + (cyclesL b).length) % 2 = 0 := by
  have h0 := parity_cycles (ha.mulL hb hl)
  have h1 := parity_cycles ha
  have h2 := parity_cycles hb
  have h := invs_mul ha.prm (by rw [hl]; exact hb.prm : Prm a.length (gn b))
  rw [mulL_len, invs_congr a.length (f := gn (mulL a b)) (g := fun i => gn b (gn a i)) (fun i hi => gn_mulL hi)] at h0
  rw [← hl] at h2
  omega
section
variable {t f : List Int}
theorem flipS_cycles (hf : Vld f) (hp : Paired f) {s : Nat} (h6 : f.length / 2 ≤ 6) (hs : s < 2 ^ (f.length / 2)) : (cyclesL (flipS f s)).length + (bL s).length = f.length := by
  have hv := flipS_vld hf hp s
  have hL : lesN f f.length = f.length / 2 := by have := lesN_half hf hp; omega
  have h1 := cntS hf hp s
  have h2 := sm_flip hf hp (fun d => chB f s d = true) (fun d hd => by rw [chB_flip hp s hd])
  have h3 := bL_len h6 hs
  rw [hL] at h1
  have h4 : sm f.length (fun d => ch (chB f s d = true)) = sm f.length (fun d => ch (chB f s d = true ∧ d < gn f d)) + sm f.length (fun d => ch (chB f s d = true ∧ gn f d < d)) := by
    rw [← sm_add]
    refine sm_congr _ fun d hd => ?_
    have hne := (hp d hd).1
    by_cases hc : chB f s d = true
    · by_cases hlt : d < gn f d
      · rw [ch_true hc, ch_true ⟨hc, hlt⟩, ch_false (fun h => by omega)]
      · rw [ch_true hc, ch_false (fun h => hlt h.2), ch_true ⟨hc, by omega⟩]
    · rw [ch_false hc, ch_false (fun h => hc h.1), ch_false (fun h => hc h.1)]
  have h5 : (cyclesL (flipS f s)).length + sm f.length (fun d => ch (chB f s d = true ∧ gn f d < d)) = f.length := by
    rw [← lows_cycles hv, lows, flipS_len, ← sm_add]
    have e : sm f.length (fun _ => 1) = f.length := by rw [sm_const, Nat.mul_one]
    refine Eq.trans (sm_congr _ fun d hd => ?_) e
    have hg := gn_flipS (f := f) (s := s) hd
    by_cases hc : chB f s d = true
    · rw [if_pos hc] at hg
      have hd' := hf.gn_lt hd
      have hg' : gn (flipS f s) (gn f d) = d := by rw [gn_flipS hd', if_pos (by rw [chB_flip hp s hd]; exact hc), (hp d hd).2]
      have hk : ∀ k, itf (gn (flipS f s)) k d = d ∨ itf (gn (flipS f s)) k d = gn f d := by
        intro k
        induction k with
        | zero => exact .inl rfl
        | succ k ih => rcases ih with ih | ih <;> rw [itf, ih]
                       · exact .inr hg
                       · exact .inl hg'
      by_cases hlt : gn f d < d
      · rw [ch_false (P := ∀ k, d ≤ itf (gn (flipS f s)) k d) (fun h => by have := h 1; rw [itf, itf, hg] at this; omega), ch_true ⟨hc, hlt⟩]
      · rw [ch_false (P := _ ∧ _) (fun h => hlt h.2), ch_true fun k => by rcases hk k with e | e <;> rw [e] <;> omega]
    · rw [if_neg hc] at hg
      rw [ch_false (P := _ ∧ _) (fun h => hc h.1), ch_true]
      intro k
      have : ∀ k, itf (gn (flipS f s)) k d = d := by
        intro k
        induction k with
        | zero => rfl
        | succ k ih => rw [itf, ih, hg]
      rw [this k]; exact Nat.le_refl _
  omega
theorem sidN_par (hm : IsMap t f) {s : Nat} (h6 : f.length / 2 ≤ 6) (hs : s < 2 ^ (f.length / 2)) : (sidN t f s + (bL s).length + cntV t) % 2 = 0 := by
  have hv := flipS_vld hm.flip hm.paired s
  have h1 := cyc_par hv hm.turn (by rw [flipS_len, hm.len])
  have h2 := flipS_cycles hm.flip hm.paired h6 hs
  rw [flipS_len] at h1
  unfold sidN cntV sidL
  omega
theorem one_side (hm : IsMap t f) {s : Nat} (h : sidN t f s = 1) : ptsN t f s = 1 := by
  have hv := flipS_vld hm.flip hm.paired s
  have hs := sidL_vld hm s
  have hl : t.length = (flipS f s).length := by rw [flipS_len, hm.len]
  have h0 : 0 < t.length := hm.turn.1
  have hway : ∀ k, Lead t (flipS f s) 0 (it (sidL t f s) k 0) ∧ it (sidL t f s) k 0 < f.length := by
    intro k
    induction k with
    | zero => exact ⟨.refl _, by rw [← hm.len]; exact h0⟩
    | succ k ih =>
      have hx : it (sidL t f s) (k + 1) 0 = gn t (gn (flipS f s) (it (sidL t f s) k 0)) := by
        show gn (sidL t f s) (it (sidL t f s) k 0) = _
        unfold sidL
        rw [gn_mulL (by rw [flipS_len]; exact ih.2)]
      rw [hx]
      have hq : gn (flipS f s) (it (sidL t f s) k 0) < f.length := by
        have := hv.gn_lt (j := it (sidL t f s) k 0) (by rw [flipS_len]; exact ih.2); rwa [flipS_len] at this
      exact ⟨.one (.two ih.1), by have := hm.turn.gn_lt (j := gn (flipS f s) (it (sidL t f s) k 0)) (by rw [hm.len]; exact hq); rwa [hm.len] at this⟩
  refine one_part hm.turn hv hl h0 fun y hy => ?_
  obtain ⟨c1, c2, -⟩ := cyclesL_spec hs
  obtain ⟨c, hc⟩ := List.length_eq_one_iff.1 h
  rw [hc] at c1 c2
  have hcy := c1 c (by simp)
  have hin : ∀ x, x < f.length → inC c x := fun x hx => by
    obtain ⟨d, hd, hi⟩ := c2 x (by rw [sidL_len]; exact hx)
    rw [List.mem_singleton] at hd
    exact hd ▸ hi
  obtain ⟨i, hi, e0⟩ := hin 0 (by rw [← hm.len]; exact h0)
  obtain ⟨j, hj, rfl⟩ := hin y (by rw [← hm.len]; exact hy)
  obtain ⟨k, hk⟩ := hcy.reach hi hj
  have := (hway k).1
  rwa [← e0, hk, e0] at this
/-- What FnChoiceQuasi asks of a choice. -/
theorem quasi_facts {xs : List Int} (h : chV t f xs = true) (hq : quasiS (subL t f (sOf xs)) = true) :
    ∃ r : Nat, ∃ a2 a3 own b2 b3 other : Int, IsMap t f ∧ f.length / 2 ≤ 6 ∧ chRestR t f xs = (true, bL r) ∧ ccR t f xs = (true, [1, 1, a2, a3, own]) ∧ ccR (mulL f t) f (bL r) = (true, [1, 1, b2, b3, other]) ∧ chV (mulL f t) f (bL r) = true ∧ quasiS (subL (mulL f t) f (sOf (bL r))) = true ∧
      (xs.length : Int) = cntV t - 1 + 2 * own ∧ own + other = genusOf t f ∧ -20 ≤ own ∧ own ≤ 20 ∧ -20 ≤ other ∧ other ≤ 20 ∧ xs.length + (bL r).length = f.length / 2 ∧ r < 64 := by
  obtain ⟨hm, h6, s, h1, rfl, h64, e⟩ := chV_bits h
  obtain ⟨r1, r2, r3, r4, r5, r6⟩ := rest_bit (f.length / 2) (by omega) s h64 h1
  have hr := rest_list (by omega) h1 h64
  have hvd : chV (mulL f t) f (bL (2 ^ (f.length / 2) - 1 - s)) = true := by
    rw [chV, mapV_iff.2 hm.dual, (rest_bit (f.length / 2) (by omega) _ r2 r1).2.2.2.2.1]; rfl
  rw [e] at hq
  have hs1 : sidN t f s = 1 := by
    rw [quasiS, Bool.and_eq_true] at hq
    have := hq.2
    rw [subL, subI] at this
    have : ((sidN t f s : Int) == 1) = true := this
    have := eq_of_beq this
    omega
  have hp1 := one_side hm hs1
  have hsd : sidN (mulL f t) f (2 ^ (f.length / 2) - 1 - s) = 1 := by rw [sidN_dual hm h1 h64, hs1]
  have hpd := one_side hm.dual hsd
  have p1 := sidN_par hm h6 h1
  have p2 := sidN_par hm.dual h6 r1
  rw [hs1] at p1
  rw [hsd] at p2
  have hF : cntV (mulL f t) = cntF t f := rfl
  rw [hF] at p2
  have hv12 : cntV t ≤ 12 := by have := cyclesL_len (p := t); have := hm.turn.2.1; unfold cntV; omega
  have hf12 : cntF t f ≤ 12 := by have := cyclesL_len (p := mulL f t); have := hm.dual.turn.2.1; unfold cntF; omega
  generalize hR : 2 ^ (f.length / 2) - 1 - s = r at *
  have td : ∀ x k : Int, x = 2 * k → x.tdiv 2 = k := fun x k h => by rw [h, Int.mul_tdiv_cancel_left _ (by decide)]
  obtain ⟨k1, hk1⟩ : ∃ k : Int, (2 * (1 : Nat) : Int) - cntV t + (bL s).length - (1 : Nat) = 2 * k := ⟨((2 * (1 : Nat) : Int) - cntV t + (bL s).length - (1 : Nat)) / 2, by omega⟩
  obtain ⟨k2, hk2⟩ : ∃ k : Int, (2 * (1 : Nat) : Int) - cntF t f + (bL r).length - (1 : Nat) = 2 * k := ⟨((2 * (1 : Nat) : Int) - cntF t f + (bL r).length - (1 : Nat)) / 2, by omega⟩
  have hg : genusOf t f = k1 + k2 := by rw [genusOf, cntE]; exact td _ _ (by omega)
  have t1 := td _ _ hk1
  have t2 := td _ _ hk2
  refine ⟨r, (cntV t : Int) - (1 : Nat), ((bL s).length : Int) - ((cntV t : Int) - (1 : Nat)), ((2 * (1 : Nat) : Int) - cntV t + (bL s).length - (1 : Nat)).tdiv 2, (cntF t f : Int) - (1 : Nat), ((bL r).length : Int) - ((cntF t f : Int) - (1 : Nat)), ((2 * (1 : Nat) : Int) - cntF t f + (bL r).length - (1 : Nat)).tdiv 2, hm, h6, ?_, ?_, ?_, hvd, ?_, ?_, ?_, ?_, ?_, ?_, ?_, r6, r2⟩
  · rw [chRestR, chRestR', if_pos h, hr]
  · rw [ccR, if_pos h, e, subL, hp1, hs1, subI]; rfl
  · rw [ccR, if_pos hvd, sOf_eq r2 rfl, subL, hpd, hsd, subI]; rfl
  · rw [sOf_eq r2 rfl, subL, hpd, hsd, subI]; rfl
  · rw [t1]; omega
  · rw [t1, t2, hg]
  · rw [t1]; omega
  · rw [t1]; omega
  · rw [t2]; omega
  · rw [t2]; omega
end

end Go.Proofs.Ytcenffndclpjoaa
