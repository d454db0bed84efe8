/-
  Plain: how many cycles the chosen edges' flip has, the parity of a choice's sides, one side is one part: what FnChoiceQuasi asks.
-/
import Derived.Test.YtcenffndclpjoaaAllOf
namespace Go.Proofs.Ytcenffndclpjoaa

theorem cyc_par {a b : List Int} (ha : Vld a) (hb : Vld b) (hl : a.length = b.length) : (a.length + (cyclesL (mulL a b)).length + (cyclesL a).length + (cyclesL b).length) % 2 = 0 := by
  have h0 := parity_cycles (ha.mulL hb hl)
  have h1 := parity_cycles ha
  have h2 := parity_cycles hb
  have h := invs_mul ha.prm (by rw [hl]; exact hb.prm : Prm a.length (gn b))
  rw [mulL_len, invs_congr a.length (f := gn (mulL a b)) (g := fun i => gn b (gn a i)) (fun i hi => gn_mulL hi)] at h0
  rw [← hl] at h2
  omega
section
variable {t f : List Int}
theorem flipS_cycles (hf : Vld f) (hp : Paired f) {s : Nat} (h6 : f.length / 2 ≤ 6) (hs : s < 2 ^ (f.length / 2)) : (cyclesL (flipS f s)).length + (bL s).length = f.length := by
  have hv := flipS_vld hf hp s
  have hL : lesN f f.length = f.length / 2 := by have := lesN_half hf hp; omega
  have h1 := cntS hf hp s
  have h2 := sm_flip hf hp (fun d => chB f s d = true) (fun d hd => by rw [chB_flip hp s hd])
  have h3 := bL_len h6 hs
  rw [hL] at h1
  have h4 : sm f.length (fun d => ch (chB f s d = true)) = sm f.length (fun d => ch (chB f s d = true ∧ d < gn f d)) + sm f.length (fun d => ch (chB f s d = true ∧ gn f d < d)) := by
    rw [← sm_add]
    refine sm_congr _ fun d hd => ?_
    have hne := (hp d hd).1
    by_cases hc : chB f s d = true
    · by_cases hlt : d < gn f d
      · rw [ch_true hc, ch_true ⟨hc, hlt⟩, ch_false (fun h => by omega)]
      · rw [ch_true hc, ch_false (fun h => hlt h.2), ch_true ⟨hc, by omega⟩]
    · rw [ch_false hc, ch_false (fun h => hc h.1), ch_false (fun h => hc h.1)]
  have h5 : (cyclesL (flipS f s)).length + sm f.length (fun d => ch (chB f s d = true ∧ gn f d < d)) = f.length := by
    rw [← lows_cycles hv, lows, flipS_len, ← sm_add]
    have e : sm f.length (fun _ => 1) = f.length := by rw [sm_const, Nat.mul_one]
    refine Eq.trans (sm_congr _ fun d hd => ?_) e
    have hg := gn_flipS (f := f) (s := s) hd
    by_cases hc : chB f s d = true
    · rw [if_pos hc] at hg
      have hd' := hf.gn_lt hd
      have hg' : gn (flipS f s) (gn f d) = d := by rw [gn_flipS hd', if_pos (by rw [chB_flip hp s hd]; exact hc), (hp d hd).2]
      have hk : ∀ k, itf (gn (flipS f s)) k d = d ∨ itf (gn (flipS f s)) k d = gn f d := by
        intro k
        induction k with
        | zero => exact .inl rfl
        | succ k ih => rcases ih with ih | ih <;> rw [itf, ih]
                       · exact .inr hg
                       · exact .inl hg'
      by_cases hlt : gn f d < d
      · rw [ch_false (P := ∀ k, d ≤ itf (gn (flipS f s)) k d) (fun h => by have := h 1; rw [itf, itf, hg] at this; omega), ch_true ⟨hc, hlt⟩]
      · rw [ch_false (P := _ ∧ _) (fun h => hlt h.2), ch_true fun k => by rcases hk k with e | e <;> rw [e] <;> omega]
    · rw [if_neg hc] at hg
      rw [ch_false (P := _ ∧ _) (fun h => hc h.1), ch_true]
      intro k
      have : ∀ k, itf (gn (flipS f s)) k d = d := by
        intro k
        induction k with
        | zero => rfl
        | succ k ih => rw [itf, ih, hg]
      rw [this k]; exact Nat.le_refl _
  omega
theorem sidN_par (hm : IsMap t f) {s : Nat} (h6 : f.length / 2 ≤ 6) (hs : s < 2 ^ (f.length / 2)) : (sidN t f s + (bL s).length + cntV t) % 2 = 0 := by
  have hv := flipS_vld hm.flip hm.paired s
  have h1 := cyc_par hv hm.turn (by rw [flipS_len, hm.len])
  have h2 := flipS_cycles hm.flip hm.paired h6 hs
  rw [flipS_len] at h1
  unfold sidN cntV sidL
  omega
theorem one_side (hm : IsMap t f) {s : Nat} (h : sidN t f s = 1) : ptsN t f s = 1 := by
  have hv := flipS_vld hm.flip hm.paired s
  have hs := sidL_vld hm s
  have hl : t.length = (flipS f s).length := by rw [flipS_len, hm.len]
  have h0 : 0 < t.length := hm.turn.1
  have hway : ∀ k, Lead t (flipS f s) 0 (it (sidL t f s) k 0) ∧ it (sidL t f s) k 0 < f.length := by
    intro k
    induction k with
    | zero => exact ⟨.refl _, by rw [← hm.len]; exact h0⟩
    | succ k ih =>
      have hx : it (sidL t f s) (k + 1) 0 = gn t (gn (flipS f s) (it (sidL t f s) k 0)) := by
        show gn (sidL t f s) (it (sidL t f s) k 0) = _
        unfold sidL
        rw [gn_mulL (by rw [flipS_len]; exact ih.2)]
      rw [hx]
      have hq : gn (flipS f s) (it (sidL t f s) k 0) < f.length := by
        have := hv.gn_lt (j := it (sidL t f s) k 0) (by rw [flipS_len]; exact ih.2); rwa [flipS_len] at this
      exact ⟨.one (.two ih.1), by have := hm.turn.gn_lt (j := gn (flipS f s) (it (sidL t f s) k 0)) (by rw [hm.len]; exact hq); rwa [hm.len] at this⟩
  refine one_part hm.turn hv hl h0 fun y hy => ?_
  obtain ⟨c1, c2, -⟩ := cyclesL_spec hs
  obtain ⟨c, hc⟩ := List.length_eq_one_iff.1 h
  rw [hc] at c1 c2
  have hcy := c1 c (by simp)
  have hin : ∀ x, x < f.length → inC c x := fun x hx => by
    obtain ⟨d, hd, hi⟩ := c2 x (by rw [sidL_len]; exact hx)
    rw [List.mem_singleton] at hd
    exact hd ▸ hi
  obtain ⟨i, hi, e0⟩ := hin 0 (by rw [← hm.len]; exact h0)
  obtain ⟨j, hj, rfl⟩ := hin y (by rw [← hm.len]; exact hy)
  obtain ⟨k, hk⟩ := hcy.reach hi hj
  have := (hway k).1
  rwa [← e0, hk, e0] at this
/-- What FnChoiceQuasi asks of a choice. -/
theorem quasi_facts {xs : List Int} (h : chV t f xs = true) (hq : quasiS (subL t f (sOf xs)) = true) :
    ∃ r : Nat, ∃ a2 a3 own b2 b3 other : Int, IsMap t f ∧ f.length / 2 ≤ 6 ∧ chRestR t f xs = (true, bL r) ∧ ccR t f xs = (true, [1, 1, a2, a3, own]) ∧ ccR (mulL f t) f (bL r) = (true, [1, 1, b2, b3, other]) ∧ chV (mulL f t) f (bL r) = true ∧ quasiS (subL (mulL f t) f (sOf (bL r))) = true ∧
      (xs.length : Int) = cntV t - 1 + 2 * own ∧ own + other = genusOf t f ∧ -20 ≤ own ∧ own ≤ 20 ∧ -20 ≤ other ∧ other ≤ 20 ∧ xs.length + (bL r).length = f.length / 2 ∧ r < 64 := by
  obtain ⟨hm, h6, s, h1, rfl, h64, e⟩ := chV_bits h
  obtain ⟨r1, r2, r3, r4, r5, r6⟩ := rest_bit (f.length / 2) (by omega) s h64 h1
  have hr := rest_list (by omega) h1 h64
  have hvd : chV (mulL f t) f (bL (2 ^ (f.length / 2) - 1 - s)) = true := by
    rw [chV, mapV_iff.2 hm.dual, (rest_bit (f.length / 2) (by omega) _ r2 r1).2.2.2.2.1]; rfl
  rw [e] at hq
  have hs1 : sidN t f s = 1 := by
    rw [quasiS, Bool.and_eq_true] at hq
    have := hq.2
    rw [subL, subI] at this
    have : ((sidN t f s : Int) == 1) = true := this
    have := eq_of_beq this
    omega
  have hp1 := one_side hm hs1
  have hsd : sidN (mulL f t) f (2 ^ (f.length / 2) - 1 - s) = 1 := by rw [sidN_dual hm h1 h64, hs1]
  have hpd := one_side hm.dual hsd
  have p1 := sidN_par hm h6 h1
  have p2 := sidN_par hm.dual h6 r1
  rw [hs1] at p1
  rw [hsd] at p2
  have hF : cntV (mulL f t) = cntF t f := rfl
  rw [hF] at p2
  have hv12 : cntV t ≤ 12 := by have := cyclesL_len (p := t); have := hm.turn.2.1; unfold cntV; omega
  have hf12 : cntF t f ≤ 12 := by have := cyclesL_len (p := mulL f t); have := hm.dual.turn.2.1; unfold cntF; omega
  generalize hR : 2 ^ (f.length / 2) - 1 - s = r at *
  have td : ∀ x k : Int, x = 2 * k → x.tdiv 2 = k := fun x k h => by rw [h, Int.mul_tdiv_cancel_left _ (by decide)]
  obtain ⟨k1, hk1⟩ : ∃ k : Int, (2 * (1 : Nat) : Int) - cntV t + (bL s).length - (1 : Nat) = 2 * k := ⟨((2 * (1 : Nat) : Int) - cntV t + (bL s).length - (1 : Nat)) / 2, by omega⟩
  obtain ⟨k2, hk2⟩ : ∃ k : Int, (2 * (1 : Nat) : Int) - cntF t f + (bL r).length - (1 : Nat) = 2 * k := ⟨((2 * (1 : Nat) : Int) - cntF t f + (bL r).length - (1 : Nat)) / 2, by omega⟩
  have hg : genusOf t f = k1 + k2 := by rw [genusOf, cntE]; exact td _ _ (by omega)
  have t1 := td _ _ hk1
  have t2 := td _ _ hk2
  refine ⟨r, (cntV t : Int) - (1 : Nat), ((bL s).length : Int) - ((cntV t : Int) - (1 : Nat)), ((2 * (1 : Nat) : Int) - cntV t + (bL s).length - (1 : Nat)).tdiv 2, (cntF t f : Int) - (1 : Nat), ((bL r).length : Int) - ((cntF t f : Int) - (1 : Nat)), ((2 * (1 : Nat) : Int) - cntF t f + (bL r).length - (1 : Nat)).tdiv 2, hm, h6, ?_, ?_, ?_, hvd, ?_, ?_, ?_, ?_, ?_, ?_, ?_, r6, r2⟩
  · rw [chRestR, chRestR', if_pos h, hr]
  · rw [ccR, if_pos h, e, subL, hp1, hs1, subI]; rfl
  · rw [ccR, if_pos hvd, sOf_eq r2 rfl, subL, hpd, hsd, subI]; rfl
  · rw [sOf_eq r2 rfl, subL, hpd, hsd, subI]; rfl
  · rw [t1]; omega
  · rw [t1, t2, hg]
  · rw [t1]; omega
  · rw [t1]; omega
  · rw [t2]; omega
  · rw [t2]; omega
end

end Go.Proofs.Ytcenffndclpjoaa
