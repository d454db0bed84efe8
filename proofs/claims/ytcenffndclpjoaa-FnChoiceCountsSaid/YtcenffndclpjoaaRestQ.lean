/-
  Plain: the rest of a choice in the dual map: as many sides; the rest of the rest; what both are as choices.
-/
import Derived.Test.YtcenffndclpjoaaRibC
import Derived.Test.YtcenffndclpjoaaPar3
namespace Go.Proofs.Ytcenffndclpjoaa

theorem rest_bit : ∀ h : Nat, h < 7 → ∀ s : Nat, s < 64 → s < 2 ^ h → 2 ^ h - 1 - s < 2 ^ h ∧ 2 ^ h - 1 - s < 64 ∧ 2 ^ h - 1 - (2 ^ h - 1 - s) = s ∧ (∀ j : Nat, j < h → (2 ^ h - 1 - s).testBit j = !s.testBit j) ∧ ascB h (bL s) = true ∧ (bL s).length + (bL (2 ^ h - 1 - s)).length = h := by decide +kernel
theorem rest_list {h s : Nat} (hh : h < 7) (hs : s < 2 ^ h) (h64 : s < 64) : restP (bL s) h = bL (2 ^ h - 1 - s) := by
  rw [rest_bits h64 h (by omega), ← (rest_in h hh s h64 hs).2.1]
section
variable {t f : List Int}
theorem rest_chB (hm : IsMap t f) {s : Nat} (hs : s < 2 ^ (f.length / 2)) (h64 : s < 64) {d : Nat} (hd : d < f.length) : chB f (2 ^ (f.length / 2) - 1 - s) d = !chB f s d := by
  have h12 := hm.flip.2.1
  have hh : lesN f f.length = f.length / 2 := by have := lesN_half hm.flip hm.paired; omega
  have hlt := edgN_lt hm.flip hm.paired hd
  rw [hh] at hlt
  exact (rest_bit (f.length / 2) (by omega) s h64 hs).2.2.2.1 _ hlt
/-- The sides of a choice are those of the rest in the dual map. -/
theorem sidL_dual (hm : IsMap t f) {s r : Nat} (h : ∀ d, d < f.length → chB f r d = !chB f s d) : sidL (mulL f t) f r = sidL t f s := by
  refine eq_of_gi (by rw [sidL_len, sidL_len]) fun d hd => ?_
  rw [sidL_len] at hd
  have h1 : gn (sidL (mulL f t) f r) d = gn (sidL t f s) d := by
    have hphi : ∀ {x : Nat}, x < f.length → gn (mulL f t) x = gn t (gn f x) := fun {x} hx => by
      have : gi (mulL f t) x = gi t (gn f x) := gi_mulL hx
      unfold gn; unfold gn at this; rw [this]
    rw [gn_sidL r hd, gn_sidL s hd, h d hd, hphi hd, hphi (hm.flip.gn_lt hd), (hm.paired d hd).2]
    cases chB f s d <;> rfl
  have v1 := sidL_vld hm.dual r
  have v2 := sidL_vld hm s
  have g1 := v1.gi_gn (j := d) (by rw [sidL_len]; exact hd)
  have g2 := v2.gi_gn (j := d) (by rw [sidL_len]; exact hd)
  rw [g1, g2, h1]
theorem sidN_dual (hm : IsMap t f) {s : Nat} (hs : s < 2 ^ (f.length / 2)) (h64 : s < 64) : sidN (mulL f t) f (2 ^ (f.length / 2) - 1 - s) = sidN t f s := by
  rw [sidN, sidN, sidL_dual hm fun d hd => rest_chB hm hs h64 hd]
/-- What FnChoiceRest asks of a choice. -/
theorem rest_facts {xs : List Int} (h : chV t f xs = true) : ∃ s r : Nat, IsMap t f ∧ chRestR t f xs = (true, bL r) ∧ chRestR t f (bL r) = (true, xs) ∧ ccR t f xs = (true, subL t f s) ∧ ccR (mulL f t) f (bL r) = (true, subL (mulL f t) f r) ∧ sidN (mulL f t) f r = sidN t f s ∧ xs = bL s ∧ s < 64 ∧ r < 64 ∧ xs.length + (bL r).length = f.length / 2 := by
  obtain ⟨hm, h6, s, h1, rfl, h64, e⟩ := chV_bits h
  obtain ⟨r1, r2, r3, r4, r5, r6⟩ := rest_bit (f.length / 2) (by omega) s h64 h1
  have hr := rest_list (by omega) h1 h64
  have hrr := rest_list (by omega) r1 r2
  rw [r3] at hrr
  have hv : chV t f (bL (2 ^ (f.length / 2) - 1 - s)) = true := by
    rw [chV, mapV_iff.2 hm, (rest_bit (f.length / 2) (by omega) _ r2 r1).2.2.2.2.1]; rfl
  have hvd : chV (mulL f t) f (bL (2 ^ (f.length / 2) - 1 - s)) = true := by
    rw [chV, mapV_iff.2 hm.dual, (rest_bit (f.length / 2) (by omega) _ r2 r1).2.2.2.2.1]; rfl
  refine ⟨s, 2 ^ (f.length / 2) - 1 - s, hm, ?_, ?_, ?_, ?_, sidN_dual hm h1 h64, rfl, h64, r2, r6⟩
  · rw [chRestR, chRestR', if_pos h, hr]
  · rw [chRestR, chRestR', if_pos hv, hrr]
  · rw [ccR, if_pos h, e]
  · rw [ccR, if_pos hvd, sOf_eq r2 rfl]
end

end Go.Proofs.Ytcenffndclpjoaa
