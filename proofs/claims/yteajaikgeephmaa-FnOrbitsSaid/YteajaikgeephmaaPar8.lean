/-
  Plain: powers of a permutation: one more time, and as many more as its order.
-/
import Derived.Test.YteajaikgeephmaaOrb
import Derived.Test.YteajaikgeephmaaSpecPow
namespace Go.Proofs.Yteajaikgeephmaa

theorem pow_at {p : List Int} (hp : Vld p) {x : Nat} (hx : x < p.length) : ∃ c, c ∈ cyclesL p ∧ Cyc p c ∧ ∃ j, j < c.length ∧ gn c j = x ∧ ∀ k : Int, powAt p k x = gn c ((j + (k % (c.length : Int)).toNat) % c.length) := by
  obtain ⟨h1, h2, -⟩ := cyclesL_spec hp
  obtain ⟨c, hc, j, hj, e⟩ := h2 x hx
  have h := h1 c hc
  refine ⟨c, hc, h, j, hj, e, fun k => ?_⟩
  have hpos : (0 : Int) < (c.length : Int) := by have := h.pos; omega
  rw [← e, h.pow hp k hj, stepOf_eq hpos]
theorem gi_powL {p : List Int} {k : Int} {x : Nat} (hx : x < p.length) : gi (powL p k) x = (powAt p k x : Int) := gi_tab hx
theorem pow_zero_ {p : List Int} : powL p 0 = sameL p.length := by
  refine tab_ext (powL_len _ _) fun j hj => ?_
  rw [gi_powL hj]
  rfl
theorem pow_succ_ {p : List Int} (hp : Vld p) (k : Int) : powL p (k + 1) = mulL (powL p k) p := by
  refine eq_of_gi (by rw [mulL_len, powL_len, powL_len]) fun x hx => ?_
  rw [powL_len] at hx
  obtain ⟨c, -, h, j, hj, -, hpow⟩ := pow_at hp hx
  have hpos := h.pos
  have hL : (0 : Int) < (c.length : Int) := by omega
  rw [gi_powL hx, gi_mulL (by rw [powL_len]; exact hx)]
  have e1 : gn (powL p k) x = powAt p k x := gn_of (gi_powL hx)
  rw [e1, hpow k, hpow (k + 1)]
  have hm : (j + (k % (c.length : Int)).toNat) % c.length < c.length := Nat.mod_lt _ hpos
  have hl := h.lt _ hm
  rw [hp.gi_gn hl, h.round _ hm]
  congr 1
  congr 1
  have a0 := Int.emod_nonneg k (show (c.length : Int) ≠ 0 by omega)
  have a1 := Int.emod_lt_of_pos k hL
  have b0 := Int.emod_nonneg (k + 1) (show (c.length : Int) ≠ 0 by omega)
  have b1 := Int.emod_lt_of_pos (k + 1) hL
  rw [Nat.mod_add_mod]
  by_cases e : k % (c.length : Int) + 1 = (c.length : Int)
  · have h2 : (k + 1) % (c.length : Int) = 0 := by rw [Int.add_emod, ← Int.emod_emod_of_dvd k (Int.dvd_refl (c.length : Int))]; rw [← Int.add_emod, e]; simp
    rw [h2]
    have e2 : j + (k % (c.length : Int)).toNat + 1 = j + c.length := by omega
    rw [e2, Nat.add_mod_right]; simp
  · have h2 : (k + 1) % (c.length : Int) = k % (c.length : Int) + 1 := by
      have h3 : (k + 1) % (c.length : Int) = (k % (c.length : Int) + 1) % (c.length : Int) := by rw [Int.emod_add_emod]
      rw [h3, Int.emod_eq_of_lt (by omega) (by omega)]
    rw [h2]
    congr 1
    omega
theorem pow_period {p : List Int} (hp : Vld p) (k : Int) : powL p (k + (lcmL (cyclesL p) : Int)) = powL p k := by
  refine eq_of_gi (by rw [powL_len, powL_len]) fun x hx => ?_
  rw [powL_len] at hx
  obtain ⟨c, hc, h, j, hj, -, hpow⟩ := pow_at hp hx
  rw [gi_powL hx, gi_powL hx, hpow k, hpow]
  have hd : c.length ∣ lcmL (cyclesL p) := lcmL_dvd.1 (Nat.dvd_refl _) c hc
  obtain ⟨q, hq⟩ := hd
  have e : (k + (lcmL (cyclesL p) : Int)) % (c.length : Int) = k % (c.length : Int) := by
    rw [hq]
    push_cast
    rw [Int.add_mul_emod_self_left]
  rw [e]

end Go.Proofs.Yteajaikgeephmaa
