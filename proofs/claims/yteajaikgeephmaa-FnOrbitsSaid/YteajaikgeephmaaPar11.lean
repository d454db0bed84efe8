/-
  Plain: a power of a permutation is one.
-/
import Derived.Test.YteajaikgeephmaaPar8
import Derived.Test.YteajaikgeephmaaCopy
namespace Go.Proofs.Yteajaikgeephmaa

theorem sameL_vld {n : Nat} (h1 : 1 ≤ n) (h12 : n ≤ 12) : Vld (sameL n) := by
  have hl : (sameL n).length = n := by rw [sameL, tab_len]
  refine ⟨by omega, by omega, fun j hj => ?_, fun j hj i hi => ?_⟩
  · rw [hl] at hj ⊢
    rw [sameL, gi_tab hj]
    omega
  · rw [hl] at hj
    rw [sameL, gi_tab hj, gi_tab (by omega)]
    omega
theorem pow_nat_vld {p : List Int} (hp : Vld p) : ∀ n : Nat, Vld (powL p (n : Int))
  | 0 => by rw [show ((0 : Nat) : Int) = 0 from rfl, pow_zero_]; exact sameL_vld hp.1 hp.2.1
  | n + 1 => by
    rw [show ((n + 1 : Nat) : Int) = (n : Int) + 1 from by omega, pow_succ_ hp]
    exact (pow_nat_vld hp n).mulL hp (powL_len _ _)
theorem pow_shift {p : List Int} (hp : Vld p) (k : Int) : ∀ j : Nat, powL p (k + (j : Int) * (lcmL (cyclesL p) : Int)) = powL p k
  | 0 => by simp
  | j + 1 => by
    rw [show ((j + 1 : Nat) : Int) * (lcmL (cyclesL p) : Int) = (j : Int) * (lcmL (cyclesL p) : Int) + (lcmL (cyclesL p) : Int) from by rw [Int.natCast_add, Int.add_mul]; simp, ← Int.add_assoc, pow_period hp, pow_shift hp k j]
theorem powL_vld {p : List Int} (hp : Vld p) (k : Int) : Vld (powL p k) := by
  have h1 := ord_pos hp
  have h2 : (k.natAbs : Int) * 1 ≤ (k.natAbs : Int) * (lcmL (cyclesL p) : Int) := Int.mul_le_mul_of_nonneg_left (by omega) (by omega)
  have h3 : 0 ≤ k + (k.natAbs : Int) * (lcmL (cyclesL p) : Int) := by omega
  rw [← pow_shift hp k k.natAbs, ← Int.toNat_of_nonneg h3]
  exact pow_nat_vld hp _

end Go.Proofs.Yteajaikgeephmaa
