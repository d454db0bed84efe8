/-
  ChoiceRest: the model's and the program's; a set of edges as bits: has, list, size, all.
-/
import Derived.Test.YtlnegaenjcekcaaRibV
import Derived.Test.YtlnegaenjcekcaaAppI
import Derived.Test.YtlnegaenjcekcaaShelf
import Derived.Lib.BitFns
namespace Go.Proofs.Ytlnegaenjcekcaa
open Go.RowKit

theorem ret_u64' {a b : Nat} (h : a = b) : Ending.returned (.int .u64 (a : Int)) = .returned (.int .u64 (b : Int)) := by rw [h]
def restP (xs : List Int) : Nat → List Int
  | 0 => []
  | k + 1 => restP xs k ++ if hasL xs (k : Int) = true then [] else [(k : Int)]
def bitP (s : Nat) : Nat → List Int
  | 0 => []
  | k + 1 => bitP s k ++ if s.testBit k = true then [(k : Int)] else []
theorem restP_len (xs : List Int) : ∀ k, (restP xs k).length ≤ k
  | 0 => Nat.le_refl _
  | k + 1 => by have := restP_len xs k; rw [restP, List.length_append]; split <;> simp <;> omega
theorem bitP_len (s : Nat) : ∀ k, (bitP s k).length ≤ k
  | 0 => Nat.le_refl _
  | k + 1 => by have := bitP_len s k; rw [bitP, List.length_append]; split <;> simp <;> omega
theorem bit_in : ∀ s : Nat, s < 64 → bitP s (Lib.bitLen s) = bL s ∧ Lib.bitLen s ≤ 6 := by decide +kernel
theorem hasS_in : ∀ s : Nat, s < 64 → ∀ i : Nat, i < 6 → (bits BinOp.and IntKind.u64 ((s : Int) / 2 ^ i) 1 == 1) = s.testBit i := by decide +kernel
theorem rest_in : ∀ h : Nat, h < 7 → ∀ s : Nat, s < 64 → s < 2 ^ h → bits BinOp.andNot IntKind.u64 ((2 ^ h - 1 : Nat) : Int) (s : Int) = ((2 ^ h - 1 - s : Nat) : Int) ∧ bL (2 ^ h - 1 - s) = bitP (63 - s) h ∧ 2 ^ h - 1 - s < 64 := by decide +kernel
theorem not_in : ∀ s : Nat, s < 64 → ∀ e : Nat, e < 6 → (63 - s).testBit e = !s.testBit e := by decide +kernel
theorem rest_bits {s : Nat} (hs : s < 64) : ∀ k, k ≤ 6 → restP (bL s) k = bitP (63 - s) k
  | 0, _ => rfl
  | k + 1, hk => by
    rw [restP, bitP, rest_bits hs k (by omega), hasL_bL hs, not_in s hs k (by omega)]
    cases s.testBit k <;> rfl
theorem all_in : ∀ h : Nat, h < 7 → IntKind.u64.wrap (IntKind.u64.wrap (2 ^ min h 64) - 1) = ((2 ^ h - 1 : Nat) : Int) := by decide +kernel
theorem lt_of_pow {s h : Nat} (hs : s < 2 ^ h) (hh : h ≤ 6) : s < 64 := Nat.lt_of_lt_of_le hs (pow6 hh)

def chRestR' (xs : List Int) (h : Nat) (r : Bool) : Bool × List Int := if r = true then (true, restP xs h) else (false, [])
noncomputable def chRestR (t f xs : List Int) : Bool × List Int := chRestR' xs (f.length / 2) (chV t f xs)
theorem chV_few {t f xs : List Int} (h : chV t f xs = true) : f.length / 2 ≤ 6 ∧ IsMap t f := by
  unfold chV at h
  rw [Bool.and_eq_true] at h
  have := mapV_iff.1 h.2
  exact ⟨by have := this.flip.2.1; omega, this⟩
theorem chRestR_len {t f xs ys : List Int} {ok : Bool} (h : chRestR t f xs = (ok, ys)) : ys.length ≤ 12 := by
  unfold chRestR chRestR' at h
  split at h
  · rename_i hb
    injection h with _ h; rw [← h]
    have := restP_len xs (f.length / 2); have := (chV_few hb).1; omega
  · injection h with _ h; rw [← h]; simp

end Go.Proofs.Ytlnegaenjcekcaa
