/-
  Numbers multiplied, the type of an exchange: what the laws of chapter 5 make.
-/
import Derived.Test.YtlgfedkoefhjjaaPtS
import Derived.Test.YtlgfedkoefhjjaaSeen
namespace Go.Proofs.Ytlgfedkoefhjjaa
open Go.RowKit

set_option maxHeartbeats 800000 in
theorem timesN_any (n : Nat) (w : World) (hn : n ≤ 7) :
    Calls Try.prog 11 #[.int .i64 n] w fun e w' => e = .returned (.int .i64 (fct n)) ∧ w' = w := by
  go_enter Try.func11, Try.ntmps11
  go_wp2_with fail
  go_loop [3, 4] (fun s i => ∃ (k : Nat) (t : Int), 1 ≤ k ∧ (k ≤ n ∨ (n = 0 ∧ k = 1)) ∧ s = .int .i64 t ∧ i = .int .i64 (k + 1 : Nat) ∧ Hid (t = fct k)) (fun _ i => n + 2 - (intOf i).toNat)
  case atStart => exact ⟨1, 1, Nat.le_refl _, by omega, rfl, rfl, rfl⟩
  case round =>
    obtain ⟨k, t, hk1, hk, rfl, rfl, hT⟩ := hrel
    obtain ⟨k1, hk1⟩ : ∃ k1, k1 = k + 1 := ⟨_, rfl⟩
    rw [← hk1]
    by_cases hlt : k < n
    · have hd : decide (k1 ≤ n) = true := by simp; omega
      have hm : IntKind.i64.wrap ((k1 : Int) * t) = fct k1 := by
        have e : (k1 : Int) * t = fct k1 := by rw [hT.out, hk1, fct]
        have := fct_in k1 (by omega)
        rw [e, IntWalk.i64_in _ (by omega)]
      have hk8 : k1 ≤ 8 := by omega
      have HK1 := Lib.hid hk1; clear hk1
      go_wp2_with fail
      go_round
      case rel => exact ⟨k1, fct k1, by have := HK1.out; omega, by have := HK1.out; omega, rfl, by have := HK1.out; subst this; go_num, rfl⟩
      case measure => have := HK1.out; simp [intOf]; omega
    · have hd : decide (k1 ≤ n) = false := by simp; omega
      have HK1 := Lib.hid hk1; clear hk1
      go_wp2_with fail
      go_ret
      refine ⟨ret_int ?_, rfl⟩
      rw [hT.out]
      rcases hk with hk | ⟨h0, h1⟩
      · rw [show k = n by omega]
      · rw [h0, h1]; rfl

/-- The type of an exchange of two of n points. -/
def swapL (n : Nat) : List Int := 2 :: List.replicate (n - 2) 1
theorem swapL_len {n : Nat} (h : 2 ≤ n) : (swapL n).length = n - 1 := by simp [swapL]; omega

end Go.Proofs.Ytlgfedkoefhjjaa
