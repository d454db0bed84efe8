/-
  Sums, factorials, sizes of classes and degrees of shapes: the model's and the program's.
-/
import Derived.Test.YtkbdbkoeahihiaaPtC
namespace Go.Proofs.Ytkbdbkoeahihiaa
open Go.RowKit

def fct : Nat → Int
  | 0 => 1
  | n + 1 => (n + 1 : Nat) * fct n
theorem fct_in : ∀ n : Nat, n < 8 → 1 ≤ fct n ∧ fct n ≤ 5040 := by decide +kernel

set_option maxHeartbeats 800000 in
theorem sum_any (A : Option Addr) (n c : Nat) (xs : List Int) (w : World) (h : Rd w A n xs) (hp : Pt xs) :
    Calls Try.prog 50 #[.slice A n c] w fun e w' => e = .returned (.int .i64 (sumI xs)) ∧ w' = w := by
  have hn6 : n ≤ 6 := by have := hp.len; rw [h.1] at this; exact this
  have H := Lib.hid h; have HP := Lib.hid hp; have Hx := Lib.hid h.1; clear h hp
  go_enter Try.func50, Try.ntmps50
  go_wp2_with fail
  go_loop [3, 8] (fun s i => ∃ (k : Nat) (t : Int), k ≤ n ∧ s = .int .i64 t ∧ i = .int .i64 k ∧ 0 ≤ t ∧ t ≤ 6 ∧ Hid (t = sumI (xs.take k))) (fun _ i => n - (intOf i).toNat)
  case atStart => exact ⟨0, 0, Nat.zero_le _, rfl, rfl, by decide, by decide, rfl⟩
  case round =>
    obtain ⟨k, t, hk, rfl, rfl, ht0, ht6, hT⟩ := hrel
    by_cases hlt : k < n
    · obtain ⟨ad, rfl, hc⟩ := H.out.at_ hlt
      have HK1 : Hid (sumI (xs.take (k + 1)) = t + gi xs k) := by rw [Hid, sumI_take_succ (by rw [Hx.out]; exact hlt), ← hT.out]
      have h6 : t + gi xs k ≤ 6 := by rw [← HK1.out]; exact HP.out.take _
      have h1 := HP.out.le (j := k) (by rw [Hx.out]; exact hlt)
      have hw := wadd (a := t) (b := gi xs k) (by omega) (by omega)
      go_wp2_with fail
      go_round
      case rel => exact ⟨k + 1, t + gi xs k, by omega, rfl, by go_num, by omega, h6, HK1.out.symm⟩
      case measure => simp [intOf]; omega
    · obtain rfl : k = n := by omega
      go_wp2_with fail
      go_ret
      exact ⟨ret_int (by rw [hT.out, ← Hx.out, sumI_take_all]), rfl⟩

set_option maxHeartbeats 800000 in
theorem l5Sum_any (A : Option Addr) (n c : Nat) (xs : List Int) (w : World) (h : Rd w A n xs) (hp : Pt xs) :
    Calls Try.prog 52 #[.slice A n c] w fun e w' => e = .returned (.int .i64 (sumI xs)) ∧ w' = w := by
  have hn6 : n ≤ 6 := by have := hp.len; rw [h.1] at this; exact this
  have H := Lib.hid h; have HP := Lib.hid hp; have Hx := Lib.hid h.1; clear h hp
  go_enter Try.func52, Try.ntmps52
  go_wp2_with fail
  go_loop [3, 4] (fun s i => ∃ (k : Nat) (t : Int), k ≤ n ∧ s = .int .i64 t ∧ i = .int .i64 k ∧ 0 ≤ t ∧ t ≤ 6 ∧ Hid (t = sumI (xs.take k))) (fun _ i => n - (intOf i).toNat)
  case atStart => exact ⟨0, 0, Nat.zero_le _, rfl, rfl, by decide, by decide, rfl⟩
  case round =>
    obtain ⟨k, t, hk, rfl, rfl, ht0, ht6, hT⟩ := hrel
    by_cases hlt : k < n
    · obtain ⟨ad, rfl, hc⟩ := H.out.at_ hlt
      have HK1 : Hid (sumI (xs.take (k + 1)) = t + gi xs k) := by rw [Hid, sumI_take_succ (by rw [Hx.out]; exact hlt), ← hT.out]
      have h6 : t + gi xs k ≤ 6 := by rw [← HK1.out]; exact HP.out.take _
      have h1 := HP.out.le (j := k) (by rw [Hx.out]; exact hlt)
      have hw := wadd (a := t) (b := gi xs k) (by omega) (by omega)
      go_wp2_with fail
      go_round
      case rel => exact ⟨k + 1, t + gi xs k, by omega, rfl, by go_num, by omega, h6, HK1.out.symm⟩
      case measure => simp [intOf]; omega
    · obtain rfl : k = n := by omega
      go_wp2_with fail
      go_ret
      exact ⟨ret_int (by rw [hT.out, ← Hx.out, sumI_take_all]), rfl⟩

set_option maxHeartbeats 800000 in
theorem factorial_any (n : Nat) (w : World) (hn : n ≤ 7) :
    Calls Try.prog 63 #[.int .i64 n] w fun e w' => e = .returned (.int .i64 (fct n)) ∧ w' = w := by
  go_enter Try.func63, Try.ntmps63
  go_wp2_with fail
  go_loop [3, 6] (fun s i => ∃ (k : Nat) (t : Int), k ≤ n ∧ s = .int .i64 t ∧ i = .int .i64 k ∧ Hid (t = fct k)) (fun _ i => n - (intOf i).toNat)
  case atStart => exact ⟨0, 1, Nat.zero_le _, rfl, rfl, rfl⟩
  case round =>
    obtain ⟨k, t, hk, rfl, rfl, hT⟩ := hrel
    by_cases hlt : k < n
    · obtain ⟨k1, hk1⟩ : ∃ k1, k1 = k + 1 := ⟨_, rfl⟩
      have hw := wadd1 (a := k) (b := k1) hk1 (by omega)
      have hm : IntKind.i64.wrap (t * (k1 : Int)) = fct k1 := by
        have e : t * (k1 : Int) = fct k1 := by rw [hT.out, hk1, fct, Int.mul_comm]
        have := fct_in k1 (by omega)
        rw [e, IntWalk.i64_in _ (by omega)]
      have HK1 := Lib.hid hk1; clear hk1
      go_wp2_with fail
      go_round
      case rel => exact ⟨k1, fct k1, by have := HK1.out; omega, rfl, by have := HK1.out; subst this; go_num, rfl⟩
      case measure => have := HK1.out; simp [intOf]; omega
    · obtain rfl : k = n := by omega
      go_wp2_with fail
      go_ret
      exact ⟨ret_int hT.out, rfl⟩

set_option maxHeartbeats 800000 in
theorem l5Times_any (n : Nat) (w : World) (hn : n ≤ 7) :
    Calls Try.prog 67 #[.int .i64 n] w fun e w' => e = .returned (.int .i64 (fct n)) ∧ w' = w := by
  go_enter Try.func67, Try.ntmps67
  go_wp2_with fail
  go_loop [3, 4] (fun s i => ∃ (k : Nat) (t : Int), 1 ≤ k ∧ (k ≤ n ∨ (n = 0 ∧ k = 1)) ∧ s = .int .i64 t ∧ i = .int .i64 (k + 1 : Nat) ∧ Hid (t = fct k)) (fun _ i => n + 2 - (intOf i).toNat)
  case atStart => exact ⟨1, 1, Nat.le_refl _, by omega, rfl, rfl, rfl⟩
  case round =>
    obtain ⟨k, t, hk1, hk, rfl, rfl, hT⟩ := hrel
    obtain ⟨k1, hk1⟩ : ∃ k1, k1 = k + 1 := ⟨_, rfl⟩
    rw [← hk1]
    by_cases hlt : k < n
    · have hd : decide (k1 ≤ n) = true := by simp; omega
      have hm : IntKind.i64.wrap ((k1 : Int) * t) = fct k1 := by
        have e : (k1 : Int) * t = fct k1 := by rw [hT.out, hk1, fct]
        have := fct_in k1 (by omega)
        rw [e, IntWalk.i64_in _ (by omega)]
      have hk8 : k1 ≤ 8 := by omega
      have HK1 := Lib.hid hk1; clear hk1
      go_wp2_with fail
      go_round
      case rel => exact ⟨k1, fct k1, by have := HK1.out; omega, by have := HK1.out; omega, rfl, by have := HK1.out; subst this; go_num, rfl⟩
      case measure => have := HK1.out; simp [intOf]; omega
    · have hd : decide (k1 ≤ n) = false := by simp; omega
      have HK1 := Lib.hid hk1; clear hk1
      go_wp2_with fail
      go_ret
      refine ⟨ret_int ?_, rfl⟩
      rw [hT.out]
      rcases hk with hk | ⟨h0, h1⟩
      · rw [show k = n by omega]
      · rw [h0, h1]; rfl

end Go.Proofs.Ytkbdbkoeahihiaa
