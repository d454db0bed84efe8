/-
  TreesMany: the program's and the model's.
-/
import Derived.Test.YtfcgfeopmnjfjaaCnt
namespace Go.Proofs.Ytfcgfeopmnjfjaa
open Go.RowKit

def tmN (n : Nat) : Nat → Int
  | 0 => treesF n
  | k + 1 => 3 * tmN n k
def tmF (x : Int) : Int := if 1 ≤ x ∧ x ≤ 3 then tmN x.toNat x.toNat else -1
theorem tm_ok : ∀ n : Nat, n < 4 → wrap64 (pwG 3 n * treesF n) = tmN n n := by decide +kernel
theorem tmN_in : ∀ n : Nat, n < 4 → ∀ k : Nat, k < 4 → 0 ≤ tmN n k ∧ tmN n k ≤ 200 := by decide +kernel

set_option maxHeartbeats 800000 in
theorem impl_tm (w : World) (x : Int) (hw : (Lit.int .i64 x).wf = true) :
    Calls Try.prog 28 #[.int .i64 x] w fun e w' => e = .returned (.int .i64 (tmF x)) ∧ w' = w := by
  by_cases h0 : x < 1
  · go_enter Try.func28, Try.ntmps28
    go_wp2_with fail
    go_ret
    exact ⟨retI (by rw [tmF, if_neg (by omega)]), rfl⟩
  by_cases h1 : 3 < x
  · go_enter Try.func28, Try.ntmps28
    go_wp2_with fail
    go_ret
    exact ⟨retI (by rw [tmF, if_neg (by omega)]), rfl⟩
  obtain ⟨n, rfl⟩ : ∃ n : Nat, x = n := ⟨x.toNat, by omega⟩
  have hn : 1 ≤ n ∧ n ≤ 3 := by omega
  have hT := tmN_in n (by omega) 0 (by omega)
  obtain ⟨T, hTT⟩ : ∃ T, treesF n = T := ⟨_, rfl⟩
  rw [show tmN n 0 = treesF n from rfl, hTT] at hT
  have HT := Lib.hid hTT; clear hTT
  have HF : Hid (wrap64 (pwG 3 n * T) = tmN n n) := by rw [Hid, ← HT.out]; exact tm_ok n (by omega)
  obtain ⟨q, hq⟩ : ∃ q, pwG 3 n = q := ⟨_, rfl⟩
  rw [hq] at HF
  have HQ := Lib.hid hq; clear hq
  go_enter Try.func28, Try.ntmps28
  go_wp2_with fail
  refine (power_any w 3 n (by omega) HQ.out).mono ?_
  rintro e w' ⟨rfl, rfl⟩
  go_wp2_with fail
  refine (impl_trees w' n hw).mono ?_
  rintro e w2 ⟨rfl, rfl⟩
  rw [HT.out]
  go_wp2_with fail
  go_ret
  exact ⟨retI (by rw [tmF, if_pos (by omega), Int.toNat_natCast]; exact HF.out), rfl⟩

set_option maxHeartbeats 800000 in
theorem spec_tm (w : World) (x : Int) (hw : (Lit.int .i64 x).wf = true) :
    Calls Try.prog 29 #[.int .i64 x] w fun e w' => e = .returned (.int .i64 (tmF x)) ∧ w' = w := by
  by_cases h0 : 1 ≤ x ∧ x ≤ 3
  · have hd : (decide ((1 : Int) ≤ x) && decide (x ≤ 3)) = true := by simp [h0]
    obtain ⟨n, rfl⟩ : ∃ n : Nat, x = n := ⟨x.toNat, by omega⟩
    have hn : 1 ≤ n ∧ n ≤ 3 := by omega
    have hT := tmN_in n (by omega) 0 (by omega)
    obtain ⟨T, hTT⟩ : ∃ T, treesF n = T := ⟨_, rfl⟩
    rw [show tmN n 0 = treesF n from rfl, hTT] at hT
    have HT := Lib.hid hTT; clear hTT
    go_enter Try.func29, Try.ntmps29
    go_wp2_with fail
    refine (in_any w n 1 3).mono ?_
    rintro e w' ⟨rfl, rfl⟩
    rw [hd]
    go_wp2_with fail
    refine (spec_trees w' n hw).mono ?_
    rintro e w' ⟨rfl, rfl⟩
    rw [HT.out]
    go_wp2_with fail
    go_loop [3, 4] (fun v iv => ∃ (k : Nat) (t : Int), k ≤ n ∧ iv = .int .i64 k ∧ v = .int .i64 t ∧ Hid (t = tmN n k)) (fun _ iv => n - (intOf iv).toNat)
    case atStart => exact ⟨0, T, Nat.zero_le _, rfl, rfl, HT.out.symm⟩
    case round =>
      obtain ⟨k, t, hk, rfl, rfl, ht⟩ := hrel
      have hb := tmN_in n (by omega) k (by omega)
      rw [← ht.out] at hb
      by_cases hlt : k < n
      · go_wp2
        go_round
        case rel => exact ⟨k + 1, 3 * t, by omega, by go_num, rfl, by rw [Hid, tmN, ← ht.out]⟩
        case measure => simp [intOf]; omega
      · have hkn : k = n := by omega
        have HK := Lib.hid hkn; clear hkn
        go_wp2
        go_ret
        refine ⟨retI ?_, rfl⟩
        rw [tmF, if_pos (by omega), ht.out, HK.out]
        rfl
  · have hd : (decide ((1 : Int) ≤ x) && decide (x ≤ 3)) = false := by simp; omega
    go_enter Try.func29, Try.ntmps29
    go_wp2_with fail
    refine (in_any w x 1 3).mono ?_
    rintro e w' ⟨rfl, rfl⟩
    rw [hd]
    go_wp2_with fail
    go_ret
    exact ⟨retI (by rw [tmF, if_neg h0]), rfl⟩

end Go.Proofs.Ytfcgfeopmnjfjaa
