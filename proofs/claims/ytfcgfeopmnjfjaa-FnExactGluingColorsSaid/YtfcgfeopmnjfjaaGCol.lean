/-
  Gluings with colors: the formula, the program's and the model's, against one table.
-/
import Derived.Test.YtfcgfeopmnjfjaaGRun
namespace Go.Proofs.Ytfcgfeopmnjfjaa
open Go.RowKit
set_option linter.unusedVariables false

def colT : List (List Int) := [[-1, -1, -1, -1, -1, -1, -1, -1, -1], [0, 1, 4, 9, 16, 25, 36, 49, 64], [0, 3, 18, 57, 132, 255, 438, 693, 1032], [0, 15, 120, 495, 1440, 3375, 6840, 12495, 21120], [0, 105, 1050, 5355, 18900, 52605, 124110, 259455, 494760], [0, 945, 11340, 68985, 287280, 930825, 2521260, 5973345, 12761280], [0, 10395, 145530, 1029105, 4948020, 18347175, 56320110, 149760765, 355841640], [0, 135135, 2162160, 17432415, 95135040, 397972575, 1368647280, 4047698655, 10620529920]]
def colF (n c : Int) : Int := if 1 ≤ n ∧ n ≤ 7 ∧ 0 ≤ c ∧ c ≤ 8 then (colT.getD n.toNat []).getD c.toNat 0 else -1

/-- The program's odd product, sum and power, as they go. -/
def odI : Nat → Int
  | 0 => 1
  | i + 1 => wrap64 (odI i * (2 * i + 1))
def smI (n c : Int) : Nat → Int
  | 0 => 0
  | k + 1 => wrap64 (smI n c k + wrap64 (wrap64 (pwG 2 k * chI n k) * chI c (k + 1)))
/-- The model's. -/
def odS : Nat → Int
  | 0 => 1
  | i + 1 => wrap64 (odS i * (2 * ((i : Int) + 1) - 1))
def pwD : Nat → Int
  | 0 => 1
  | i + 1 => wrap64 (2 * pwD i)
def smS (n c : Nat) : Nat → Int
  | 0 => 0
  | k + 1 => if k + 1 ≤ c then wrap64 (smS n c k + wrap64 (wrap64 (pwD k * chS n k k) * chS c (k + 1) (k + 1))) else smS n c k
theorem colI_ok : ∀ n : Nat, n < 8 → 1 ≤ n → ∀ c : Nat, c < 9 → wrap64 (odI n * smI n c (n + 1)) = colF n c := by decide +kernel
theorem colS_ok : ∀ n : Nat, n < 8 → 1 ≤ n → ∀ c : Nat, c < 9 → wrap64 (odS n * smS n c (n + 1)) = colF n c := by decide +kernel

set_option maxHeartbeats 400000 in
theorem choose_free (w : World) (n k : Nat) (hn : n ≤ 100) (hk : k ≤ 100) {r : Int} (hr : chI n k = r) :
    Calls Try.prog 67 #[.int .i64 n, .int .i64 k] w fun e w' => e = .returned (.int .i64 r) ∧ w' = w := by
  have HR := Lib.hid hr; clear hr
  go_enter Try.func67, Try.ntmps67
  go_wp2_with fail
  go_loop [5, 8] (fun v iv => ∃ i : Nat, i ≤ k ∧ iv = .int .i64 i ∧ v = .int .i64 (chI n i)) (fun _ iv => k - (intOf iv).toNat)
  case atStart => exact ⟨0, Nat.zero_le _, rfl, rfl⟩
  case round =>
    obtain ⟨i, hi, rfl, rfl⟩ := hrel
    by_cases hlt : i < k
    · have h1 : ¬ ((i : Int) + 1 = 0) := by omega
      go_wp2
      go_round
      case rel => exact ⟨i + 1, by omega, by go_num, rfl⟩
      case measure => simp [intOf]; omega
    · obtain rfl : i = k := by omega
      go_wp2
      go_ret
      exact ⟨retI HR.out, rfl⟩

set_option maxHeartbeats 1600000 in
theorem impl_col (w : World) (n c : Int) (hw : (Lit.int .i64 n).wf = true) (hw' : (Lit.int .i64 c).wf = true) {r : Int} (hr : colF n c = r) :
    Calls Try.prog 24 #[.int .i64 n, .int .i64 c] w fun x w' => x = .returned (.int .i64 r) ∧ Below w.heap.size w w' := by
  by_cases h : 1 ≤ n ∧ n ≤ 7 ∧ 0 ≤ c ∧ c ≤ 8
  · have HR := Lib.hid hr; clear hr
    obtain ⟨h1, h2, h3, h4⟩ := h
    have d1 : decide (n < 1) = false := by simp; omega
    have d2 : decide (n > 7) = false := by simp; omega
    have d3 : decide (c < 0) = false := by simp; omega
    have d4 : decide (c > 8) = false := by simp; omega
    obtain ⟨n, rfl⟩ : ∃ k : Nat, n = k := ⟨n.toNat, by omega⟩
    obtain ⟨c, rfl⟩ : ∃ k : Nat, c = k := ⟨c.toNat, by omega⟩
    have hn1 : 1 ≤ n := by omega
    have hn7 : n ≤ 7 := by omega
    have hc8 : c ≤ 8 := by omega
    clear h1 h2 h3 h4
    go_enter Try.func24, Try.ntmps24
    go_wp2_with fail
    go_loop [5, 24] (fun v iv => ∃ i : Nat, i ≤ n ∧ iv = .int .i64 i ∧ v = .int .i64 (odI i)) (fun _ iv => n - (intOf iv).toNat)
    case atStart => exact ⟨0, Nat.zero_le _, rfl, rfl⟩
    case round =>
      obtain ⟨i, hi, rfl, rfl⟩ := hrel
      by_cases hlt : i < n
      · go_wp2
        go_round
        case rel => exact ⟨i + 1, by omega, by go_num, rfl⟩
        case measure => simp [intOf]; omega
      · obtain rfl : i = n := by omega
        clear hlt hi
        go_wp2_with fail
        go_loop [7, 8] (fun v kv => ∃ k : Nat, k ≤ i + 1 ∧ kv = .int .i64 (k + 1) ∧ v = .int .i64 (smI i c k)) (fun _ kv => i + 2 - (intOf kv).toNat)
        case atStart => exact ⟨0, Nat.zero_le _, rfl, rfl⟩
        case round =>
          obtain ⟨k, hk, rfl, rfl⟩ := hrel
          by_cases hlt : k ≤ i
          · have hd : decide ((k : Int) + 1 ≤ (i : Int) + 1) = true := by simp; omega
            obtain ⟨r0, hr0⟩ : ∃ r, pwG 2 k = r := ⟨_, rfl⟩
            have HR0 := Lib.hid hr0; clear hr0
            have hk1 : (k : Int) + 1 - 1 = (k : Int) := by omega
            obtain ⟨r1, hr1⟩ : ∃ r, chI i k = r := ⟨_, rfl⟩
            obtain ⟨r2, hr2⟩ : ∃ r, chI c (k + 1) = r := ⟨_, rfl⟩
            have HR1 := Lib.hid hr1; have HR2 := Lib.hid hr2; clear hr1 hr2
            go_wp2_with fail
            refine (power_any w 2 k (by omega) HR0.out).mono ?_
            rintro e w0 ⟨rfl, rfl⟩
            go_wp2_with fail
            refine (choose_free w0 i k (by omega) (by omega) HR1.out).mono ?_
            rintro e w' ⟨rfl, rfl⟩
            go_wp2_with fail
            refine (choose_free w' c (k + 1) (by omega) (by omega) HR2.out).mono ?_
            rintro e w2 ⟨rfl, rfl⟩
            go_wp2_with fail
            go_round
            case rel => exact ⟨k + 1, by omega, by go_num, by rw [smI, HR0.out, HR1.out, HR2.out]⟩
            case measure => simp [intOf]; omega
          · obtain rfl : k = i + 1 := by omega
            go_wp2_with fail
            go_ret
            exact ⟨retI ((colI_ok i (by omega) hn1 c (by omega)).trans HR.out), Below.refl _ _⟩
  · rw [colF, if_neg h] at hr
    subst hr
    by_cases d1 : n < 1
    · go_enter Try.func24, Try.ntmps24
      go_wp2_with fail
      go_ret
      exact ⟨rfl, Below.refl _ _⟩
    by_cases d2 : 7 < n
    · go_enter Try.func24, Try.ntmps24
      go_wp2_with fail
      go_ret
      exact ⟨rfl, Below.refl _ _⟩
    by_cases d3 : c < 0
    · go_enter Try.func24, Try.ntmps24
      go_wp2_with fail
      go_ret
      exact ⟨rfl, Below.refl _ _⟩
    have d4 : 8 < c := by omega
    go_enter Try.func24, Try.ntmps24
    go_wp2_with fail
    go_ret
    exact ⟨rfl, Below.refl _ _⟩

set_option maxHeartbeats 1600000 in
theorem spec_col (w : World) (n c : Int) (hw : (Lit.int .i64 n).wf = true) (hw' : (Lit.int .i64 c).wf = true) {r : Int} (hr : colF n c = r) :
    Calls Try.prog 25 #[.int .i64 n, .int .i64 c] w fun x w' => x = .returned (.int .i64 r) ∧ Below w.heap.size w w' := by
  have HR := Lib.hid hr; clear hr
  by_cases h1 : 1 ≤ n ∧ n ≤ 7
  · have hd1 : (decide ((1 : Int) ≤ n) && decide (n ≤ 7)) = true := by simp [h1]
    by_cases h2 : 0 ≤ c ∧ c ≤ 8
    · have hd2 : (decide ((0 : Int) ≤ c) && decide (c ≤ 8)) = true := by simp [h2]
      obtain ⟨n, rfl⟩ : ∃ k : Nat, n = k := ⟨n.toNat, by omega⟩
      obtain ⟨c, rfl⟩ : ∃ k : Nat, c = k := ⟨c.toNat, by omega⟩
      have hn1 : 1 ≤ n := by omega
      have hn7 : n ≤ 7 := by omega
      have hc8 : c ≤ 8 := by omega
      clear h1 h2
      go_enter Try.func25, Try.ntmps25
      go_wp2_with fail
      refine (in_any w n 1 7).mono ?_
      rintro x w' ⟨rfl, rfl⟩
      rw [hd1]
      go_wp2_with fail
      refine (in_any w' c 0 8).mono ?_
      rintro x w2 ⟨rfl, rfl⟩
      rw [hd2]
      go_wp2_with fail
      go_loop [5, 6] (fun v iv => ∃ i : Nat, i ≤ n ∧ iv = .int .i64 (i + 1) ∧ v = .int .i64 (odS i)) (fun _ iv => n + 1 - (intOf iv).toNat)
      case atStart => exact ⟨0, Nat.zero_le _, rfl, rfl⟩
      case round =>
        obtain ⟨i, hi, rfl, rfl⟩ := hrel
        by_cases hlt : i < n
        · have hd : decide ((i : Int) + 1 ≤ (n : Int)) = true := by simp; omega
          go_wp2_with fail
          go_round
          case rel => exact ⟨i + 1, by omega, by go_num, rfl⟩
          case measure => simp [intOf]; omega
        · obtain rfl : i = n := by omega
          clear hlt hi
          go_wp2_with fail
          go_loop [7, 8, 9] (fun v pv kv => ∃ k : Nat, k ≤ i + 1 ∧ kv = .int .i64 (k + 1) ∧ v = .int .i64 (smS i c k) ∧ pv = .int .i64 (pwD k)) (fun _ _ kv => i + 2 - (intOf kv).toNat)
          case atStart => exact ⟨0, Nat.zero_le _, rfl, rfl, rfl⟩
          case round =>
            obtain ⟨k, hk, rfl, rfl, rfl⟩ := hrel
            by_cases hlt : k ≤ i
            · have hd : decide ((k : Int) + 1 ≤ (i : Int) + 1) = true := by simp; omega
              by_cases hc : k + 1 ≤ c
              · have hdc : decide ((k : Int) + 1 ≤ (c : Int)) = true := by simp; omega
                obtain ⟨r1, hr1⟩ : ∃ r, chS i k k = r := ⟨_, rfl⟩
                obtain ⟨r2, hr2⟩ : ∃ r, chS c (k + 1) (k + 1) = r := ⟨_, rfl⟩
                have HR1 := Lib.hid hr1; have HR2 := Lib.hid hr2; clear hr1 hr2
                go_wp2_with fail
                refine (l3Choose_any w2 i k (by omega) (by omega) (by simpa using HR1.out)).mono ?_
                rintro e w3 ⟨rfl, rfl⟩
                go_wp2_with fail
                refine (l3Choose_any w3 c (k + 1) (by omega) (by omega) (by simpa using HR2.out)).mono ?_
                rintro e w4 ⟨rfl, rfl⟩
                go_wp2_with fail
                go_round
                case rel => exact ⟨k + 1, by omega, by go_num, by rw [smS, if_pos hc]; simp only [HR1.out, HR2.out], rfl⟩
                case measure => simp [intOf]; omega
              · have hdc : decide ((k : Int) + 1 ≤ (c : Int)) = false := by simp; omega
                go_wp2_with fail
                go_round
                case rel => exact ⟨k + 1, by omega, by go_num, by rw [smS, if_neg hc], rfl⟩
                case measure => simp [intOf]; omega
            · obtain rfl : k = i + 1 := by omega
              have hd : decide (((i + 1 : Nat) : Int) + 1 ≤ (i : Int) + 1) = false := by simp; omega
              go_wp2_with fail
              go_ret
              exact ⟨retI ((colS_ok i (by omega) hn1 c (by omega)).trans HR.out), Below.refl _ _⟩
    · have hd2 : (decide ((0 : Int) ≤ c) && decide (c ≤ 8)) = false := by simp; omega
      have HV : Hid (r = -1) := by have := HR.out; rw [colF, if_neg (by omega)] at this; exact this.symm
      go_enter Try.func25, Try.ntmps25
      go_wp2_with fail
      refine (in_any w n 1 7).mono ?_
      rintro x w' ⟨rfl, rfl⟩
      rw [hd1]
      go_wp2_with fail
      refine (in_any w' c 0 8).mono ?_
      rintro x w2 ⟨rfl, rfl⟩
      rw [hd2]
      go_wp2_with fail
      go_ret
      exact ⟨retI HV.out.symm, Below.refl _ _⟩
  · have hd1 : (decide ((1 : Int) ≤ n) && decide (n ≤ 7)) = false := by simp; omega
    have HV : Hid (r = -1) := by have := HR.out; rw [colF, if_neg (by omega)] at this; exact this.symm
    go_enter Try.func25, Try.ntmps25
    go_wp2_with fail
    refine (in_any w n 1 7).mono ?_
    rintro x w' ⟨rfl, rfl⟩
    rw [hd1]
    go_wp2_with fail
    go_ret
    exact ⟨retI HV.out.symm, Below.refl _ _⟩

end Go.Proofs.Ytfcgfeopmnjfjaa
