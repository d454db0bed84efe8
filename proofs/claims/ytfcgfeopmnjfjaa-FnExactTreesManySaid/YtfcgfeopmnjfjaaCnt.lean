/-
  Counts by formula: the ways to choose, plane maps, trees: the program's and the model's, each against one table.
-/
import Derived.Test.YtfcgfeopmnjfjaaProg
import Derived.WalkKit
import Derived.Below
import Derived.Lib.Hide
namespace Go.Proofs.Ytfcgfeopmnjfjaa
open Go.RowKit
set_option linter.unusedVariables false

theorem retI {a b : Int} (h : a = b) : Ending.returned (.int .i64 a) = .returned (.int .i64 b) := by rw [h]

/-- The program's product, as it goes: after i rounds. -/
def chI (n : Int) : Nat → Int
  | 0 => 1
  | i + 1 => wrap64 ((wrap64 (chI n i * (n - i))).tdiv (i + 1))
/-- The model's. -/
def chS (n k : Int) : Nat → Int
  | 0 => 1
  | i + 1 => wrap64 ((wrap64 (chS n k i * (n - k + (i + 1)))).tdiv (i + 1))
/-- The program's power, as it goes. -/
def pwG (x : Int) : Nat → Int
  | 0 => 1
  | i + 1 => wrap64 (pwG x i * x)
def pwS : Nat → Int
  | 0 => 1
  | i + 1 => wrap64 (3 * pwS i)

def treesT : List Int := [1, 1, 2, 5, 14, 42, 132, 429, 1430, 4862, 16796, 58786, 208012]
def planeT : List Int := [1, 2, 9, 54, 378, 2916, 24057, 208494, 1876446, 17399772]
def treesF (x : Int) : Int := if 0 ≤ x ∧ x ≤ 12 then treesT.getD x.toNat 0 else -1
def planeF (x : Int) : Int := if 0 ≤ x ∧ x ≤ 9 then planeT.getD x.toNat 0 else -1

theorem treesI_ok : ∀ e : Nat, e < 13 → wrap64 ((chI ((2 * e : Nat) : Int) e).tdiv (e + 1)) = treesF e := by decide +kernel
theorem treesS_ok : ∀ e : Nat, e < 13 → wrap64 ((chS ((2 * e : Nat) : Int) e e).tdiv (e + 1)) = treesF e := by decide +kernel

theorem planeI_ok : ∀ e : Nat, e < 10 → wrap64 ((wrap64 (wrap64 (2 * pwG 3 e) * chI ((2 * e : Nat) : Int) e)).tdiv (wrap64 ((e + 1) * (e + 2)))) = planeF e := by decide +kernel
theorem planeS_ok : ∀ e : Nat, e < 10 → wrap64 ((wrap64 (wrap64 (2 * pwS e) * chS ((2 * e : Nat) : Int) e e)).tdiv (wrap64 ((e + 1) * (e + 2)))) = planeF e := by decide +kernel
theorem planeD_ok : ∀ e : Nat, e < 10 → ((wrap64 (((e : Int) + 1) * ((e : Int) + 2))) == 0) = false ∧ ¬ wrap64 (((e : Int) + 1) * ((e : Int) + 2)) = 0 := by decide +kernel

set_option maxHeartbeats 400000 in
theorem choose_any (w : World) (n k : Nat) (hn : n ≤ 100) (hk : k ≤ n) {r : Int} (hr : chI n k = r) :
    Calls Try.prog 67 #[.int .i64 n, .int .i64 k] w fun e w' => e = .returned (.int .i64 r) ∧ w' = w := by
  have HR := Lib.hid hr; clear hr
  go_enter Try.func67, Try.ntmps67
  go_wp2_with fail
  go_loop [5, 8] (fun v iv => ∃ i : Nat, i ≤ k ∧ iv = .int .i64 i ∧ v = .int .i64 (chI n i)) (fun _ iv => k - (intOf iv).toNat)
  case atStart => exact ⟨0, Nat.zero_le _, rfl, rfl⟩
  case round =>
    obtain ⟨i, hi, rfl, rfl⟩ := hrel
    by_cases hlt : i < k
    · have h1 : ¬ ((i : Int) + 1 = 0) := by omega
      go_wp2
      go_round
      case rel => exact ⟨i + 1, by omega, by go_num, rfl⟩
      case measure => simp [intOf]; omega
    · obtain rfl : i = k := by omega
      go_wp2
      go_ret
      exact ⟨retI HR.out, rfl⟩

set_option maxHeartbeats 400000 in
theorem l3Choose_any (w : World) (n k : Nat) (hn : n ≤ 100) (hk : k ≤ n) {r : Int} (hr : chS n k k = r) :
    Calls Try.prog 68 #[.int .i64 n, .int .i64 k] w fun e w' => e = .returned (.int .i64 r) ∧ w' = w := by
  have HR := Lib.hid hr; clear hr
  go_enter Try.func68, Try.ntmps68
  go_wp2_with fail
  go_loop [5, 6] (fun v iv => ∃ i : Nat, i ≤ k ∧ iv = .int .i64 (i + 1) ∧ v = .int .i64 (chS n k i)) (fun _ iv => k + 1 - (intOf iv).toNat)
  case atStart => exact ⟨0, Nat.zero_le _, rfl, rfl⟩
  case round =>
    obtain ⟨i, hi, rfl, rfl⟩ := hrel
    by_cases hlt : i < k
    · have h1 : ¬ ((i : Int) + 1 = 0) := by omega
      go_wp2
      go_round
      case rel => exact ⟨i + 1, by omega, by go_num, rfl⟩
      case measure => simp [intOf]; omega
    · obtain rfl : i = k := by omega
      go_wp2
      go_ret
      exact ⟨retI HR.out, rfl⟩

theorem in_any (w : World) (x a b : Int) :
    Calls Try.prog 64 #[.int .i64 x, .int .i64 a, .int .i64 b] w fun e w' => e = .returned (.bool (decide (a ≤ x) && decide (x ≤ b))) ∧ w' = w := by
  go_enter Try.func64, Try.ntmps64
  by_cases h1 : a ≤ x
  · by_cases h2 : x ≤ b
    · go_wp2
      go_ret
      exact ⟨by simp [h1, h2], rfl⟩
    · go_wp2
      go_ret
      exact ⟨by simp [h2], rfl⟩
  · go_wp2
    go_ret
    exact ⟨by rw [(decide_eq_false (by omega) : decide (a ≤ x) = false)]; rfl, rfl⟩

set_option maxHeartbeats 800000 in
theorem impl_trees (w : World) (x : Int) (hw : (Lit.int .i64 x).wf = true) :
    Calls Try.prog 71 #[.int .i64 x] w fun e w' => e = .returned (.int .i64 (treesF x)) ∧ w' = w := by
  by_cases h0 : x < 0
  · go_enter Try.func71, Try.ntmps71
    go_wp2_with fail
    go_ret
    exact ⟨retI (by rw [treesF, if_neg (by omega)]), rfl⟩
  by_cases h1 : 12 < x
  · go_enter Try.func71, Try.ntmps71
    go_wp2_with fail
    go_ret
    exact ⟨retI (by rw [treesF, if_neg (by omega)]), rfl⟩
  obtain ⟨n, rfl⟩ : ∃ n : Nat, x = n := ⟨x.toNat, by omega⟩
  have HT := Lib.hid (treesI_ok n (by omega))
  obtain ⟨r, hr⟩ : ∃ r, chI ((2 * n : Nat) : Int) n = r := ⟨_, rfl⟩
  rw [hr] at HT
  have HR := Lib.hid hr; clear hr
  go_enter Try.func71, Try.ntmps71
  go_wp2_with fail
  refine (choose_any w (2 * n) n (by omega) (by omega) HR.out).mono ?_
  rintro e w' ⟨rfl, rfl⟩
  go_wp2_with fail
  go_ret
  exact ⟨retI HT.out, rfl⟩

set_option maxHeartbeats 800000 in
theorem spec_trees (w : World) (x : Int) (hw : (Lit.int .i64 x).wf = true) :
    Calls Try.prog 72 #[.int .i64 x] w fun e w' => e = .returned (.int .i64 (treesF x)) ∧ w' = w := by
  by_cases h0 : 0 ≤ x ∧ x ≤ 12
  · have hd : (decide ((0 : Int) ≤ x) && decide (x ≤ 12)) = true := by simp [h0]
    obtain ⟨n, rfl⟩ : ∃ n : Nat, x = n := ⟨x.toNat, by omega⟩
    have HT := Lib.hid (treesS_ok n (by omega))
    obtain ⟨r, hr⟩ : ∃ r, chS ((2 * n : Nat) : Int) n n = r := ⟨_, rfl⟩
    rw [hr] at HT
    have HR := Lib.hid hr; clear hr
    go_enter Try.func72, Try.ntmps72
    go_wp2_with fail
    refine (in_any w n 0 12).mono ?_
    rintro e w' ⟨rfl, rfl⟩
    rw [hd]
    go_wp2_with fail
    refine (l3Choose_any w' (2 * n) n (by omega) (by omega) HR.out).mono ?_
    rintro e w2 ⟨rfl, rfl⟩
    go_wp2_with fail
    go_ret
    exact ⟨retI HT.out, rfl⟩
  · have hd : (decide ((0 : Int) ≤ x) && decide (x ≤ 12)) = false := by simp; omega
    go_enter Try.func72, Try.ntmps72
    go_wp2_with fail
    refine (in_any w x 0 12).mono ?_
    rintro e w' ⟨rfl, rfl⟩
    rw [hd]
    go_wp2_with fail
    go_ret
    exact ⟨retI (by rw [treesF, if_neg h0]), rfl⟩

set_option maxHeartbeats 400000 in
theorem power_any (w : World) (x : Int) (k : Nat) (hk : k ≤ 100) {r : Int} (hr : pwG x k = r) :
    Calls Try.prog 66 #[.int .i64 x, .int .i64 k] w fun e w' => e = .returned (.int .i64 r) ∧ w' = w := by
  have HR := Lib.hid hr; clear hr
  go_enter Try.func66, Try.ntmps66
  go_wp2_with fail
  go_loop [5, 7] (fun v iv => ∃ i : Nat, i ≤ k ∧ iv = .int .i64 i ∧ v = .int .i64 (pwG x i)) (fun _ iv => k - (intOf iv).toNat)
  case atStart => exact ⟨0, Nat.zero_le _, rfl, rfl⟩
  case round =>
    obtain ⟨i, hi, rfl, rfl⟩ := hrel
    by_cases hlt : i < k
    · go_wp2
      go_round
      case rel => exact ⟨i + 1, by omega, by go_num, rfl⟩
      case measure => simp [intOf]; omega
    · obtain rfl : i = k := by omega
      go_wp2
      go_ret
      exact ⟨retI HR.out, rfl⟩

set_option maxHeartbeats 800000 in
theorem impl_plane (w : World) (x : Int) (hw : (Lit.int .i64 x).wf = true) :
    Calls Try.prog 19 #[.int .i64 x] w fun e w' => e = .returned (.int .i64 (planeF x)) ∧ w' = w := by
  by_cases h0 : x < 0
  · go_enter Try.func19, Try.ntmps19
    go_wp2_with fail
    go_ret
    exact ⟨retI (by rw [planeF, if_neg (by omega)]), rfl⟩
  by_cases h1 : 9 < x
  · go_enter Try.func19, Try.ntmps19
    go_wp2_with fail
    go_ret
    exact ⟨retI (by rw [planeF, if_neg (by omega)]), rfl⟩
  obtain ⟨n, rfl⟩ : ∃ n : Nat, x = n := ⟨x.toNat, by omega⟩
  have HT := Lib.hid (planeI_ok n (by omega))
  have hz := (planeD_ok n (by omega)).1
  have hz' := (planeD_ok n (by omega)).2
  obtain ⟨r, hr⟩ : ∃ r, chI ((2 * n : Nat) : Int) n = r := ⟨_, rfl⟩
  obtain ⟨q, hq⟩ : ∃ q, pwG 3 n = q := ⟨_, rfl⟩
  rw [hr, hq] at HT
  have HR := Lib.hid hr; have HQ := Lib.hid hq; clear hr hq
  go_enter Try.func19, Try.ntmps19
  go_wp2_with fail
  refine (power_any w 3 n (by omega) HQ.out).mono ?_
  rintro e w' ⟨rfl, rfl⟩
  go_wp2_with fail
  refine (choose_any w' (2 * n) n (by omega) (by omega) HR.out).mono ?_
  rintro e w2 ⟨rfl, rfl⟩
  go_wp2_with fail
  go_ret
  exact ⟨retI HT.out, rfl⟩

set_option maxHeartbeats 800000 in
theorem spec_plane (w : World) (x : Int) (hw : (Lit.int .i64 x).wf = true) :
    Calls Try.prog 21 #[.int .i64 x] w fun e w' => e = .returned (.int .i64 (planeF x)) ∧ w' = w := by
  by_cases h0 : 0 ≤ x ∧ x ≤ 9
  · have hd : (decide ((0 : Int) ≤ x) && decide (x ≤ 9)) = true := by simp [h0]
    obtain ⟨n, rfl⟩ : ∃ n : Nat, x = n := ⟨x.toNat, by omega⟩
    have HT := Lib.hid (planeS_ok n (by omega))
    have hz := (planeD_ok n (by omega)).1
    have hz' := (planeD_ok n (by omega)).2
    obtain ⟨r, hr⟩ : ∃ r, chS ((2 * n : Nat) : Int) n n = r := ⟨_, rfl⟩
    rw [hr] at HT
    have HR := Lib.hid hr; clear hr
    go_enter Try.func21, Try.ntmps21
    go_wp2_with fail
    refine (in_any w n 0 9).mono ?_
    rintro e w' ⟨rfl, rfl⟩
    rw [hd]
    go_wp2_with fail
    go_loop [3, 4] (fun v iv => ∃ i : Nat, i ≤ n ∧ iv = .int .i64 i ∧ v = .int .i64 (pwS i)) (fun _ iv => n - (intOf iv).toNat)
    case atStart => exact ⟨0, Nat.zero_le _, rfl, rfl⟩
    case round =>
      obtain ⟨i, hi, rfl, rfl⟩ := hrel
      by_cases hlt : i < n
      · go_wp2
        go_round
        case rel => exact ⟨i + 1, by omega, by go_num, rfl⟩
        case measure => simp [intOf]; omega
      · obtain rfl : i = n := by omega
        go_wp2_with fail
        refine (l3Choose_any w' (2 * i) i (by omega) (by omega) HR.out).mono ?_
        rintro e w2 ⟨rfl, rfl⟩
        go_wp2_with fail
        go_ret
        exact ⟨retI HT.out, rfl⟩
  · have hd : (decide ((0 : Int) ≤ x) && decide (x ≤ 9)) = false := by simp; omega
    go_enter Try.func21, Try.ntmps21
    go_wp2_with fail
    refine (in_any w x 0 9).mono ?_
    rintro e w' ⟨rfl, rfl⟩
    rw [hd]
    go_wp2_with fail
    go_ret
    exact ⟨retI (by rw [planeF, if_neg h0]), rfl⟩

end Go.Proofs.Ytfcgfeopmnjfjaa
