/-
  Lists of lists held against each other; a number sought in a list.
-/
import Derived.Test.YteajaikgeephmaaKitSS
import Derived.Test.YteajaikgeephmaaLawMap
import Derived.Test.YteajaikgeephmaaPar12
namespace Go.Proofs.Yteajaikgeephmaa
open Go.RowKit
set_option linter.unusedVariables false

theorem add_zero_ (a : Addr) : a.add 0 = a := by unfold Addr.add; split <;> simp_all

set_option maxHeartbeats 800000 in
theorem hasInt_any (A : Option Addr) (n c : Nat) (m : Int) (xs : List Int) (w : World) (h : Rd w A n xs) (hn : n ≤ 1048576) :
    Calls Try.prog 31 #[.slice A n c, .int .i64 m] w fun e w' => e = .returned (.bool (hasB xs m)) ∧ w = w' := by
  have H := Lib.hid h; have Hx := Lib.hid h.1; clear h
  go_enter Try.func31, Try.ntmps31
  go_wp2_with fail
  go_loop [5] (fun i => ∃ k : Nat, k ≤ n ∧ i = .int .i64 k ∧ Hid (∀ j, j < k → gi xs j ≠ m)) (fun i => n - (intOf i).toNat)
  case atStart => exact ⟨0, Nat.zero_le _, rfl, fun j hj => absurd hj (by omega)⟩
  case round =>
    obtain ⟨k, hk, rfl, hall⟩ := hrel
    by_cases hlt : k < n
    · obtain ⟨ad, rfl, hc⟩ := H.out.at_ hlt
      by_cases he : gi xs k = m
      · have he' : (gi xs k == m) = true := by simp [he]
        have HE : Hid (hasB xs m = true) := hasB_iff.2 ⟨k, by rw [Hx.out]; exact hlt, he⟩
        clear he
        go_wp2
        go_ret
        exact ⟨ret_bool HE.out.symm, rfl⟩
      · have he' : (gi xs k == m) = false := by simp [he]
        have HE := Lib.hid he; clear he
        go_wp2
        go_round
        case rel => exact ⟨k + 1, by omega, by go_num, fun j hj => by
          by_cases e : j = k
          · subst e; exact HE.out
          · exact hall.out j (by omega)⟩
        case measure => simp [intOf]; omega
    · have HE : Hid (hasB xs m = false) := by
        rw [Hid, Bool.eq_false_iff]
        intro hh
        obtain ⟨j, hj, e⟩ := hasB_iff.1 hh
        rw [Hx.out] at hj
        exact hall.out j (by omega) e
      go_wp2
      go_ret
      exact ⟨ret_bool HE.out.symm, rfl⟩

end Go.Proofs.Yteajaikgeephmaa
