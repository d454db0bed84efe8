/-
  Lists of lists held against each other; a number sought in a list.
-/
import Derived.Test.YtppblbmnjglhbaaKitSS
import Derived.Test.YtppblbmnjglhbaaLawMap
import Derived.Test.YtppblbmnjglhbaaPar12
namespace Go.Proofs.Ytppblbmnjglhbaa
open Go.RowKit
set_option linter.unusedVariables false

set_option maxHeartbeats 800000 in
theorem sameLists_same (A A' : Option Addr) (n c c' : Nat) (xss : List (List Int)) (w : World) (h : RdSS w A n xss) (h' : RdSS w A' n xss) (hn : n ≤ 1048576) :
    Calls Try.prog 18 #[.slice A n c, .slice A' n c'] w fun e w' => e = .returned (.bool true) ∧ Below w.heap.size w w' := by
  have H := Lib.hid h; have H' := Lib.hid h'; clear h h'
  have ht : (((n : Nat) : Int) != n) = false := by simp
  go_enter Try.func18, Try.ntmps18
  go_wp2
  go_loopw [5] (fun i wr => ∃ k : Nat, k ≤ n ∧ i = .int .i64 k ∧ Hid (RdSS wr A n xss) ∧ Hid (RdSS wr A' n xss) ∧ Hid (Below w.heap.size w wr)) (fun i _ => n - (intOf i).toNat)
  case atStart => exact ⟨0, Nat.zero_le _, rfl, H, H', Below.refl _ _⟩
  case round =>
    clear H H'
    obtain ⟨k, hk, rfl, H, H', hb⟩ := hrel
    by_cases hlt : k < n
    · obtain ⟨ad, Aj, cj, nj, rfl, hc, hr, hm⟩ := H.out.at_ hlt
      obtain ⟨ad', Aj', cj', nj', rfl, hc', hr', hm'⟩ := H'.out.at_ hlt
      have HC : ∀ W, Rd W Aj nj (xss.getD k []) → Rd W Aj' nj' (xss.getD k []) → Calls Try.prog 11 #[.slice Aj nj cj, .slice Aj' nj' cj'] W fun e w' => e = .returned (.bool true) ∧ ∃ k, w' = W.drewN k := fun W h1 h2 =>
        (sameInts_any Aj Aj' nj nj' cj cj' _ _ W h1 h2 hm hm').mono fun e w' ⟨he, hk⟩ => ⟨by rw [he, eqB_refl], hk⟩
      have HC2 := Lib.hid HC; have HR := Lib.hid hr; have HR' := Lib.hid hr'; clear HC hr hr'
      go_wp2
      go_quiet ((go_at_call 11; exact Calls.quiet_of (HC2.out _ HR.out HR'.out)))
      go_wp2
      go_roundw
      case rel => exact ⟨k + 1, by omega, by go_num, H, H', below_drewN hb.out _⟩
      case measure => simp [intOf]; omega
    · go_wp2
      go_ret
      exact ⟨rfl, hb.out⟩

theorem add_zero_ (a : Addr) : a.add 0 = a := by unfold Addr.add; split <;> simp_all

set_option maxHeartbeats 800000 in
theorem hasInt_any (A : Option Addr) (n c : Nat) (m : Int) (xs : List Int) (w : World) (h : Rd w A n xs) (hn : n ≤ 1048576) :
    Calls Try.prog 19 #[.slice A n c, .int .i64 m] w fun e w' => e = .returned (.bool (hasB xs m)) ∧ w = w' := by
  have H := Lib.hid h; have Hx := Lib.hid h.1; clear h
  go_enter Try.func19, Try.ntmps19
  go_wp2_with fail
  go_loop [5] (fun i => ∃ k : Nat, k ≤ n ∧ i = .int .i64 k ∧ Hid (∀ j, j < k → gi xs j ≠ m)) (fun i => n - (intOf i).toNat)
  case atStart => exact ⟨0, Nat.zero_le _, rfl, fun j hj => absurd hj (by omega)⟩
  case round =>
    obtain ⟨k, hk, rfl, hall⟩ := hrel
    by_cases hlt : k < n
    · obtain ⟨ad, rfl, hc⟩ := H.out.at_ hlt
      by_cases he : gi xs k = m
      · have he' : (gi xs k == m) = true := by simp [he]
        have HE : Hid (hasB xs m = true) := hasB_iff.2 ⟨k, by rw [Hx.out]; exact hlt, he⟩
        clear he
        go_wp2
        go_ret
        exact ⟨ret_bool HE.out.symm, rfl⟩
      · have he' : (gi xs k == m) = false := by simp [he]
        have HE := Lib.hid he; clear he
        go_wp2
        go_round
        case rel => exact ⟨k + 1, by omega, by go_num, fun j hj => by
          by_cases e : j = k
          · subst e; exact HE.out
          · exact hall.out j (by omega)⟩
        case measure => simp [intOf]; omega
    · have HE : Hid (hasB xs m = false) := by
        rw [Hid, Bool.eq_false_iff]
        intro hh
        obtain ⟨j, hj, e⟩ := hasB_iff.1 hh
        rw [Hx.out] at hj
        exact hall.out j (by omega) e
      go_wp2
      go_ret
      exact ⟨ret_bool HE.out.symm, rfl⟩

end Go.Proofs.Ytppblbmnjglhbaa
