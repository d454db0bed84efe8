/-
  Lists of lists held against each other; a number sought in a list.
-/
import Derived.Test.YtkbdbkoeahihiaaKitSS
import Derived.Test.YtkbdbkoeahihiaaLawMap
import Derived.Test.YtkbdbkoeahihiaaPar12
namespace Go.Proofs.Ytkbdbkoeahihiaa
open Go.RowKit
set_option linter.unusedVariables false

set_option maxHeartbeats 800000 in
theorem sameLists_same (A A' : Option Addr) (n c c' : Nat) (xss : List (List Int)) (w : World) (h : RdSS w A n xss) (h' : RdSS w A' n xss) (hn : n ≤ 1048576) :
    Calls Try.prog 20 #[.slice A n c, .slice A' n c'] w fun e w' => e = .returned (.bool true) ∧ Below w.heap.size w w' := by
  have H := Lib.hid h; have H' := Lib.hid h'; clear h h'
  have ht : (((n : Nat) : Int) != n) = false := by simp
  go_enter Try.func20, Try.ntmps20
  go_wp2
  go_loopw [5] (fun i wr => ∃ k : Nat, k ≤ n ∧ i = .int .i64 k ∧ Hid (RdSS wr A n xss) ∧ Hid (RdSS wr A' n xss) ∧ Hid (Below w.heap.size w wr)) (fun i _ => n - (intOf i).toNat)
  case atStart => exact ⟨0, Nat.zero_le _, rfl, H, H', Below.refl _ _⟩
  case round =>
    clear H H'
    obtain ⟨k, hk, rfl, H, H', hb⟩ := hrel
    by_cases hlt : k < n
    · obtain ⟨ad, Aj, cj, nj, rfl, hc, hr, hm⟩ := H.out.at_ hlt
      obtain ⟨ad', Aj', cj', nj', rfl, hc', hr', hm'⟩ := H'.out.at_ hlt
      have HC : ∀ W, Rd W Aj nj (xss.getD k []) → Rd W Aj' nj' (xss.getD k []) → Calls Try.prog 17 #[.slice Aj nj cj, .slice Aj' nj' cj'] W fun e w' => e = .returned (.bool true) ∧ ∃ k, w' = W.drewN k := fun W h1 h2 =>
        (sameInts_any Aj Aj' nj nj' cj cj' _ _ W h1 h2 hm hm').mono fun e w' ⟨he, hk⟩ => ⟨by rw [he, eqB_refl], hk⟩
      have HC2 := Lib.hid HC; have HR := Lib.hid hr; have HR' := Lib.hid hr'; clear HC hr hr'
      go_wp2
      go_quiet ((go_at_call 17; exact Calls.quiet_of (HC2.out _ HR.out HR'.out)))
      go_wp2
      go_roundw
      case rel => exact ⟨k + 1, by omega, by go_num, H, H', below_drewN hb.out _⟩
      case measure => simp [intOf]; omega
    · go_wp2
      go_ret
      exact ⟨rfl, hb.out⟩

theorem add_zero_ (a : Addr) : a.add 0 = a := by unfold Addr.add; split <;> simp_all

end Go.Proofs.Ytkbdbkoeahihiaa
