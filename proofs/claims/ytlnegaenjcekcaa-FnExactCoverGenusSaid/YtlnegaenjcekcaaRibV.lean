/-
  ChoiceValid: the model's and the program's; what the program keeps of a choice are its bits.
-/
import Derived.Test.YtlnegaenjcekcaaRibP
import Derived.Test.YtlnegaenjcekcaaCounts
namespace Go.Proofs.Ytlnegaenjcekcaa
open Go.RowKit

noncomputable def chV (t f xs : List Int) : Bool := ascB (f.length / 2) xs && mapV t f
theorem in_any (x lo hi : Int) (w : World) : Calls Try.prog 69 #[.int .i64 x, .int .i64 lo, .int .i64 hi] w fun e w' => e = .returned (.bool (inB x lo hi)) ∧ w = w' := l6In_any x lo hi w

set_option maxHeartbeats 1600000 in
theorem l7Has_any (B : Option Addr) (d m : Nat) (xs : List Int) (x : Int) (w : World) (k : Rd w B m xs) (hm : m ≤ 1048576) :
    Calls Try.prog 50 #[.slice B m d, .int .i64 x] w fun e w' => e = .returned (.bool (hasL xs x)) ∧ w = w' := by
  have K := Lib.hid k; have KL := Lib.hid k.1; clear k
  go_enter Try.func50, Try.ntmps50
  go_wp2_with fail
  go_loop [5] (fun iv => ∃ j : Nat, j ≤ m ∧ iv = .int .i64 j ∧ Hid (∀ i, i < j → gi xs i ≠ x)) (fun iv => m - (intOf iv).toNat)
  case atStart => exact ⟨0, Nat.zero_le _, rfl, fun i hi => absurd hi (by omega)⟩
  case round =>
    obtain ⟨j, hj, rfl, hall⟩ := hrel
    by_cases hlt : j < m
    · obtain ⟨ad, rfl, hc⟩ := K.out.at_ hlt
      by_cases he : gi xs j = x
      · have hb : (gi xs j == x) = true := by simp [he]
        have HE := Lib.hid he; clear he
        go_wp2_with fail
        go_ret
        exact ⟨ret_bool (by
          symm
          rw [hasL, decide_eq_true_eq, ← HE.out, gi_eq (by rw [KL.out]; exact hlt)]
          exact List.getElem_mem _), rfl⟩
      · have hb : (gi xs j == x) = false := by simp [he]
        have HE := Lib.hid he; clear he
        go_wp2_with fail
        go_round
        case rel => exact ⟨j + 1, by omega, by go_num, fun i hi => by
            by_cases e : i = j
            · subst e; exact HE.out
            · exact hall.out i (by omega)⟩
        case measure => simp [intOf]; omega
    · go_wp2_with fail
      go_ret
      refine ⟨ret_bool ?_, rfl⟩
      symm
      rw [hasL, decide_eq_false_iff_not]
      intro hmem
      obtain ⟨i, hi, e⟩ := List.getElem_of_mem hmem
      exact hall.out i (by rw [KL.out] at hi; omega) (by rw [gi_eq hi, e])

/-! ### The program's -/
theorem edgeCount_any (b : Nat) (A A' : Option Addr) (n n' c c' h2 : Nat) (w : World) (hb : Box2 w b A n c A' n' c') (hn' : n' ≤ 1048576) (hh : n' / 2 = h2) :
    Calls Try.prog 66 #[.pointer (some ⟨b, 0, none⟩)] w fun e w' => e = .returned (.int .i64 h2) ∧ w = w' := by
  have c1 := hb.cell1
  have g2 : (n' : Int) / 2 = (h2 : Int) := by omega
  have HB := Lib.hid hb; clear hb hh
  go_enter Try.func66, Try.ntmps66
  go_wp2_with fail
  go_ret
  exact ⟨rfl, rfl⟩
/-- Whether there is an edge of this number. -/
def hasEB (h2 : Nat) (e : Int) : Bool := inB e 0 ((h2 : Int) - 1)
theorem shr_in : ∀ e : Nat, e < 6 → ∀ s : Nat, s < 64 → ((((s : Int) / 2 ^ e != 0) = !decide (s < 2 ^ e)) ∧ (s < 2 ^ e → bits BinOp.or IntKind.u64 (s : Int) (IntKind.u64.wrap (2 ^ e)) = ((s + 2 ^ e : Nat) : Int))) := by decide +kernel

end Go.Proofs.Ytlnegaenjcekcaa
