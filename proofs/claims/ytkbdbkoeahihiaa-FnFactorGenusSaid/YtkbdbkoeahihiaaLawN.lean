/-
  Numbers multiplied, the type of an exchange: what the laws of chapter 5 make.
-/
import Derived.Test.YtkbdbkoeahihiaaPtS
import Derived.Test.YtkbdbkoeahihiaaSeen
namespace Go.Proofs.Ytkbdbkoeahihiaa
open Go.RowKit

set_option maxHeartbeats 800000 in
theorem timesN_any (n : Nat) (w : World) (hn : n ≤ 7) :
    Calls Try.prog 23 #[.int .i64 n] w fun e w' => e = .returned (.int .i64 (fct n)) ∧ w' = w := by
  go_enter Try.func23, Try.ntmps23
  go_wp2_with fail
  go_loop [3, 4] (fun s i => ∃ (k : Nat) (t : Int), 1 ≤ k ∧ (k ≤ n ∨ (n = 0 ∧ k = 1)) ∧ s = .int .i64 t ∧ i = .int .i64 (k + 1 : Nat) ∧ Hid (t = fct k)) (fun _ i => n + 2 - (intOf i).toNat)
  case atStart => exact ⟨1, 1, Nat.le_refl _, by omega, rfl, rfl, rfl⟩
  case round =>
    obtain ⟨k, t, hk1, hk, rfl, rfl, hT⟩ := hrel
    obtain ⟨k1, hk1⟩ : ∃ k1, k1 = k + 1 := ⟨_, rfl⟩
    rw [← hk1]
    by_cases hlt : k < n
    · have hd : decide (k1 ≤ n) = true := by simp; omega
      have hm : IntKind.i64.wrap ((k1 : Int) * t) = fct k1 := by
        have e : (k1 : Int) * t = fct k1 := by rw [hT.out, hk1, fct]
        have := fct_in k1 (by omega)
        rw [e, IntWalk.i64_in _ (by omega)]
      have hk8 : k1 ≤ 8 := by omega
      have HK1 := Lib.hid hk1; clear hk1
      go_wp2_with fail
      go_round
      case rel => exact ⟨k1, fct k1, by have := HK1.out; omega, by have := HK1.out; omega, rfl, by have := HK1.out; subst this; go_num, rfl⟩
      case measure => have := HK1.out; simp [intOf]; omega
    · have hd : decide (k1 ≤ n) = false := by simp; omega
      have HK1 := Lib.hid hk1; clear hk1
      go_wp2_with fail
      go_ret
      refine ⟨ret_int ?_, rfl⟩
      rw [hT.out]
      rcases hk with hk | ⟨h0, h1⟩
      · rw [show k = n by omega]
      · rw [h0, h1]; rfl

/-- The type of an exchange of two of n points. -/
def swapL (n : Nat) : List Int := 2 :: List.replicate (n - 2) 1
theorem swapL_len {n : Nat} (h : 2 ≤ n) : (swapL n).length = n - 1 := by simp [swapL]; omega

set_option maxHeartbeats 800000 in
theorem swapType_any (n : Nat) (w : World) (hn : n ≤ 1000) :
    Calls Try.prog 27 #[.int .i64 n] w fun e w' => ∃ v, e = .returned v ∧ Own w' w.heap.size v (swapL n) ∧ Below w.heap.size w w' := by
  obtain ⟨i0, hinf, hz0, hz1, hz2⟩ := info_parts info_int
  go_enter Try.func27, Try.ntmps27
  go_wp2_with fail
  go_loopw [3, 4] (fun v i wr => ∃ k : Nat, k ≤ n - 2 ∧ i = .int .i64 (k + 2 : Nat) ∧ Hid (wr.ownsRow w.heap.size 3 1 v (k + 1) (ints (2 :: List.replicate k 1))) ∧ Hid (Below w.heap.size w wr)) (fun _ i _ => n + 2 - (intOf i).toNat)
  case atStart => exact ⟨0, Nat.zero_le _, rfl, World.ownsRow_lit w #[.int .i64 2] 1 (Nat.le_refl _) (by unfold maxLen; omega) rfl, (Below.refl _ _).alloc (Nat.le_refl _) _⟩
  case round =>
    obtain ⟨k, hk, rfl, ho, hb⟩ := hrel
    have hbs := hb.out.size
    obtain ⟨k2, hk2⟩ : ∃ k2, k + 2 = k2 := ⟨_, rfl⟩
    rw [hk2]
    by_cases hlt : k + 2 < n
    · have hd : decide (k2 < n) = true := by simp; omega
      have hk2n : k2 < n := by omega
      have HK2 := Lib.hid hk2; clear hk2
      go_wp2_with (at_builtin; refine wpList_append_own _ rfl _ _ 23 rfl w.heap.size 3 i0 (.int .i64 0) 1 8 Try.underlying23 hinf hz0 hz1 hz2 rfl (by decide) _ _ _ rfl (ho.out.alloc _) ⟨wr.heap.size, 0, none⟩ 1 1 [.int .i64 1] rfl rfl (cell_one_new _ _ _) (by intro u hu; simp at hu; subst hu; rfl) (by unfold maxLen; omega) (by omega) (by simp; omega) ?_; intro v1 wq hown1 hgrow1 _)
      have HO := Lib.hid hown1; have HGR := Lib.hid hgrow1; clear hown1 hgrow1
      go_wp2_with fail
      go_roundw
      case rel =>
        refine ⟨k + 1, by omega, by have := HK2.out; subst this; go_num, ?_, ?_⟩
        · have := HO.out
          rw [Hid, List.replicate_succ', ints, ← List.cons_append, List.map_append]
          exact this
        · exact (hb.out.alloc hbs _).grown HGR.out (by simp; omega) (fun j hj => (ho.out.lt j hj).1)
      case measure => simp [intOf]; omega
    · have hd : decide (k2 < n) = false := by simp; omega
      have hkn : k = n - 2 := by omega
      have HK2 := Lib.hid hk2; have HKN := Lib.hid hkn; clear hk2 hkn
      go_wp2_with fail
      go_ret
      refine ⟨_, rfl, ?_, hb.out⟩
      have := ho.out
      rw [Own, swapL, ← HKN.out]
      simpa using this

end Go.Proofs.Ytkbdbkoeahihiaa
