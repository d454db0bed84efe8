/-
  PartsValid: the model's and the program's.
-/
import Derived.Test.YtkbdbkoeahihiaaKit
import Derived.Test.YtkbdbkoeahihiaaValid
import Derived.Test.YtkbdbkoeahihiaaPts
namespace Go.Proofs.Ytkbdbkoeahihiaa
open Go.RowKit

theorem addz (a : Addr) : a.add 0 = a := by cases a; unfold Addr.add; split <;> simp_all
theorem wadd {a b : Int} (h : -1000000000 ≤ a + b) (h' : a + b ≤ 1000000000) : IntKind.i64.wrap (a + b) = a + b := IntWalk.i64_in _ (by omega)
theorem wsub {a b : Int} (h : -1000000000 ≤ a - b) (h' : a - b ≤ 1000000000) : IntKind.i64.wrap (a - b) = a - b := IntWalk.i64_in _ (by omega)
theorem wsub1 {a b : Nat} (h : a = b + 1) (h' : a ≤ 1000000000) : IntKind.i64.wrap ((a : Int) - 1) = (b : Int) := by rw [IntWalk.i64_in _ (by omega)]; omega
theorem wadd1 {a b : Nat} (h : b = a + 1) (h' : a ≤ 1000000000) : IntKind.i64.wrap ((a : Int) + 1) = (b : Int) := by rw [IntWalk.i64_in _ (by omega)]; omega

set_option maxHeartbeats 1600000 in
theorem spec_ptq (w : World) (A : Option Addr) (c n : Nat) (xs : List Int) (h : Rd w A n xs) (hn : n ≤ 1048576) {r : Bool} (hR : pt xs = r) :
    Calls Try.prog 11 #[.slice A n c] w fun e w' => e = .returned (.bool r) ∧ ∃ q, w' = w.drewN q := by
  have hxl := h.1
  have H := Lib.hid h; clear h
  have Hx := Lib.hid hxl; clear hxl
  have HR := Lib.hid hR; clear hR
  go_enter Try.func11, Try.ntmps11
  go_wp2_with fail
  go_loopw [3, 4] (fun s i wr => ∃ (k q : Nat) (t : Int), k ≤ n ∧ s = .int .i64 t ∧ i = .int .i64 k ∧ wr = w.drewN q ∧ 0 ≤ t ∧ t ≤ 6 ∧ Hid (t = sumI (xs.take k)) ∧ Hid (∀ j, j < k → 1 ≤ gi xs j ∧ (0 < j → gi xs j ≤ gi xs (j - 1)))) (fun _ i _ => n - (intOf i).toNat)
  case atStart => exact ⟨0, 0, 0, Nat.zero_le _, rfl, rfl, rfl, Int.le_refl _, by decide, rfl, fun j hj => absurd hj (by omega)⟩
  case round =>
    obtain ⟨k, q, t, hk, rfl, rfl, rfl, ht0, ht6, hT, hall⟩ := hrel
    by_cases hlt : k < n
    · obtain ⟨ad, rfl, hc⟩ := H.out.at_ hlt
      by_cases hin : 1 ≤ gi xs k ∧ gi xs k ≤ 6
      · have hb := inB_true hin.1 hin.2
        obtain ⟨j, hj⟩ : ∃ j, j = k - 1 := ⟨_, rfl⟩
        have hjn : j < n := by omega
        obtain ⟨ad', hA, hc'⟩ := H.out.at_ hjn
        simp only [Option.some.injEq] at hA
        subst hA
        have h1 := hin.1
        have h2 := hin.2
        have HJ := Lib.hid hj; clear hj hin
        have hw := wadd (a := t) (b := gi xs k) (by omega) (by omega)
        have HK1 : Hid (sumI (xs.take (k + 1)) = t + gi xs k) := by rw [Hid, sumI_take_succ (by rw [Hx.out]; exact hlt), ← hT.out]
        by_cases h0 : 0 < k
        · have hd0 : decide ((0 : Int) < (k : Int)) = true := by simp; omega
          have hs1 := wsub1 (a := k) (b := j) (by have := HJ.out; omega) (by omega)
          by_cases hle : gi xs k ≤ gi xs j
          · have hd1 : decide (gi xs j < gi xs k) = false := by simp; omega
            have HLE := Lib.hid hle; clear hle
            by_cases h6 : t + gi xs k ≤ 6
            · have hd2 : decide (6 < t + gi xs k) = false := by simp; omega
              go_wp2_with fail
              go_quiet ((go_at_call 37; exact (l6In_any _ _ _ _).mono fun e w' h => ⟨h.1, _, h.2.symm⟩))
              go_wp2_with fail
              go_roundw
              case rel => exact ⟨k + 1, q + _, t + gi xs k, by omega, rfl, by go_num, rfl, by omega, h6, HK1.out.symm, fun i hi => by
                  by_cases e : i = k
                  · subst e; exact ⟨h1, fun _ => by rw [← HJ.out]; exact HLE.out⟩
                  · exact hall.out i (by omega)⟩
              case measure => simp [intOf]; omega
            · have hd2 : decide (6 < t + gi xs k) = true := by simp; omega
              go_wp2_with fail
              go_quiet ((go_at_call 37; exact (l6In_any _ _ _ _).mono fun e w' h => ⟨h.1, _, h.2.symm⟩))
              go_wp2_with fail
              go_ret
              exact ⟨ret_bool (by rw [← HR.out, pt_false (fun v => by have := v.take (k + 1); rw [HK1.out] at this; omega)]), q + _, rfl⟩
          · have hd1 : decide (gi xs j < gi xs k) = true := by simp; omega
            go_wp2_with fail
            go_quiet ((go_at_call 37; exact (l6In_any _ _ _ _).mono fun e w' h => ⟨h.1, _, h.2.symm⟩))
            go_wp2_with fail
            go_ret
            exact ⟨ret_bool (by rw [← HR.out, pt_false (fun v => by have := v.2.2.1 k (by rw [Hx.out]; exact hlt) h0; rw [← HJ.out] at this; omega)]), q + _, World.drewN_drewN _ _ _⟩
        · have hd0 : decide ((0 : Int) < (k : Int)) = false := by simp; omega
          by_cases h6 : t + gi xs k ≤ 6
          · have hd2 : decide (6 < t + gi xs k) = false := by simp; omega
            go_wp2_with fail
            go_quiet ((go_at_call 37; exact (l6In_any _ _ _ _).mono fun e w' h => ⟨h.1, _, h.2.symm⟩))
            go_wp2_with fail
            go_roundw
            case rel => exact ⟨k + 1, q + _, t + gi xs k, by omega, rfl, by go_num, rfl, by omega, h6, HK1.out.symm, fun i hi => by
                  by_cases e : i = k
                  · subst e; exact ⟨h1, fun h => absurd h h0⟩
                  · exact hall.out i (by omega)⟩
            case measure => simp [intOf]; omega
          · have hd2 : decide (6 < t + gi xs k) = true := by simp; omega
            go_wp2_with fail
            go_quiet ((go_at_call 37; exact (l6In_any _ _ _ _).mono fun e w' h => ⟨h.1, _, h.2.symm⟩))
            go_wp2_with fail
            go_ret
            exact ⟨ret_bool (by rw [← HR.out, pt_false (fun v => by have := v.take (k + 1); rw [HK1.out] at this; omega)]), q + _, rfl⟩
      · have hb := inB_false hin
        have HI := Lib.hid hin; clear hin
        go_wp2_with fail
        go_quiet ((go_at_call 37; exact (l6In_any _ _ _ _).mono fun e w' h => ⟨h.1, _, h.2.symm⟩))
        go_wp2_with fail
        go_ret
        exact ⟨ret_bool (by rw [← HR.out, pt_false (fun v => HI.out (v.le (by rw [Hx.out]; exact hlt)))]), q + _, World.drewN_drewN _ _ _⟩
    · obtain rfl : k = n := by omega
      have hs : t = sumI xs := by rw [hT.out, ← Hx.out, sumI_take_all]
      have hge := sumI_take_ge xs k (by rw [Hx.out]; exact Nat.le_refl _) (fun j hj => (hall.out j hj).1)
      rw [← hT.out] at hge
      have HS := Lib.hid hs; have HG := Lib.hid hge
      clear hs hge
      go_wp2_with fail
      go_ret
      refine ⟨ret_bool ?_, _, rfl⟩
      rw [← HR.out]
      by_cases h0 : 0 < t
      · rw [pt_true]
        · simpa using h0
        · refine ⟨?_, fun j hj => (hall.out j (by rw [Hx.out] at hj; exact hj)).1, fun j hj hp => (hall.out j (by rw [Hx.out] at hj; exact hj)).2 hp, by rw [← HS.out]; exact ht6⟩
          rcases Nat.eq_zero_or_pos xs.length with e | e
          · rw [HS.out] at h0; rw [List.length_eq_zero_iff.1 e] at h0; simp [sumI] at h0
          · exact e
      · rw [pt_false]
        · simpa using h0
        · intro v; have := v.sum; rw [← HS.out] at this; omega

theorem spec_pt (w : World) (A : Option Addr) (c n : Nat) (xs : List Int) (h : Rd w A n xs) (hn : n ≤ 1048576) {r : Bool} (hR : pt xs = r) :
    Calls Try.prog 11 #[.slice A n c] w fun e w' => e = .returned (.bool r) ∧ Below w.heap.size w w' :=
  (spec_ptq w A c n xs h hn hR).mono fun _ _ ⟨he, k, hw⟩ => ⟨he, hw ▸ below_drewN (Below.refl _ _) k⟩

set_option maxHeartbeats 1600000 in
theorem impl_pts (w : World) (A : Option Addr) (c n : Nat) (xs : List Int) (h : Rd w A n xs) (hn : n ≤ 1048576) {r : Bool} (hR : pt xs = r) :
    Calls Try.prog 10 #[.slice A n c] w fun e w' => e = .returned (.bool r) ∧ w' = w := by
  have hxl := h.1
  have H := Lib.hid h; clear h
  have Hx := Lib.hid hxl; clear hxl
  have HR := Lib.hid hR; clear hR
  by_cases hz : n = 0
  · subst hz
    go_enter Try.func10, Try.ntmps10
    go_wp2_with fail
    go_ret
    exact ⟨ret_bool (by rw [← HR.out, pt_false (fun v => by have := v.1; rw [Hx.out] at this; omega)]), rfl⟩
  have hnz : ((n : Int) == 0) = false := by simp; omega
  go_enter Try.func10, Try.ntmps10
  go_wp2_with fail
  go_loop [3, 4, 12] (fun a l i => ∃ (k : Nat) (t u : Int), k ≤ n ∧ a = .int .i64 t ∧ l = .int .i64 u ∧ i = .int .i64 k ∧ 0 ≤ u ∧ u ≤ 6 ∧ t ≤ 6 ∧ Hid (u = 6 - sumI (xs.take k)) ∧ Hid (t = if k = 0 then 6 else gi xs (k - 1)) ∧ Hid (∀ j, j < k → 1 ≤ gi xs j ∧ (0 < j → gi xs j ≤ gi xs (j - 1)))) (fun _ _ i => n - (intOf i).toNat)
  case atStart => exact ⟨0, 6, 6, Nat.zero_le _, rfl, rfl, rfl, by decide, by decide, by decide, rfl, rfl, fun j hj => absurd hj (by omega)⟩
  case round =>
    obtain ⟨k, t, u, hk, rfl, rfl, rfl, hu0, hu6, ht6, hU, hT, hall⟩ := hrel
    by_cases hlt : k < n
    · obtain ⟨ad, rfl, hc⟩ := H.out.at_ hlt
      have HK1 : Hid (sumI (xs.take (k + 1)) = 6 - u + gi xs k) := by rw [Hid, sumI_take_succ (by rw [Hx.out]; exact hlt)]; have := hU.out; omega
      by_cases h1 : gi xs k < 1
      · have hd1 : decide (gi xs k < 1) = true := by simpa using h1
        have HI := Lib.hid h1; clear h1
        go_wp2_with fail
        go_ret
        exact ⟨ret_bool (by rw [← HR.out, pt_false (fun v => by have := v.2.1 k (by rw [Hx.out]; exact hlt); have := HI.out; omega)]), rfl⟩
      have hd1 : decide (gi xs k < 1) = false := by simp; omega
      by_cases h2 : t < gi xs k
      · have hd2 : decide (t < gi xs k) = true := by simpa using h2
        have HI := Lib.hid h2; clear h2
        go_wp2_with fail
        go_ret
        refine ⟨ret_bool ?_, rfl⟩
        rw [← HR.out, pt_false]
        intro v
        have hi := HI.out
        rw [hT.out] at hi
        have hle := v.le (j := k) (by rw [Hx.out]; exact hlt)
        split at hi
        · omega
        · have := v.2.2.1 k (by rw [Hx.out]; exact hlt) (by omega); omega
      have hd2 : decide (t < gi xs k) = false := by simp; omega
      by_cases h3 : u < gi xs k
      · have hd3 : decide (u < gi xs k) = true := by simpa using h3
        have HI := Lib.hid h3; clear h3
        go_wp2_with fail
        go_ret
        exact ⟨ret_bool (by rw [← HR.out, pt_false (fun v => by have := v.take (k + 1); rw [HK1.out] at this; have := HI.out; omega)]), rfl⟩
      have hd3 : decide (u < gi xs k) = false := by simp; omega
      have hw := wsub (a := u) (b := gi xs k) (by omega) (by omega)
      have HT2 : Hid (0 < k → gi xs k ≤ gi xs (k - 1)) := fun h0 => by have := hT.out; rw [if_neg (by omega)] at this; omega
      have h1' : 1 ≤ gi xs k := by omega
      have h3' : gi xs k ≤ u := by omega
      clear h1 h2 h3
      go_wp2_with fail
      go_round
      case rel => exact ⟨k + 1, gi xs k, u - gi xs k, by omega, rfl, rfl, by go_num, by omega, by omega, by omega, by rw [Hid, HK1.out]; omega, by rw [Hid, if_neg (by omega), Nat.add_sub_cancel], fun i hi => by
          by_cases e : i = k
          · subst e; exact ⟨h1', HT2.out⟩
          · exact hall.out i (by omega)⟩
      case measure => simp [intOf]; omega
    · obtain rfl : k = n := by omega
      go_wp2_with fail
      go_ret
      refine ⟨ret_bool ?_, rfl⟩
      rw [← HR.out, pt_true]
      refine ⟨by rw [Hx.out]; omega, fun j hj => (hall.out j (by rw [Hx.out] at hj; exact hj)).1, fun j hj hp => (hall.out j (by rw [Hx.out] at hj; exact hj)).2 hp, ?_⟩
      have := hU.out
      rw [← Hx.out, sumI_take_all] at this
      omega

theorem impl_pt (w : World) (A : Option Addr) (c n : Nat) (xs : List Int) (h : Rd w A n xs) (hn : n ≤ 1048576) {r : Bool} (hR : pt xs = r) :
    Calls Try.prog 10 #[.slice A n c] w fun e w' => e = .returned (.bool r) ∧ Below w.heap.size w w' :=
  (impl_pts w A c n xs h hn hR).mono fun _ _ ⟨he, hw⟩ => ⟨he, hw ▸ Below.refl _ _⟩

end Go.Proofs.Ytkbdbkoeahihiaa
