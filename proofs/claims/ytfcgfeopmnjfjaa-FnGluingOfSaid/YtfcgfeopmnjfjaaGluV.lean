/-
  GluingValid: the model's and the program's.
-/
import Derived.Test.YtfcgfeopmnjfjaaMul
import Derived.Test.YtfcgfeopmnjfjaaGlu
namespace Go.Proofs.Ytfcgfeopmnjfjaa
open Go.RowKit

set_option maxHeartbeats 1600000 in
theorem spec_glu (w : World) (A : Option Addr) (c n : Nat) (xs : List Int) (h : Rd w A n xs) (hn : n ≤ 1048576) {r : Bool} (hR : glu xs = r) :
    Calls Try.prog 87 #[.slice A n c] w fun e w' => e = .returned (.bool r) ∧ Below w.heap.size w w' := by
  have hxl := h.1
  have H := Lib.hid h; clear h
  have Hx := Lib.hid hxl; clear hxl
  have HR := Lib.hid hR; clear hR
  go_enter Try.func87, Try.ntmps87
  go_wp2_with fail
  go_loopw [3] (fun i wr => ∃ k q : Nat, k ≤ n ∧ i = .int .i64 k ∧ wr = w.drewN q ∧ Hid (∀ j, j < k → 0 ≤ gi xs j ∧ gi xs j < n ∧ gi xs j ≠ j ∧ gi xs (gn xs j) = j)) (fun i _ => n - (intOf i).toNat)
  case atStart => exact ⟨0, 0, Nat.zero_le _, rfl, rfl, fun j hj => absurd hj (by omega)⟩
  case round =>
    obtain ⟨k, q, hk, rfl, rfl, hall⟩ := hrel
    by_cases hlt : k < n
    · obtain ⟨ad, rfl, hc⟩ := H.out.at_ hlt
      by_cases hin : 0 ≤ gi xs k ∧ gi xs k ≤ (n : Int) - 1
      · obtain ⟨x, hx⟩ := Int.eq_ofNat_of_zero_le hin.1
        have hxn : x < n := by have := hin.2; rw [hx] at this; omega
        obtain ⟨ad', hA, hc'⟩ := H.out.at_ hxn
        simp only [Option.some.injEq] at hA
        subst hA
        rw [hx] at hc hin
        have hb := inB_true hin.1 hin.2
        have HX := Lib.hid hx; clear hx hin
        by_cases he : x = k
        · have he' : ((x : Int) == (k : Int)) = true := by simp [he]
          have HE := Lib.hid he; clear he
          go_wp2_with (go_at_call 64; refine (l6In_any _ _ _ _).mono ?_; rintro e w' ⟨rfl, rfl⟩)
          go_ret
          exact ⟨ret_bool (by rw [← HR.out, glu_false (fun v => (v.2.2 k (by rw [Hx.out]; exact hlt)).2.2.1 (by rw [HX.out, HE.out]))]), below_drewN (Below.refl _ _) _⟩
        · have he' : ((x : Int) == (k : Int)) = false := by simp; omega
          have HE := Lib.hid he; clear he
          by_cases hb2 : gi xs x = k
          · have hb3 : (gi xs x != (k : Int)) = false := by simp [hb2]
            have HB2 := Lib.hid hb2; clear hb2
            go_wp2_with (go_at_call 64; refine (l6In_any _ _ _ _).mono ?_; rintro e w' ⟨rfl, rfl⟩)
            go_roundw
            case rel => exact ⟨k + 1, q, by omega, by go_num, rfl, fun j hj => by
                by_cases e : j = k
                · subst e
                  rw [gn_of HX.out, HX.out]
                  exact ⟨by omega, by omega, fun e => HE.out (by omega), HB2.out⟩
                · exact hall.out j (by omega)⟩
            case measure => simp [intOf]; omega
          · have hb3 : (gi xs x != (k : Int)) = true := by simp [hb2]
            have HB2 := Lib.hid hb2; clear hb2
            go_wp2_with (go_at_call 64; refine (l6In_any _ _ _ _).mono ?_; rintro e w' ⟨rfl, rfl⟩)
            go_ret
            exact ⟨ret_bool (by rw [← HR.out, glu_false (fun v => HB2.out (by have := (v.2.2 k (by rw [Hx.out]; exact hlt)).2.2.2; rwa [gn_of HX.out] at this))]), below_drewN (Below.refl _ _) _⟩
      · have hb := inB_false hin
        have HI := Lib.hid hin; clear hin
        go_wp2_with (go_at_call 64; refine (l6In_any _ _ _ _).mono ?_; rintro e w' ⟨rfl, rfl⟩)
        go_ret
        exact ⟨ret_bool (by rw [← HR.out, glu_false (fun v => HI.out (by have := v.2.2 k (by rw [Hx.out]; exact hlt); rw [Hx.out] at this; omega))]), below_drewN (Below.refl _ _) _⟩
    · go_wp2_with (go_at_call 64; refine (l6In_any _ _ _ _).mono ?_; rintro e w' ⟨rfl, rfl⟩)
      go_ret
      refine ⟨ret_bool ?_, below_drewN (Below.refl _ _) _⟩
      rw [← HR.out]
      by_cases hi : (2 : Int) ≤ n ∧ (n : Int) ≤ 10
      · rw [inB_true hi.1 hi.2, glu_true]
        exact ⟨by rw [Hx.out]; omega, by rw [Hx.out]; omega, fun j hj => by rw [Hx.out] at hj ⊢; exact hall.out j (by omega)⟩
      · rw [inB_false hi, glu_false]
        intro v; apply hi; have := v.1; have := v.2.1; rw [Hx.out] at *; omega

set_option maxHeartbeats 1600000 in
theorem impl_glu (w : World) (A : Option Addr) (c n : Nat) (xs : List Int) (h : Rd w A n xs) (hn : n ≤ 1048576) {r : Bool} (hR : glu xs = r) :
    Calls Try.prog 85 #[.slice A n c] w fun e w' => e = .returned (.bool r) ∧ Below w.heap.size w w' := by
  have hxl := h.1
  have H := Lib.hid h; clear h
  have Hx := Lib.hid hxl; clear hxl
  have HR := Lib.hid hR; clear hR
  by_cases h2 : n < 2
  · have hd1 : decide ((n : Int) < 2) = true := by simp; omega
    go_enter Try.func85, Try.ntmps85
    go_wp2
    go_ret
    exact ⟨ret_bool (by rw [← HR.out, glu_false (fun v => by have := v.1; rw [Hx.out] at this; omega)]), Below.refl _ _⟩
  have hd1 : decide ((n : Int) < 2) = false := by simp; omega
  by_cases h10 : 10 < n
  · have hd2 : decide ((10 : Int) < n) = true := by simp; omega
    go_enter Try.func85, Try.ntmps85
    go_wp2
    go_ret
    exact ⟨ret_bool (by rw [← HR.out, glu_false (fun v => by have := v.2.1; rw [Hx.out] at this; omega)]), Below.refl _ _⟩
  have hd2 : decide ((10 : Int) < n) = false := by simp; omega
  go_enter Try.func85, Try.ntmps85
  go_wp2
  go_loop [15] (fun i => ∃ k : Nat, k ≤ n ∧ i = .int .i64 k ∧ Hid (∀ j, j < k → 0 ≤ gi xs j ∧ gi xs j < n ∧ gi xs j ≠ j ∧ gi xs (gn xs j) = j)) (fun i => n - (intOf i).toNat)
  case atStart => exact ⟨0, Nat.zero_le _, rfl, fun j hj => absurd hj (by omega)⟩
  case round =>
    obtain ⟨k, hk, rfl, hall⟩ := hrel
    by_cases hlt : k < n
    · obtain ⟨ad, rfl, hc⟩ := H.out.at_ hlt
      by_cases h0 : gi xs k < 0
      · have hg : decide (gi xs k < 0) = true := by simp [h0]
        have HI := Lib.hid h0; clear h0
        go_wp2
        go_ret
        exact ⟨ret_bool (by rw [← HR.out, glu_false (fun v => by have := v.2.2 k (by rw [Hx.out]; exact hlt); have := HI.out; omega)]), Below.refl _ _⟩
      by_cases h1 : (n : Int) ≤ gi xs k
      · have hg : decide (gi xs k < 0) = false := by simp; omega
        have hg' : decide ((n : Int) ≤ gi xs k) = true := by simp [h1]
        have HI := Lib.hid h1; clear h0 h1
        go_wp2
        go_ret
        exact ⟨ret_bool (by rw [← HR.out, glu_false (fun v => by have := v.2.2 k (by rw [Hx.out]; exact hlt); rw [Hx.out] at this; have := HI.out; omega)]), Below.refl _ _⟩
      obtain ⟨x, hx⟩ := Int.eq_ofNat_of_zero_le (show 0 ≤ gi xs k by omega)
      have hxn : x < n := by omega
      obtain ⟨ad', hA, hc'⟩ := H.out.at_ hxn
      simp only [Option.some.injEq] at hA
      subst hA
      rw [hx] at hc
      have hg : decide ((x : Int) < 0) = false := by simp
      have hg' : decide ((n : Int) ≤ x) = false := by simp; omega
      have HX := Lib.hid hx; clear hx h0 h1
      by_cases he : x = k
      · have he' : ((x : Int) == (k : Int)) = true := by simp [he]
        have HE := Lib.hid he; clear he
        go_wp2
        go_ret
        exact ⟨ret_bool (by rw [← HR.out, glu_false (fun v => (v.2.2 k (by rw [Hx.out]; exact hlt)).2.2.1 (by rw [HX.out, HE.out]))]), Below.refl _ _⟩
      have he' : ((x : Int) == (k : Int)) = false := by simp; omega
      have HE := Lib.hid he; clear he
      by_cases hb2 : gi xs x = k
      · have hb3 : (gi xs x != (k : Int)) = false := by simp [hb2]
        have HB2 := Lib.hid hb2; clear hb2
        go_wp2
        go_round
        case rel => exact ⟨k + 1, by omega, by go_num, fun j hj => by
            by_cases e : j = k
            · subst e
              rw [gn_of HX.out, HX.out]
              exact ⟨by omega, by omega, fun e => HE.out (by omega), HB2.out⟩
            · exact hall.out j (by omega)⟩
        case measure => simp [intOf]; omega
      · have hb3 : (gi xs x != (k : Int)) = true := by simp [hb2]
        have HB2 := Lib.hid hb2; clear hb2
        go_wp2
        go_ret
        exact ⟨ret_bool (by rw [← HR.out, glu_false (fun v => HB2.out (by have := (v.2.2 k (by rw [Hx.out]; exact hlt)).2.2.2; rwa [gn_of HX.out] at this))]), Below.refl _ _⟩
    · go_wp2
      go_ret
      refine ⟨ret_bool ?_, Below.refl _ _⟩
      rw [← HR.out, glu_true]
      exact ⟨by rw [Hx.out]; omega, by rw [Hx.out]; omega, fun j hj => by rw [Hx.out] at hj ⊢; exact hall.out j (by omega)⟩

end Go.Proofs.Ytfcgfeopmnjfjaa
