/-
  GluingChord, GluingPlanar: the model's and the program's.
-/
import Derived.Test.YtfcgfeopmnjfjaaGluV
import Derived.Test.YtfcgfeopmnjfjaaMul
namespace Go.Proofs.Ytfcgfeopmnjfjaa
open Go.RowKit

theorem chord_le {p : List Int} (h : IsG p) : chord p ≤ 100 := by
  have h1 := chN_le p p.length
  have h2 := Nat.mul_le_mul h.2.1 h.2.1
  unfold chord; omega
theorem chN_succ (p : List Int) (a : Nat) : chN p (a + 1) = chN p a + crA p a p.length := rfl
theorem chN_small {p : List Int} (h : IsG p) {a : Nat} (ha : a ≤ p.length) : chN p a ≤ 100 := by
  have h1 := chN_le p a
  have h3 := h.2.1
  have h2 := Nat.mul_le_mul (show a ≤ 10 by omega) h3
  omega

set_option maxHeartbeats 1600000 in
theorem cross_any (w : World) (A : Option Addr) (c n : Nat) (xs : List Int) (h : Rd w A n xs) (hg : IsG xs) :
    Calls Try.prog 94 #[.slice A n c] w fun e w' => e = .returned (.int .i64 (chord xs : Nat)) ∧ Below w.heap.size w w' := by
  have hxl := h.1
  have hn10 : n ≤ 10 := by rw [← hxl]; exact hg.2.1
  have H := Lib.hid h; clear h
  have Hx := Lib.hid hxl; clear hxl
  have HG := Lib.hid hg; clear hg
  go_enter Try.func94, Try.ntmps94
  go_wp2_with fail
  go_loop [3, 9] (fun s i => ∃ k : Nat, k ≤ n ∧ i = .int .i64 k ∧ s = .int .i64 (chN xs k : Nat)) (fun _ i => n - (intOf i).toNat)
  case atStart => exact ⟨0, Nat.zero_le _, rfl, rfl⟩
  case round =>
    obtain ⟨k, hk, rfl, rfl⟩ := hrel
    by_cases hlt : k < n
    · obtain ⟨ad, rfl, hc⟩ := H.out.at_ hlt
      have hgk := HG.out.2.2 k (by rw [Hx.out]; exact hlt)
      rw [Hx.out] at hgk
      have HK := Lib.hid (chN_small HG.out (a := k) (by rw [Hx.out]; omega))
      have hk1 : gi xs k ≤ n := by omega
      have HG1 := Lib.hid hgk; clear hgk
      go_wp2_with fail
      go_loop [3, 6] (fun s i => ∃ b : Nat, k < b ∧ b ≤ n ∧ i = .int .i64 b ∧ s = .int .i64 (chN xs k + crA xs k b : Nat)) (fun _ i => n - (intOf i).toNat)
      case atStart => exact ⟨k + 1, by omega, by omega, by go_num, by rw [crA_low _ _ _ (Nat.le_refl _)]; rfl⟩
      case round =>
        obtain ⟨b, hkb, hb, rfl, rfl⟩ := hrel
        have hsum : chN xs k + crA xs k b ≤ 200 := by have := HK.out; have := crA_le xs k b; omega
        by_cases hltb : (b : Int) < gi xs k
        · have hbn : b < n := by omega
          obtain ⟨ad', hA, hc'⟩ := H.out.at_ hbn
          simp only [Option.some.injEq] at hA
          subst hA
          have hd : decide ((b : Int) < gi xs k) = true := by simp [hltb]
          by_cases hcr : gi xs k < gi xs b
          · have hd2 : decide (gi xs k < gi xs b) = true := by simp [hcr]
            have HR := Lib.hid (crA_yes hkb hltb hcr)
            clear hcr
            go_wp2_with fail
            go_round
            case rel => exact ⟨b + 1, by omega, by omega, by go_num, by rw [HR.out]; go_num⟩
            case measure => simp [intOf]; omega
          · have hd2 : decide (gi xs k < gi xs b) = false := by simp; omega
            have HR := Lib.hid (crA_no hcr)
            clear hcr
            go_wp2_with fail
            go_round
            case rel => exact ⟨b + 1, by omega, by omega, by go_num, by rw [HR.out]⟩
            case measure => simp [intOf]; omega
        · have hd : decide ((b : Int) < gi xs k) = false := by simp; omega
          have HE := Lib.hid (crA_end (p := xs) (a := k) (b := b) (by rw [Hx.out]; exact hb) (by omega))
          go_wp2_with fail
          go_round
          case rel => exact ⟨k + 1, by omega, by go_num, by rw [chN_succ, HE.out]⟩
          case measure => simp [intOf]; omega
    · obtain rfl : k = n := by omega
      go_wp2_with fail
      go_ret
      exact ⟨ret_int (by unfold chord; rw [Hx.out]), Below.refl _ _⟩

end Go.Proofs.Ytfcgfeopmnjfjaa
