/-
  FnColors: the walk of the law.
-/
import Derived.Test.YtfcgfeopmnjfjaaDrawG
import Derived.Test.YtfcgfeopmnjfjaaGCol
namespace Go.Proofs.Ytfcgfeopmnjfjaa
open Go.RowKit
set_option linter.unusedVariables false

def powL (c : Int) : Nat → Int
  | 0 => 1
  | i + 1 => wrap64 (powL c i * c)
def cSum (n : Nat) (c : Int) : Nat → Int
  | 0 => 0
  | g + 1 => wrap64 (cSum n c g + wrap64 (grunF n g * powL c (n + 1 - 2 * g)))
theorem col_facts : ∀ n : Nat, n < 8 → 1 ≤ n → ∀ c : Nat, c < 9 → decide (colF n c < 0) = false ∧ (cSum n c (n / 2 + 1) == colF n c) = true := by decide +kernel

set_option maxRecDepth 20000 in
set_option maxHeartbeats 3200000 in
theorem walk_FnColors (A : Option Addr) (n c : Nat) (bs : List Int) (w : World) (h : RdB w A n bs) (hm : n ≤ maxLen ∧ n ≤ c) :
    Calls Try.prog 5 #[.slice A n c] w fun e w' => e = .returned (.bool true) ∧ Below w.heap.size w w' := by
  have HB0 := Lib.hid h
  have hc := hm.2
  clear h hm
  by_cases hbig : 1048576 < n
  · have hd : decide ((1048576 : Int) < n) = true := by simp; omega
    go_enter Try.func5, Try.ntmps5
    go_wp2
    go_ret
    exact ⟨rfl, Below.refl _ _⟩
  have hd : decide ((1048576 : Int) < n) = false := by simp; omega
  have hnb : n ≤ 1048576 := by omega
  go_enter Try.func5, Try.ntmps5
  go_wp2_with fail
  refine (drawGCol_any w A n c bs HB0.out hnb hc).mono ?_
  rintro x w1 ⟨e, g, rfl, h1, h2, b1⟩
  have HB1 := Lib.hid b1; clear b1 hbig hc HB0 hd hnb
  have hw : (Lit.int .i64 e).wf = true := wf_far h1
  have hw' : (Lit.int .i64 g).wf = true := wf_far h2
  obtain ⟨r, hr⟩ : ∃ r, colF e g = r := ⟨_, rfl⟩
  have HR := Lib.hid hr; clear hr
  have hrr : (r != r) = false := by simp
  have hrr2 : (r == r) = true := by simp
  go_wp2_with fail
  refine (impl_col w1 e g hw hw' HR.out).mono ?_
  rintro x w2 ⟨rfl, b2⟩
  have HB2 := Lib.hid (HB1.out.trans (b2.mono HB1.out.size)); clear b2
  go_wp2_with fail
  refine (spec_col w2 e g hw hw' HR.out).mono ?_
  rintro x w3 ⟨rfl, b3⟩
  have HB3 := Lib.hid (HB2.out.trans (b3.mono HB2.out.size)); clear b3 HB1 HB2
  by_cases hv : 1 ≤ e ∧ e ≤ 7 ∧ 0 ≤ g ∧ g ≤ 8
  · obtain ⟨n, rfl⟩ : ∃ k : Nat, e = k := ⟨e.toNat, by omega⟩
    obtain ⟨c, rfl⟩ : ∃ l : Nat, g = l := ⟨g.toNat, by omega⟩
    have hn1 : 1 ≤ n := by omega
    have hn7 : n ≤ 7 := by omega
    have hc8 : c ≤ 8 := by omega
    obtain ⟨f1, f3⟩ := col_facts n (by omega) hn1 c (by omega)
    rw [HR.out] at f1 f3
    have HF := Lib.hid f3
    clear hv h1 h2 f3
    go_wp2_with fail
    go_loopw [7, 8] (fun sv jv wr => ∃ j : Nat, j ≤ n / 2 + 1 ∧ jv = .int .i64 j ∧ sv = .int .i64 (cSum n c j) ∧ Hid (Below w.heap.size w wr)) (fun _ jv _ => n / 2 + 1 - (intOf jv).toNat)
    case atStart => exact ⟨0, by omega, rfl, rfl, HB3⟩
    case round =>
      obtain ⟨j, hj, rfl, rfl, hb⟩ := hrel
      by_cases hlt : 2 * j ≤ n
      · have hwj : (Lit.int .i64 (j : Int)).wf = true := wf_far (by omega)
        have hd2 : decide (2 * (j : Int) ≤ (n : Int)) = true := by simp; omega
        obtain ⟨q, hq⟩ : ∃ q, n + 1 - 2 * j = q := ⟨_, rfl⟩
        have hq' : (n : Int) + 1 - 2 * (j : Int) = q := by omega
        go_wp2_with fail
        go_loop [9, 10] (fun pv iv => ∃ i : Nat, i ≤ q ∧ iv = .int .i64 i ∧ pv = .int .i64 (powL c i)) (fun _ iv => q - (intOf iv).toNat)
        case atStart => exact ⟨0, by omega, rfl, rfl⟩
        case round =>
          obtain ⟨i, hi, rfl, rfl⟩ := hrel
          by_cases hlt2 : i < q
          · have hd3 : decide ((i : Int) < (n : Int) + 1 - 2 * (j : Int)) = true := by simp; omega
            go_wp2_with fail
            go_round
            case rel => exact ⟨i + 1, by omega, by go_num, rfl⟩
            case measure => simp [intOf]; omega
          · obtain rfl : i = q := by omega
            have hd3 : decide ((i : Int) < (n : Int) + 1 - 2 * (j : Int)) = false := by simp; omega
            have HQ := Lib.hid hq; clear hq hq' hlt2 hi
            go_wp2_with fail
            refine (impl_grun wr n j hw hwj rfl).mono ?_
            rintro x w4 ⟨rfl, b4⟩
            have HB4 := Lib.hid (hb.out.trans (b4.mono hb.out.size)); clear b4
            go_wp2_with fail
            go_roundw
            case rel => exact ⟨j + 1, by omega, by go_num, by rw [cSum, HQ.out], HB4⟩
            case measure => simp [intOf]; omega
      · obtain rfl : j = n / 2 + 1 := by omega
        have hd2 : decide (2 * ((n / 2 + 1 : Nat) : Int) ≤ (n : Int)) = false := by simp; omega
        obtain ⟨m, hm⟩ : ∃ m, n / 2 + 1 = m := ⟨_, rfl⟩
        rw [hm] at hd2 ⊢
        have hm5 : m ≤ 4 := by omega
        obtain ⟨sv, hsv⟩ : ∃ sv, cSum n c m = sv := ⟨_, rfl⟩
        have hs2 : (sv == r) = true := by rw [← hsv, ← hm]; exact HF.out
        rw [hsv]
        clear hsv hlt hj hm
        go_wp2_with fail
        go_ret
        exact ⟨rfl, hb.out⟩
  · have hneg : decide (r < 0) = true := by rw [← HR.out, colF, if_neg hv]; rfl
    go_wp2_with fail
    go_ret
    exact ⟨rfl, HB3.out⟩

end Go.Proofs.Ytfcgfeopmnjfjaa
