/-
  FnGluingRun: the walk of the law.
-/
import Derived.Test.YtolbcdhkjhbepaaDrawG
import Derived.Test.YtolbcdhkjhbepaaGRun
namespace Go.Proofs.Ytolbcdhkjhbepaa
open Go.RowKit
set_option linter.unusedVariables false

def lSum (n : Int) : Nat → Int
  | 0 => 0
  | k + 1 => wrap64 (lSum n k + grunF n k)
def odL : Nat → Int
  | 0 => 1
  | i + 1 => wrap64 (odL i * (2 * ((i : Int) + 1) - 1))
theorem grun_facts : ∀ e : Nat, e < 10 → ∀ g : Nat, g < 6 → decide (grunF e g < 0) = false ∧ (decide (0 < grunF e g) == decide (2 * (g : Int) ≤ e)) = true := by decide +kernel
theorem grun_sum : ∀ e : Nat, e < 10 → (lSum e 6 == odL e) = true := by decide +kernel

set_option maxRecDepth 20000 in
set_option maxHeartbeats 3200000 in
theorem walk_FnGluingRun (A : Option Addr) (n c : Nat) (bs : List Int) (w : World) (h : RdB w A n bs) (hm : n ≤ maxLen ∧ n ≤ c) :
    Calls Try.prog 7 #[.slice A n c] w fun e w' => e = .returned (.bool true) ∧ Below w.heap.size w w' := by
  have HB0 := Lib.hid h
  have hc := hm.2
  clear h hm
  by_cases hbig : 1048576 < n
  · have hd : decide ((1048576 : Int) < n) = true := by simp; omega
    go_enter Try.func7, Try.ntmps7
    go_wp2
    go_ret
    exact ⟨rfl, Below.refl _ _⟩
  have hd : decide ((1048576 : Int) < n) = false := by simp; omega
  have hnb : n ≤ 1048576 := by omega
  go_enter Try.func7, Try.ntmps7
  go_wp2_with fail
  refine (drawGRun_any w A n c bs HB0.out hnb hc).mono ?_
  rintro x w1 ⟨e, g, rfl, h1, h2, b1⟩
  have HB1 := Lib.hid b1; clear b1 hbig hc HB0 hd hnb
  have hw : (Lit.int .i64 e).wf = true := wf_far h1
  have hw' : (Lit.int .i64 g).wf = true := wf_far h2
  obtain ⟨r, hr⟩ : ∃ r, grunF e g = r := ⟨_, rfl⟩
  have HR := Lib.hid hr; clear hr
  have hrr : (r != r) = false := by simp
  have hrr2 : (r == r) = true := by simp
  go_wp2_with fail
  refine (impl_grun w1 e g hw hw' HR.out).mono ?_
  rintro x w2 ⟨rfl, b2⟩
  have HB2 := Lib.hid (HB1.out.trans (b2.mono HB1.out.size)); clear b2
  go_wp2_with fail
  refine (spec_grun w2 e g hw hw' HR.out).mono ?_
  rintro x w3 ⟨rfl, b3⟩
  have HB3 := Lib.hid (HB2.out.trans (b3.mono HB2.out.size)); clear b3 HB1 HB2
  by_cases hv : 0 ≤ e ∧ e ≤ 9 ∧ 0 ≤ g ∧ g ≤ 5
  · obtain ⟨k, rfl⟩ : ∃ k : Nat, e = k := ⟨e.toNat, by omega⟩
    obtain ⟨l, rfl⟩ : ∃ l : Nat, g = l := ⟨g.toNat, by omega⟩
    obtain ⟨f1, f3⟩ := grun_facts k (by omega) l (by omega)
    have hk9 : k ≤ 9 := by omega
    have hl5 : l ≤ 5 := by omega
    rw [HR.out] at f1 f3
    clear hv h1 h2
    go_wp2_with fail
    go_loopw [7, 8] (fun sv jv wr => ∃ j : Nat, j ≤ 6 ∧ jv = .int .i64 j ∧ sv = .int .i64 (lSum k j) ∧ Hid (Below w.heap.size w wr)) (fun _ jv _ => 6 - (intOf jv).toNat)
    case atStart => exact ⟨0, by omega, rfl, rfl, HB3⟩
    case round =>
      obtain ⟨j, hj, rfl, rfl, hb⟩ := hrel
      by_cases hlt : j < 6
      · have hwj : (Lit.int .i64 (j : Int)).wf = true := wf_far (by omega)
        have hd2 : decide ((j : Int) ≤ 5) = true := by simp; omega
        go_wp2_with fail
        refine (impl_grun wr k j hw hwj rfl).mono ?_
        rintro x w4 ⟨rfl, b4⟩
        have HB4 := Lib.hid (hb.out.trans (b4.mono hb.out.size)); clear b4
        go_wp2_with fail
        go_roundw
        case rel => exact ⟨j + 1, by omega, by go_num, rfl, HB4⟩
        case measure => simp [intOf]; omega
      · obtain rfl : j = 6 := by omega
        have HS := Lib.hid (grun_sum k (by omega))
        obtain ⟨sv, hsv⟩ : ∃ sv, lSum k 6 = sv := ⟨_, rfl⟩
        rw [hsv] at HS ⊢
        clear hsv hlt hj
        go_wp2_with fail
        go_loop [9, 10] (fun ov iv => ∃ i : Nat, i ≤ k ∧ iv = .int .i64 (i + 1) ∧ ov = .int .i64 (odL i)) (fun _ iv => k + 1 - (intOf iv).toNat)
        case atStart => exact ⟨0, by omega, rfl, rfl⟩
        case round =>
          obtain ⟨i, hi, rfl, rfl⟩ := hrel
          by_cases hlt : i < k
          · have hd2 : decide ((i : Int) + 1 ≤ (k : Int)) = true := by simp; omega
            go_wp2_with fail
            go_round
            case rel => exact ⟨i + 1, by omega, by go_num, rfl⟩
            case measure => simp [intOf]; omega
          · obtain rfl : i = k := by omega
            have hd2 : decide ((i : Int) + 1 ≤ (i : Int)) = false := by simp; omega
            obtain ⟨ov, hov⟩ : ∃ ov, odL i = ov := ⟨_, rfl⟩
            have hs2 : (sv == ov) = true := by rw [← hov]; exact HS.out
            rw [hov]
            clear hov
            go_wp2_with fail
            go_ret
            exact ⟨rfl, hb.out⟩
  · have hneg : decide (r < 0) = true := by rw [← HR.out, grunF, if_neg hv]; rfl
    go_wp2_with fail
    go_ret
    exact ⟨rfl, HB3.out⟩

end Go.Proofs.Ytolbcdhkjhbepaa
