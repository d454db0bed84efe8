/-
  FnGluingCount: the walk of the law.
-/
import Derived.Test.YtolbcdhkjhbepaaDrawE
import Derived.Test.YtolbcdhkjhbepaaGlK
import Derived.Test.YtolbcdhkjhbepaaGRun
namespace Go.Proofs.Ytolbcdhkjhbepaa
open Go.RowKit
set_option linter.unusedVariables false

theorem gcount_facts : ∀ n : Nat, n < 5 → 1 ≤ n → ∀ g : Nat, g < 3 → decide (gcountF n g < 0) = false ∧ (grunF n g == gcountF n g) = true ∧ (g = 0 → (gcountF n g == treesF n) = true) := by decide +kernel

set_option maxRecDepth 20000 in
set_option maxHeartbeats 3200000 in
theorem walk_FnGluingCount (A : Option Addr) (n c : Nat) (bs : List Int) (w : World) (h : RdB w A n bs) (hm : n ≤ maxLen ∧ n ≤ c) :
    Calls Try.prog 10 #[.slice A n c] w fun e w' => e = .returned (.bool true) ∧ Below w.heap.size w w' := by
  have HB0 := Lib.hid h
  have hc := hm.2
  clear h hm
  by_cases hbig : 1048576 < n
  · have hd : decide ((1048576 : Int) < n) = true := by simp; omega
    go_enter Try.func10, Try.ntmps10
    go_wp2
    go_ret
    exact ⟨rfl, Below.refl _ _⟩
  have hd : decide ((1048576 : Int) < n) = false := by simp; omega
  have hnb : n ≤ 1048576 := by omega
  go_enter Try.func10, Try.ntmps10
  go_wp2_with fail
  refine (drawGCount_any w A n c bs HB0.out hnb hc).mono ?_
  rintro x w1 ⟨e, g, rfl, h1, h2, b1⟩
  have HB1 := Lib.hid b1; clear b1 hbig hc HB0 hd hnb
  have hw : (Lit.int .i64 e).wf = true := wf_far (by omega)
  have hw' : (Lit.int .i64 g).wf = true := wf_far (by omega)
  obtain ⟨r, hr⟩ : ∃ r, gcountF e g = r := ⟨_, rfl⟩
  have HR := Lib.hid hr; clear hr
  have hrr : (r != r) = false := by simp
  have hrr2 : (r == r) = true := by simp
  go_wp2_with fail
  refine (impl_gcount w1 e g hw hw' HR.out).mono ?_
  rintro x w2 ⟨rfl, b2⟩
  have HB2 := Lib.hid (HB1.out.trans (b2.mono HB1.out.size)); clear b2
  go_wp2_with fail
  refine (spec_gcount w2 e g hw hw' HR.out).mono ?_
  rintro x w3 ⟨rfl, b3⟩
  have HB3 := Lib.hid (HB2.out.trans (b3.mono HB2.out.size)); clear b3 HB1 HB2
  by_cases hv : 1 ≤ e ∧ e ≤ 4 ∧ 0 ≤ g
  · obtain ⟨k, rfl⟩ : ∃ k : Nat, e = k := ⟨e.toNat, by omega⟩
    obtain ⟨l, rfl⟩ : ∃ l : Nat, g = l := ⟨g.toNat, by omega⟩
    obtain ⟨f1, f2, f3⟩ := gcount_facts k (by omega) (by omega) l (by omega)
    rw [HR.out] at f1 f2 f3
    obtain ⟨q, hq⟩ : ∃ q, grunF k l = q := ⟨_, rfl⟩
    have HQ := Lib.hid hq
    rw [hq] at f2
    obtain rfl : q = r := by simpa using f2
    obtain ⟨t, ht⟩ : ∃ t, treesF k = t := ⟨_, rfl⟩
    rw [ht] at f3
    have HT := Lib.hid ht
    have hw2 : (Lit.int .i64 (k : Int)).wf = true := hw
    clear f2 hq ht hv h1 h2
    have hqq1 : (q == -1 || q == q) = true := by simp
    by_cases hl : 0 < l
    · have hlz : decide ((0 : Int) < (l : Int)) = true := by simp; omega
      have HF3 := Lib.hid f3; clear f3
      by_cases hq1 : q = -1
      · have hq1' : (q == -1) = true := by simp [hq1]
        have HQ1 := Lib.hid hq1; clear hq1
        go_wp2_with fail
        refine (impl_grun w3 k l hw hw' HQ.out).mono ?_
        rintro x w4 ⟨rfl, b4⟩
        have HB4 := Lib.hid (HB3.out.trans (b4.mono HB3.out.size)); clear b4
        go_wp2_with fail
        go_ret
        exact ⟨rfl, HB4.out⟩
      · have hq1' : (q == -1) = false := by simp [hq1]
        have HQ1 := Lib.hid hq1; clear hq1
        go_wp2_with fail
        refine (impl_grun w3 k l hw hw' HQ.out).mono ?_
        rintro x w4 ⟨rfl, b4⟩
        have HB4 := Lib.hid (HB3.out.trans (b4.mono HB3.out.size)); clear b4
        go_wp2_with fail
        go_ret
        exact ⟨rfl, HB4.out⟩
    · have hlz : decide ((0 : Int) < (l : Int)) = false := by simp; omega
      have hlz' : decide (0 < l) = false := by simp; omega
      have f3' := f3 (by omega)
      have HF3 := Lib.hid f3; clear f3
      by_cases hq1 : q = -1
      · have hq1' : (q == -1) = true := by simp [hq1]
        have HQ1 := Lib.hid hq1; clear hq1
        go_wp2_with fail
        refine (impl_grun w3 k l hw hw' HQ.out).mono ?_
        rintro x w4 ⟨rfl, b4⟩
        have HB4 := Lib.hid (HB3.out.trans (b4.mono HB3.out.size)); clear b4
        go_wp2_with fail
        refine (impl_trees w4 k hw).mono ?_
        rintro x w5 ⟨rfl, rfl⟩
        rw [HT.out]
        go_wp2_with fail
        go_ret
        exact ⟨rfl, HB4.out⟩
      · have hq1' : (q == -1) = false := by simp [hq1]
        have HQ1 := Lib.hid hq1; clear hq1
        go_wp2_with fail
        refine (impl_grun w3 k l hw hw' HQ.out).mono ?_
        rintro x w4 ⟨rfl, b4⟩
        have HB4 := Lib.hid (HB3.out.trans (b4.mono HB3.out.size)); clear b4
        go_wp2_with fail
        refine (impl_trees w4 k hw).mono ?_
        rintro x w5 ⟨rfl, rfl⟩
        rw [HT.out]
        go_wp2_with fail
        go_ret
        exact ⟨rfl, HB4.out⟩
  · have hneg : decide (r < 0) = true := by rw [← HR.out, gcountF, if_neg hv]; rfl
    go_wp2_with fail
    go_ret
    exact ⟨rfl, HB3.out⟩

end Go.Proofs.Ytolbcdhkjhbepaa
