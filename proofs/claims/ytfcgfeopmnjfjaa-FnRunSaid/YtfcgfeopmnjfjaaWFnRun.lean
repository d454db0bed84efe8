/-
  FnRun: the walk of the law.
-/
import Derived.Test.YtfcgfeopmnjfjaaDrawC
import Derived.Test.YtfcgfeopmnjfjaaRunT
namespace Go.Proofs.Ytfcgfeopmnjfjaa
open Go.RowKit

theorem run_facts : ∀ e : Nat, e < 10 → ∀ g : Nat, g < 6 → decide (runF e g < 0) = false ∧ (g = 0 → (runF e g == planeF e) = true) ∧ (decide (0 < runF e g) == decide (wrap64 (2 * (g : Int)) ≤ e)) = true := by decide +kernel

set_option maxRecDepth 20000 in
set_option maxHeartbeats 3200000 in
theorem walk_FnRun (A : Option Addr) (n c : Nat) (bs : List Int) (w : World) (h : RdB w A n bs) (hm : n ≤ maxLen ∧ n ≤ c) :
    Calls Try.prog 3 #[.slice A n c] w fun e w' => e = .returned (.bool true) ∧ Below w.heap.size w w' := by
  have HB0 := Lib.hid h
  have hc := hm.2
  clear h hm
  by_cases hbig : 1048576 < n
  · have hd : decide ((1048576 : Int) < n) = true := by simp; omega
    go_enter Try.func3, Try.ntmps3
    go_wp2
    go_ret
    exact ⟨rfl, Below.refl _ _⟩
  have hd : decide ((1048576 : Int) < n) = false := by simp; omega
  have hnb : n ≤ 1048576 := by omega
  go_enter Try.func3, Try.ntmps3
  go_wp2_with fail
  refine (drawRun_any w A n c bs HB0.out hnb hc).mono ?_
  rintro x w1 ⟨e, g, rfl, h1, h2, b1⟩
  have HB1 := Lib.hid b1; clear b1 hbig hc HB0
  have hw : (Lit.int .i64 e).wf = true := wf_far h1
  have hw' : (Lit.int .i64 g).wf = true := wf_far h2
  obtain ⟨r, hr⟩ : ∃ r, runF e g = r := ⟨_, rfl⟩
  have HR := Lib.hid hr; clear hr
  have hrr : (r != r) = false := by simp
  have hrr2 : (r == r) = true := by simp
  go_wp2_with fail
  refine (impl_run w1 e g hw hw' HR.out).mono ?_
  rintro x w2 ⟨rfl, b2⟩
  have HB2 := Lib.hid (HB1.out.trans (b2.mono HB1.out.size)); clear b2
  go_wp2_with fail
  refine (spec_run w2 e g hw hw' HR.out).mono ?_
  rintro x w3 ⟨rfl, b3⟩
  have HB3 := Lib.hid (HB2.out.trans (b3.mono HB2.out.size)); clear b3 HB1 HB2
  by_cases hv : 0 ≤ e ∧ e ≤ 9 ∧ 0 ≤ g ∧ g ≤ 5
  · obtain ⟨k, rfl⟩ : ∃ k : Nat, e = k := ⟨e.toNat, by omega⟩
    obtain ⟨l, rfl⟩ : ∃ l : Nat, g = l := ⟨g.toNat, by omega⟩
    obtain ⟨f1, f2, f3⟩ := run_facts k (by omega) l (by omega)
    rw [HR.out] at f1 f2 f3
    clear hv h1 h2
    by_cases hg : 0 < l
    · clear f2
      go_wp2_with fail
      go_ret
      exact ⟨rfl, HB3.out⟩
    · have hd0 : decide (0 < l) = false := by simp; omega
      have f2' := f2 (by omega)
      obtain ⟨p, hp⟩ : ∃ p, planeF k = p := ⟨_, rfl⟩
      rw [hp] at f2'
      have HP := Lib.hid hp; clear hp f2
      have HG := Lib.hid hg; clear hg
      go_wp2_with fail
      refine (impl_plane w3 k hw).mono ?_
      rintro x w4 ⟨rfl, rfl⟩
      rw [HP.out]
      go_wp2_with fail
      go_ret
      exact ⟨rfl, HB3.out⟩
  · have hneg : decide (r < 0) = true := by rw [← HR.out, runF, if_neg hv]; rfl
    go_wp2_with fail
    go_ret
    exact ⟨rfl, HB3.out⟩

end Go.Proofs.Ytfcgfeopmnjfjaa
