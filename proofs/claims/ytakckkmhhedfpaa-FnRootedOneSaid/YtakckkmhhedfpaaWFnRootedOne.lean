/-
  FnRootedOne: the walk of the law.
-/
import Derived.Test.YtakckkmhhedfpaaDrawR
import Derived.Test.YtakckkmhhedfpaaGRun
namespace Go.Proofs.Ytakckkmhhedfpaa
open Go.RowKit
set_option linter.unusedVariables false

def cntO (e g : Nat) : Int := sumP oneP ((lits e).filter (genP g))
set_option maxRecDepth 100000 in
theorem ro_facts : ∀ e : Nat, e < 4 → 1 ≤ e → ∀ g : Nat, g < 3 → (grunF e g == cntO e g) = true ∧ decide (cntO e g < 0) = false ∧ (g = 0 → (cntO e g == treesF e) = true) := by decide +kernel

set_option maxRecDepth 20000 in
set_option maxHeartbeats 3200000 in
theorem walk_FnRootedOne (A : Option Addr) (n c : Nat) (bs : List Int) (w : World) (h : RdB w A n bs) (hm : n ≤ maxLen ∧ n ≤ c) :
    Calls Try.prog 11 #[.slice A n c] w fun e w' => e = .returned (.bool true) ∧ Below w.heap.size w w' := by
  have HB0 := Lib.hid h
  have hc := hm.2
  clear h hm
  by_cases hbig : 1048576 < n
  · have hd : decide ((1048576 : Int) < n) = true := by simp; omega
    go_enter Try.func11, Try.ntmps11
    go_wp2
    go_ret
    exact ⟨rfl, Below.refl _ _⟩
  have hd : decide ((1048576 : Int) < n) = false := by simp; omega
  have hnb : n ≤ 1048576 := by omega
  go_enter Try.func11, Try.ntmps11
  go_wp2_with fail
  refine (drawRo_any w A n c bs HB0.out hnb hc).mono ?_
  rintro x w1 ⟨e, g, rfl, h1, h2, b1⟩
  have HB1 := Lib.hid b1; clear b1 hbig hc HB0
  have hw : (Lit.int .i64 e).wf = true := wf_far (by omega)
  have hw' : (Lit.int .i64 g).wf = true := wf_far (by omega)
  obtain ⟨r, hr⟩ : ∃ r, roF e g = r := ⟨_, rfl⟩
  have HR := Lib.hid hr; clear hr
  have hrr : (r != r) = false := by simp
  have hrr2 : (r == r) = true := by simp
  go_wp2_with fail
  refine (impl_ro w1 e g hw hw' HR.out).mono ?_
  rintro x w2 ⟨rfl, b2⟩
  have HB2 := Lib.hid (HB1.out.trans (b2.mono HB1.out.size)); clear b2
  go_wp2_with fail
  refine (spec_ro w2 e g hw hw' HR.out).mono ?_
  rintro x w3 ⟨rfl, b3⟩
  have HB3 := Lib.hid (HB2.out.trans (b3.mono HB2.out.size)); clear b3 HB1 HB2
  cases hok : okB e g with
  | false =>
    have hneg : r = -1 := by rw [← HR.out, roF, hok]; rfl
    subst hneg
    clear hok
    go_wp2_with fail
    go_ret
    exact ⟨rfl, HB3.out⟩
  | true =>
    obtain ⟨k, rfl, k1, k3, -, hg0⟩ := okB_nat hok
    obtain ⟨l, rfl⟩ : ∃ l : Nat, g = l := ⟨g.toNat, by omega⟩
    have hrv : r = cntO k l := by rw [← HR.out, roF, hok, if_pos rfl, Int.toNat_natCast, roL_len k1 k3]; rfl
    obtain ⟨f1, f3, f2⟩ := ro_facts k (by omega) k1 l (by omega)
    rw [← hrv] at f1 f2 f3
    clear hrv hok
    obtain ⟨q, hq⟩ : ∃ q, grunF k l = q := ⟨_, rfl⟩
    have HQ := Lib.hid hq
    rw [hq] at f1
    have HQR : Hid (q = r) := by rw [Hid]; simpa using f1
    clear hq f1
    go_wp2_with fail
    refine (impl_grun w3 k l hw hw' HQ.out).mono ?_
    rintro x w4 ⟨rfl, b4⟩
    have HB4 := Lib.hid (HB3.out.trans (b4.mono HB3.out.size)); clear b4
    rw [HQR.out]
    have hm1 : (r == -1) = false := by simp at f3 ⊢; omega
    by_cases hl : 0 < l
    · clear f2
      go_wp2_with fail
      go_ret
      exact ⟨rfl, HB4.out⟩
    · have hl0 : decide (0 < l) = false := by simp; omega
      have f4 := f2 (by omega)
      obtain ⟨s, hs⟩ : ∃ s, treesF k = s := ⟨_, rfl⟩
      rw [hs] at f4
      have HS := Lib.hid hs
      clear hs f2
      go_wp2_with fail
      refine (impl_trees w4 k hw).mono ?_
      rw [HS.out]
      rintro x w5 ⟨rfl, rfl⟩
      go_wp2_with fail
      go_ret
      exact ⟨rfl, HB4.out⟩

end Go.Proofs.Ytakckkmhhedfpaa
