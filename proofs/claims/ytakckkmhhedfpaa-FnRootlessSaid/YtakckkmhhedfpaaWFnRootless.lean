/-
  FnRootless: the walk of the law.
-/
import Derived.Test.YtakckkmhhedfpaaDrawR
namespace Go.Proofs.Ytakckkmhhedfpaa
open Go.RowKit
set_option linter.unusedVariables false

def cntR (e g : Nat) : Int := (((lits e).filter (genP g)).length : Int)
def cntS (e g : Nat) : Int := ((((lits e).filter (genP g)).filter isLeastP).length : Int)
set_option maxRecDepth 100000 in
theorem rs_facts : ∀ e, e < 4 → 1 ≤ e → ∀ g, g < 3 → decide (cntS e g < 0) = false ∧ decide (cntS e g ≤ cntR e g) = true ∧ decide (cntR e g ≤ wrap64 (2 * (e : Int) * cntS e g)) = true ∧ ((cntS e g == 0) == (cntR e g == 0)) = true ∧ decide (cntS e g ≤ 100) = true := by decide +kernel

set_option maxRecDepth 20000 in
set_option maxHeartbeats 3200000 in
theorem walk_FnRootless (A : Option Addr) (n c : Nat) (bs : List Int) (w : World) (h : RdB w A n bs) (hm : n ≤ maxLen ∧ n ≤ c) :
    Calls Try.prog 10 #[.slice A n c] w fun e w' => e = .returned (.bool true) ∧ Below w.heap.size w w' := by
  have HB0 := Lib.hid h
  have hc := hm.2
  clear h hm
  by_cases hbig : 1048576 < n
  · have hd : decide ((1048576 : Int) < n) = true := by simp; omega
    go_enter Try.func10, Try.ntmps10
    go_wp2
    go_ret
    exact ⟨rfl, Below.refl _ _⟩
  have hd : decide ((1048576 : Int) < n) = false := by simp; omega
  have hnb : n ≤ 1048576 := by omega
  go_enter Try.func10, Try.ntmps10
  go_wp2_with fail
  refine (drawRs_any w A n c bs HB0.out hnb hc).mono ?_
  rintro x w1 ⟨e, g, rfl, h1, h2, b1⟩
  have HB1 := Lib.hid b1; clear b1 hbig hc HB0
  have hw : (Lit.int .i64 e).wf = true := wf_far (by omega)
  have hw' : (Lit.int .i64 g).wf = true := wf_far (by omega)
  obtain ⟨r, hr⟩ : ∃ r, rsF e g = r := ⟨_, rfl⟩
  have HR := Lib.hid hr; clear hr
  have hrr : (r != r) = false := by simp
  have hrr2 : (r == r) = true := by simp
  go_wp2_with fail
  refine (impl_rs w1 e g hw hw' HR.out).mono ?_
  rintro x w2 ⟨rfl, b2⟩
  have HB2 := Lib.hid (HB1.out.trans (b2.mono HB1.out.size)); clear b2
  go_wp2_with fail
  refine (spec_rs w2 e g hw hw' HR.out).mono ?_
  rintro x w3 ⟨rfl, b3⟩
  have HB3 := Lib.hid (HB2.out.trans (b3.mono HB2.out.size)); clear b3 HB1 HB2
  cases hok : okB e g with
  | false =>
    have hneg : r = -1 := by rw [← HR.out, rsF, hok]; rfl
    subst hneg
    clear hok
    go_wp2_with fail
    go_ret
    exact ⟨rfl, HB3.out⟩
  | true =>
    obtain ⟨k, rfl, k1, k3, -, hg0⟩ := okB_nat hok
    obtain ⟨l, rfl⟩ : ∃ l : Nat, g = l := ⟨g.toNat, by omega⟩
    have hrv : r = cntS k l := by rw [← HR.out, rsF, hok, if_pos rfl, Int.toNat_natCast, lstL_len k1 k3]; rfl
    have HRC : Hid (rcF k l = cntR k l) := by rw [Hid, rcF, hok, if_pos rfl, Int.toNat_natCast, gL_len k1 k3]; rfl
    obtain ⟨f1, f2, f3, f4, f5⟩ := rs_facts k (by omega) k1 l (by omega)
    obtain ⟨s, hs⟩ : ∃ s, cntR k l = s := ⟨_, rfl⟩
    rw [← hrv] at f1 f2 f3 f4 f5
    rw [hs] at f2 f3 f4 HRC
    clear hrv hok hs
    have hw2 : IntKind.i64.wrap (2 * (k : Int)) = 2 * (k : Int) := by rw [IntWalk.i64_in _ (by omega)]
    go_wp2_with fail
    refine (impl_rc w3 k l hw hw' HRC.out).mono ?_
    rintro x w4 ⟨rfl, b4⟩
    have HB4 := Lib.hid (HB3.out.trans (b4.mono HB3.out.size)); clear b4
    go_wp2_with fail
    go_ret
    exact ⟨rfl, HB4.out⟩

end Go.Proofs.Ytakckkmhhedfpaa
