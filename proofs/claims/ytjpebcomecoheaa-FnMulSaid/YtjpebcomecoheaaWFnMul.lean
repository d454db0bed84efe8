/-
  FnMul: the walk of the law.
-/
import Derived.Test.YtjpebcomecoheaaLawKit
import Derived.Test.YtjpebcomecoheaaPar2
import Derived.Test.YtjpebcomecoheaaBack
import Derived.Test.YtjpebcomecoheaaMul
import Derived.Test.YtjpebcomecoheaaSign
import Derived.Test.YtjpebcomecoheaaValid
namespace Go.Proofs.Ytjpebcomecoheaa
open Go.RowKit

set_option maxRecDepth 100000 in
set_option maxHeartbeats 3200000 in
theorem walk_FnMul (A0 : Option Addr) (n0 c0 : Nat) (bs0 : List Int) (A1 : Option Addr) (n1 c1 : Nat) (bs1 : List Int) (w : World) (h0 : RdB w A0 n0 bs0) (hm0 : n0 ≤ maxLen ∧ n0 ≤ c0) (h1 : RdB w A1 n1 bs1) (hm1 : n1 ≤ maxLen ∧ n1 ≤ c1) :
    Calls Try.prog 3 #[.slice A0 n0 c0, .slice A1 n1 c1] w fun e w' => e = .returned (.bool true) ∧ Below w.heap.size w w' := by
  have HB0_0 := Lib.hid h0; have hc0 := hm0.2; have hml0 := hm0.1; clear h0 hm0; unfold maxLen at hml0
  have HB0_1 := Lib.hid h1; have hc1 := hm1.2; have hml1 := hm1.1; clear h1 hm1; unfold maxLen at hml1
  by_cases hbig0 : 1048576 < n0
  · have hd : decide ((1048576 : Int) < n0) = true := by simp; omega
    go_enter Try.func3, Try.ntmps3
    go_wp2
    go_ret
    exact ⟨rfl, Below.refl _ _⟩
  have hd0 : decide ((1048576 : Int) < n0) = false := by simp; omega
  have hnb0 : n0 ≤ 1048576 := by omega
  clear hbig0
  by_cases hbig1 : 1048576 < n1
  · have hd : decide ((1048576 : Int) < n1) = true := by simp; omega
    go_enter Try.func3, Try.ntmps3
    go_wp2
    go_ret
    exact ⟨rfl, Below.refl _ _⟩
  have hd1 : decide ((1048576 : Int) < n1) = false := by simp; omega
  have hnb1 : n1 ≤ 1048576 := by omega
  clear hbig1
  go_enter Try.func3, Try.ntmps3
  go_wp2_with fail
  refine (drawMul_any w A0 n0 c0 bs0 HB0_0.out hnb0 hc0).mono ?_
  rintro e w1 ⟨Ap, np, cp, p, Ag, ng, cg, g, rfl, r1, r2, hlp, hlg, b⟩
  have HNp := Lib.hid r1.1; have HNg := Lib.hid r2.1; have HRp := Lib.hid r1; have HRg := Lib.hid r2; clear r1 r2
  have HB := Lib.hid b; have hs := b.size; clear b
  by_cases hv : both p g = true
  · have HV := Lib.hid (both_iff.1 hv).1
    have HG := Lib.hid (both_iff.1 hv).2.1
    have HL := Lib.hid (both_iff.1 hv).2.2
    obtain rfl : np = ng := by have := HL.out; rw [HNp.out, HNg.out] at this; exact this
    have hn12 : np ≤ 12 := by have := HV.out.2.1; rw [HNp.out] at this; exact this
    have hn1 : 1 ≤ np := by have := HV.out.1; rw [HNp.out] at this; exact this
    have ht7 : ((n1 : Nat) : Int).tmod 7 = ((n1 % 7 : Nat) : Int) := rfl
    obtain ⟨j, hj⟩ : ∃ j, n1 % 7 = j := ⟨_, rfl⟩
    have hj7 : j < 7 := by omega
    rw [hj] at ht7
    clear hj
    go_wp2_with fail
    refine (impl_mulR w1 Ap cp np p HRp.out (by omega) Ag cg np g HRg.out (by omega) (ok := true) (ys := mulL p g) (by rw [mulR, if_pos (both_iff.2 ⟨HV.out, HG.out, (HNp.out).trans (HNg.out).symm⟩)])).mono ?_
    rintro e w2 ⟨v, rfl, o, b⟩
    have hl : (mulL p g : List Int).length = np := (mulL_len _ _).trans (HNp.out)
    obtain ⟨Aq, cq, rfl, -, -⟩ := o.form' hl
    have HRq := Lib.hid (o.rd hl); clear o hl
    replace HRp := Lib.hid (HRp.out.below b)
    replace HRg := Lib.hid (HRg.out.below b)
    replace HB := Lib.hid (HB.out.trans (b.mono hs)); replace hs := HB.out.size; clear b
    go_wp2_with fail
    refine (spec_mulR w2 Ap cp np p HRp.out (by omega) Ag cg np g HRg.out (by omega) (ok := true) (ys := mulL p g) (by rw [mulR, if_pos (both_iff.2 ⟨HV.out, HG.out, (HNp.out).trans (HNg.out).symm⟩)])).mono ?_
    rintro e w3 ⟨v, rfl, o, b⟩
    have hl : (mulL p g : List Int).length = np := (mulL_len _ _).trans (HNp.out)
    obtain ⟨Ar, cr, rfl, -, -⟩ := o.form' hl
    have HRr := Lib.hid (o.rd hl); clear o hl
    replace HRp := Lib.hid (HRp.out.below b)
    replace HRg := Lib.hid (HRg.out.below b)
    replace HRq := Lib.hid (HRq.out.below b)
    replace HB := Lib.hid (HB.out.trans (b.mono hs)); replace hs := HB.out.size; clear b
    go_wp2_with fail
    refine (same_yes w3 Aq Ar np np cq cr (mulL p g) (mulL p g) HRq.out HRr.out (by omega) (by omega) (rfl)).mono ?_
    rintro e w4 ⟨rfl, b⟩
    replace HRp := Lib.hid (HRp.out.below b)
    replace HRg := Lib.hid (HRg.out.below b)
    replace HRq := Lib.hid (HRq.out.below b)
    replace HRr := Lib.hid (HRr.out.below b)
    replace HB := Lib.hid (HB.out.trans (b.mono hs)); replace hs := HB.out.size; clear b
    clear HRr
    go_wp2_with fail
    rw [show (1 : Int) + (j : Int) = ((j + 1 : Nat) : Int) from by omega]
    refine (mixC_any w4 (np) (j + 1) (hn1) (by omega) (by omega)).mono ?_
    rintro e w5 ⟨v, rfl, o, b⟩
    have hl : (mixL np (j + 1) : List Int).length = np := mixL_len _ _
    obtain ⟨Ac, cc, rfl, -, -⟩ := o.form' hl
    have HRc := Lib.hid (o.rd hl); clear o hl
    replace HRp := Lib.hid (HRp.out.below b)
    replace HRg := Lib.hid (HRg.out.below b)
    replace HRq := Lib.hid (HRq.out.below b)
    replace HB := Lib.hid (HB.out.trans (b.mono hs)); replace hs := HB.out.size; clear b
    go_wp2_with fail
    refine (impl_mulR w5 Aq cq np (mulL p g) HRq.out (by omega) Ac cc np (mixL np (j + 1)) HRc.out (by omega) (ok := true) (ys := mulL (mulL p g) (mixL np (j + 1))) (by rw [mulR, if_pos (both_iff.2 ⟨(HV.out).mulL (HG.out) ((HNp.out).trans (HNg.out).symm), mixL_vld hn1 hn12, ((mulL_len _ _).trans (HNp.out)).trans (mixL_len _ _).symm⟩)])).mono ?_
    rintro e w6 ⟨v, rfl, o, b⟩
    have hl : (mulL (mulL p g) (mixL np (j + 1)) : List Int).length = np := (mulL_len _ _).trans ((mulL_len _ _).trans (HNp.out))
    obtain ⟨Ax, cx, rfl, -, -⟩ := o.form' hl
    have HRx := Lib.hid (o.rd hl); clear o hl
    replace HRp := Lib.hid (HRp.out.below b)
    replace HRg := Lib.hid (HRg.out.below b)
    replace HRq := Lib.hid (HRq.out.below b)
    replace HRc := Lib.hid (HRc.out.below b)
    replace HB := Lib.hid (HB.out.trans (b.mono hs)); replace hs := HB.out.size; clear b
    go_wp2_with fail
    refine (impl_mulR w6 Ag cg np g HRg.out (by omega) Ac cc np (mixL np (j + 1)) HRc.out (by omega) (ok := true) (ys := mulL g (mixL np (j + 1))) (by rw [mulR, if_pos (both_iff.2 ⟨HG.out, mixL_vld hn1 hn12, (HNg.out).trans (mixL_len _ _).symm⟩)])).mono ?_
    rintro e w7 ⟨v, rfl, o, b⟩
    have hl : (mulL g (mixL np (j + 1)) : List Int).length = np := (mulL_len _ _).trans (HNg.out)
    obtain ⟨Ay, cy, rfl, -, -⟩ := o.form' hl
    have HRy := Lib.hid (o.rd hl); clear o hl
    replace HRp := Lib.hid (HRp.out.below b)
    replace HRg := Lib.hid (HRg.out.below b)
    replace HRq := Lib.hid (HRq.out.below b)
    replace HRc := Lib.hid (HRc.out.below b)
    replace HRx := Lib.hid (HRx.out.below b)
    replace HB := Lib.hid (HB.out.trans (b.mono hs)); replace hs := HB.out.size; clear b
    go_wp2_with fail
    refine (impl_mulR w7 Ap cp np p HRp.out (by omega) Ay cy np (mulL g (mixL np (j + 1))) HRy.out (by omega) (ok := true) (ys := mulL p (mulL g (mixL np (j + 1)))) (by rw [mulR, if_pos (both_iff.2 ⟨HV.out, (HG.out).mulL (mixL_vld hn1 hn12) ((HNg.out).trans (mixL_len _ _).symm), (HNp.out).trans ((mulL_len _ _).trans (HNg.out)).symm⟩)])).mono ?_
    rintro e w8 ⟨v, rfl, o, b⟩
    have hl : (mulL p (mulL g (mixL np (j + 1))) : List Int).length = np := (mulL_len _ _).trans (HNp.out)
    obtain ⟨Az, cz, rfl, -, -⟩ := o.form' hl
    have HRz := Lib.hid (o.rd hl); clear o hl
    replace HRp := Lib.hid (HRp.out.below b)
    replace HRg := Lib.hid (HRg.out.below b)
    replace HRq := Lib.hid (HRq.out.below b)
    replace HRc := Lib.hid (HRc.out.below b)
    replace HRx := Lib.hid (HRx.out.below b)
    replace HRy := Lib.hid (HRy.out.below b)
    replace HB := Lib.hid (HB.out.trans (b.mono hs)); replace hs := HB.out.size; clear b
    go_wp2_with fail
    refine (impl_backR w8 Aq cq np (mulL p g) HRq.out (by omega) (ok := true) (ys := backL (mulL p g)) (by rw [backR, if_pos (vld_true ((HV.out).mulL (HG.out) ((HNp.out).trans (HNg.out).symm)))])).mono ?_
    rintro e w9 ⟨v, rfl, o, b⟩
    have hl : (backL (mulL p g) : List Int).length = np := (backL_len _).trans ((mulL_len _ _).trans (HNp.out))
    obtain ⟨Ab, cb, rfl, -, -⟩ := o.form' hl
    have HRb := Lib.hid (o.rd hl); clear o hl
    replace HRp := Lib.hid (HRp.out.below b)
    replace HRg := Lib.hid (HRg.out.below b)
    replace HRq := Lib.hid (HRq.out.below b)
    replace HRc := Lib.hid (HRc.out.below b)
    replace HRx := Lib.hid (HRx.out.below b)
    replace HRy := Lib.hid (HRy.out.below b)
    replace HRz := Lib.hid (HRz.out.below b)
    replace HB := Lib.hid (HB.out.trans (b.mono hs)); replace hs := HB.out.size; clear b
    go_wp2_with fail
    refine (impl_backR w9 Ap cp np p HRp.out (by omega) (ok := true) (ys := backL p) (by rw [backR, if_pos (vld_true (HV.out))])).mono ?_
    rintro e w10 ⟨v, rfl, o, b⟩
    have hl : (backL p : List Int).length = np := (backL_len _).trans (HNp.out)
    obtain ⟨Aab, cab, rfl, -, -⟩ := o.form' hl
    have HRab := Lib.hid (o.rd hl); clear o hl
    replace HRp := Lib.hid (HRp.out.below b)
    replace HRg := Lib.hid (HRg.out.below b)
    replace HRq := Lib.hid (HRq.out.below b)
    replace HRc := Lib.hid (HRc.out.below b)
    replace HRx := Lib.hid (HRx.out.below b)
    replace HRy := Lib.hid (HRy.out.below b)
    replace HRz := Lib.hid (HRz.out.below b)
    replace HRb := Lib.hid (HRb.out.below b)
    replace HB := Lib.hid (HB.out.trans (b.mono hs)); replace hs := HB.out.size; clear b
    go_wp2_with fail
    refine (impl_backR w10 Ag cg np g HRg.out (by omega) (ok := true) (ys := backL g) (by rw [backR, if_pos (vld_true (HG.out))])).mono ?_
    rintro e w11 ⟨v, rfl, o, b⟩
    have hl : (backL g : List Int).length = np := (backL_len _).trans (HNg.out)
    obtain ⟨Abb, cbb, rfl, -, -⟩ := o.form' hl
    have HRbb := Lib.hid (o.rd hl); clear o hl
    replace HRp := Lib.hid (HRp.out.below b)
    replace HRg := Lib.hid (HRg.out.below b)
    replace HRq := Lib.hid (HRq.out.below b)
    replace HRc := Lib.hid (HRc.out.below b)
    replace HRx := Lib.hid (HRx.out.below b)
    replace HRy := Lib.hid (HRy.out.below b)
    replace HRz := Lib.hid (HRz.out.below b)
    replace HRb := Lib.hid (HRb.out.below b)
    replace HRab := Lib.hid (HRab.out.below b)
    replace HB := Lib.hid (HB.out.trans (b.mono hs)); replace hs := HB.out.size; clear b
    go_wp2_with fail
    refine (impl_mulR w11 Abb cbb np (backL g) HRbb.out (by omega) Aab cab np (backL p) HRab.out (by omega) (ok := true) (ys := mulL (backL g) (backL p)) (by rw [mulR, if_pos (both_iff.2 ⟨backL_vld (HG.out), backL_vld (HV.out), ((backL_len _).trans (HNg.out)).trans ((backL_len _).trans (HNp.out)).symm⟩)])).mono ?_
    rintro e w12 ⟨v, rfl, o, b⟩
    have hl : (mulL (backL g) (backL p) : List Int).length = np := (mulL_len _ _).trans ((backL_len _).trans (HNg.out))
    obtain ⟨Ae, ce, rfl, -, -⟩ := o.form' hl
    have HRe := Lib.hid (o.rd hl); clear o hl
    replace HRp := Lib.hid (HRp.out.below b)
    replace HRg := Lib.hid (HRg.out.below b)
    replace HRq := Lib.hid (HRq.out.below b)
    replace HRc := Lib.hid (HRc.out.below b)
    replace HRx := Lib.hid (HRx.out.below b)
    replace HRy := Lib.hid (HRy.out.below b)
    replace HRz := Lib.hid (HRz.out.below b)
    replace HRb := Lib.hid (HRb.out.below b)
    replace HRab := Lib.hid (HRab.out.below b)
    replace HRbb := Lib.hid (HRbb.out.below b)
    replace HB := Lib.hid (HB.out.trans (b.mono hs)); replace hs := HB.out.size; clear b
    have hsm : signR (mulL p g) = signR p * signR g := sign_mul HV.out HG.out HL.out
    have hsb : ∀ u : List Int, Vld u → -1 ≤ signR u ∧ signR u ≤ 1 := fun u hu => by rcases sign_pm hu with h | h <;> omega
    have HSB := Lib.hid hsb; clear hsb
    have HSM := Lib.hid hsm; clear hsm
    go_wp2_with fail
    refine (validC_any w12 Aq cq np (mulL p g) HRq.out (by omega)).mono ?_
    rintro e w13 ⟨rfl, b⟩
    replace HRp := Lib.hid (HRp.out.below b)
    replace HRg := Lib.hid (HRg.out.below b)
    replace HRq := Lib.hid (HRq.out.below b)
    replace HRc := Lib.hid (HRc.out.below b)
    replace HRx := Lib.hid (HRx.out.below b)
    replace HRy := Lib.hid (HRy.out.below b)
    replace HRz := Lib.hid (HRz.out.below b)
    replace HRb := Lib.hid (HRb.out.below b)
    replace HRab := Lib.hid (HRab.out.below b)
    replace HRbb := Lib.hid (HRbb.out.below b)
    replace HRe := Lib.hid (HRe.out.below b)
    replace HB := Lib.hid (HB.out.trans (b.mono hs)); replace hs := HB.out.size; clear b
    rw [vld_true ((HV.out).mulL (HG.out) ((HNp.out).trans (HNg.out).symm))]
    go_wp2_with fail
    refine (same_yes w13 Ax Az np np cx cz (mulL (mulL p g) (mixL np (j + 1))) (mulL p (mulL g (mixL np (j + 1)))) HRx.out HRz.out (by omega) (by omega) (mul_assoc_ _ HV.out HL.out)).mono ?_
    rintro e w14 ⟨rfl, b⟩
    replace HRp := Lib.hid (HRp.out.below b)
    replace HRg := Lib.hid (HRg.out.below b)
    replace HRq := Lib.hid (HRq.out.below b)
    replace HRc := Lib.hid (HRc.out.below b)
    replace HRx := Lib.hid (HRx.out.below b)
    replace HRy := Lib.hid (HRy.out.below b)
    replace HRz := Lib.hid (HRz.out.below b)
    replace HRb := Lib.hid (HRb.out.below b)
    replace HRab := Lib.hid (HRab.out.below b)
    replace HRbb := Lib.hid (HRbb.out.below b)
    replace HRe := Lib.hid (HRe.out.below b)
    replace HB := Lib.hid (HB.out.trans (b.mono hs)); replace hs := HB.out.size; clear b
    go_wp2_with fail
    refine (same_yes w14 Ab Ae np np cb ce (backL (mulL p g)) (mulL (backL g) (backL p)) HRb.out HRe.out (by omega) (by omega) ((back_mul HV.out HG.out HL.out).symm)).mono ?_
    rintro e w15 ⟨rfl, b⟩
    replace HRp := Lib.hid (HRp.out.below b)
    replace HRg := Lib.hid (HRg.out.below b)
    replace HRq := Lib.hid (HRq.out.below b)
    replace HRc := Lib.hid (HRc.out.below b)
    replace HRx := Lib.hid (HRx.out.below b)
    replace HRy := Lib.hid (HRy.out.below b)
    replace HRz := Lib.hid (HRz.out.below b)
    replace HRb := Lib.hid (HRb.out.below b)
    replace HRab := Lib.hid (HRab.out.below b)
    replace HRbb := Lib.hid (HRbb.out.below b)
    replace HRe := Lib.hid (HRe.out.below b)
    replace HB := Lib.hid (HB.out.trans (b.mono hs)); replace hs := HB.out.size; clear b
    obtain ⟨s1, hs1⟩ : ∃ s, signR p = s := ⟨_, rfl⟩
    obtain ⟨s2, hs2⟩ : ∃ s, signR g = s := ⟨_, rfl⟩
    have hpm : s1 = 1 ∨ s1 = -1 := by rw [← hs1]; exact sign_pm HV.out
    have hpm2 : s2 = 1 ∨ s2 = -1 := by rw [← hs2]; exact sign_pm HG.out
    have HS3 : Hid (signR (mulL p g) = s1 * s2) := by rw [Hid, HSM.out, hs1, hs2]
    have HS1 := Lib.hid hs1; have HS2 := Lib.hid hs2; clear hs1 hs2
    go_wp2_with fail
    refine (impl_signR w15 Aq cq np (mulL p g) HRq.out (by omega) HS3.out).mono ?_
    rintro e w16 ⟨rfl, b⟩
    replace HRp := Lib.hid (HRp.out.below b)
    replace HRg := Lib.hid (HRg.out.below b)
    replace HRq := Lib.hid (HRq.out.below b)
    replace HRc := Lib.hid (HRc.out.below b)
    replace HRx := Lib.hid (HRx.out.below b)
    replace HRy := Lib.hid (HRy.out.below b)
    replace HRz := Lib.hid (HRz.out.below b)
    replace HRb := Lib.hid (HRb.out.below b)
    replace HRab := Lib.hid (HRab.out.below b)
    replace HRbb := Lib.hid (HRbb.out.below b)
    replace HRe := Lib.hid (HRe.out.below b)
    replace HB := Lib.hid (HB.out.trans (b.mono hs)); replace hs := HB.out.size; clear b
    go_wp2_with fail
    refine (impl_signR w16 Ap cp np p HRp.out (by omega) HS1.out).mono ?_
    rintro e w17 ⟨rfl, b⟩
    replace HRp := Lib.hid (HRp.out.below b)
    replace HRg := Lib.hid (HRg.out.below b)
    replace HRq := Lib.hid (HRq.out.below b)
    replace HRc := Lib.hid (HRc.out.below b)
    replace HRx := Lib.hid (HRx.out.below b)
    replace HRy := Lib.hid (HRy.out.below b)
    replace HRz := Lib.hid (HRz.out.below b)
    replace HRb := Lib.hid (HRb.out.below b)
    replace HRab := Lib.hid (HRab.out.below b)
    replace HRbb := Lib.hid (HRbb.out.below b)
    replace HRe := Lib.hid (HRe.out.below b)
    replace HB := Lib.hid (HB.out.trans (b.mono hs)); replace hs := HB.out.size; clear b
    go_wp2_with fail
    refine (impl_signR w17 Ag cg np g HRg.out (by omega) HS2.out).mono ?_
    rintro e w18 ⟨rfl, b⟩
    replace HRp := Lib.hid (HRp.out.below b)
    replace HRg := Lib.hid (HRg.out.below b)
    replace HRq := Lib.hid (HRq.out.below b)
    replace HRc := Lib.hid (HRc.out.below b)
    replace HRx := Lib.hid (HRx.out.below b)
    replace HRy := Lib.hid (HRy.out.below b)
    replace HRz := Lib.hid (HRz.out.below b)
    replace HRb := Lib.hid (HRb.out.below b)
    replace HRab := Lib.hid (HRab.out.below b)
    replace HRbb := Lib.hid (HRbb.out.below b)
    replace HRe := Lib.hid (HRe.out.below b)
    replace HB := Lib.hid (HB.out.trans (b.mono hs)); replace hs := HB.out.size; clear b
    rcases hpm with rfl | rfl <;> rcases hpm2 with rfl | rfl
    all_goals
      go_wp2_with fail
      go_ret
      exact ⟨rfl, HB.out⟩
  · have HV := Lib.hid hv
    go_wp2_with fail
    refine (impl_mulR w1 Ap cp np p HRp.out (by omega) Ag cg ng g HRg.out (by omega) (ok := false) (ys := []) (by rw [mulR, if_neg HV.out])).mono ?_
    rintro e w2 ⟨v, rfl, o, b⟩
    have hl : ([] : List Int).length = 0 := rfl
    obtain ⟨Aq, cq, rfl, -, -⟩ := o.form' hl
    have HRq := Lib.hid (o.rd hl); clear o hl
    replace HRp := Lib.hid (HRp.out.below b)
    replace HRg := Lib.hid (HRg.out.below b)
    replace HB := Lib.hid (HB.out.trans (b.mono hs)); replace hs := HB.out.size; clear b
    go_wp2_with fail
    refine (spec_mulR w2 Ap cp np p HRp.out (by omega) Ag cg ng g HRg.out (by omega) (ok := false) (ys := []) (by rw [mulR, if_neg HV.out])).mono ?_
    rintro e w3 ⟨v, rfl, o, b⟩
    have hl : ([] : List Int).length = 0 := rfl
    obtain ⟨Ar, cr, rfl, -, -⟩ := o.form' hl
    have HRr := Lib.hid (o.rd hl); clear o hl
    replace HRp := Lib.hid (HRp.out.below b)
    replace HRg := Lib.hid (HRg.out.below b)
    replace HRq := Lib.hid (HRq.out.below b)
    replace HB := Lib.hid (HB.out.trans (b.mono hs)); replace hs := HB.out.size; clear b
    go_wp2_with fail
    refine (same_yes w3 Aq Ar 0 0 cq cr [] [] HRq.out HRr.out (by omega) (by omega) (rfl)).mono ?_
    rintro e w4 ⟨rfl, b⟩
    replace HRp := Lib.hid (HRp.out.below b)
    replace HRg := Lib.hid (HRg.out.below b)
    replace HRq := Lib.hid (HRq.out.below b)
    replace HRr := Lib.hid (HRr.out.below b)
    replace HB := Lib.hid (HB.out.trans (b.mono hs)); replace hs := HB.out.size; clear b
    go_wp2_with fail
    refine (same_yes w4 Aq Ar 0 0 cq cr [] [] HRq.out HRr.out (by omega) (by omega) (rfl)).mono ?_
    rintro e w5 ⟨rfl, b⟩
    replace HRp := Lib.hid (HRp.out.below b)
    replace HRg := Lib.hid (HRg.out.below b)
    replace HRq := Lib.hid (HRq.out.below b)
    replace HRr := Lib.hid (HRr.out.below b)
    replace HB := Lib.hid (HB.out.trans (b.mono hs)); replace hs := HB.out.size; clear b
    go_wp2_with fail
    go_ret
    exact ⟨rfl, HB.out⟩

end Go.Proofs.Ytjpebcomecoheaa
