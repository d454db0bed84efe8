/-
  FnPower: the walk of the law.
-/
import Derived.Test.YtppblbmnjglhbaaDrawW
import Derived.Test.YtppblbmnjglhbaaPar11
import Derived.Test.YtppblbmnjglhbaaOrdBound
import Derived.Test.YtppblbmnjglhbaaPow
import Derived.Test.YtppblbmnjglhbaaMul
import Derived.Test.YtppblbmnjglhbaaImplOrd2
namespace Go.Proofs.Ytppblbmnjglhbaa
open Go.RowKit

set_option maxRecDepth 100000 in
set_option maxHeartbeats 3200000 in
theorem walk_FnPower (A0 : Option Addr) (n0 c0 : Nat) (bs0 : List Int) (w : World) (h0 : RdB w A0 n0 bs0) (hm0 : n0 ≤ maxLen ∧ n0 ≤ c0) :
    Calls Try.prog 3 #[.slice A0 n0 c0] w fun e w' => e = .returned (.bool true) ∧ Below w.heap.size w w' := by
  have HB0_0 := Lib.hid h0; have hc0 := hm0.2; have hml0 := hm0.1; clear h0 hm0; unfold maxLen at hml0
  by_cases hbig0 : 1048576 < n0
  · have hd : decide ((1048576 : Int) < n0) = true := by simp; omega
    go_enter Try.func3, Try.ntmps3
    go_wp2
    go_ret
    exact ⟨rfl, Below.refl _ _⟩
  have hd0 : decide ((1048576 : Int) < n0) = false := by simp; omega
  have hnb0 : n0 ≤ 1048576 := by omega
  clear hbig0
  go_enter Try.func3, Try.ntmps3
  go_wp2_with fail
  refine (drawPower_any w A0 n0 c0 bs0 HB0_0.out hnb0 hc0).mono ?_
  rintro e w1 ⟨v, p, k, rfl, o, hlp, hwk, b⟩
  obtain ⟨np, hn⟩ : ∃ n, p.length = n := ⟨_, rfl⟩
  rw [hn] at hlp
  obtain ⟨Ap, cp, rfl, -, -⟩ := o.form' hn
  have HRp := Lib.hid (o.rd hn); have HNp := Lib.hid hn; have HWK := Lib.hid hwk; clear o hn hwk
  have HB := Lib.hid b; have hs := b.size; clear b
  by_cases hv : vld p = true ∧ -1000 ≤ k ∧ k ≤ 1000
  · have HV := Lib.hid (Vld_of hv.1)
    have hk1 := hv.2.1; have hk2 := hv.2.2
    have HVV := Lib.hid hv; clear hv
    have hn12 : np ≤ 12 := by have := HV.out.2.1; rw [HNp.out] at this; exact this
    obtain ⟨M, hM⟩ : ∃ M, lcmL (cyclesL p) = M := ⟨_, rfl⟩
    have hM81 : M ≤ 81 := by rw [← hM]; exact ord_le81 HV.out
    have HO : Hid (ordR p = (M : Int)) := by rw [Hid, ordR, if_pos (vld_true HV.out), hM]
    have HPM : Hid (powL p (k + (M : Int)) = powL p k) := by rw [Hid, ← hM]; exact pow_period HV.out k
    have HM := Lib.hid hM; clear hM
    have hwf : ∀ u : Int, -2000 ≤ u ∧ u ≤ 2000 → (Lit.int .i64 u).wf = true := fun u hu => by
      simp [Lit.wf, IntKind.min, IntKind.max, IntKind.bits, IntKind.signed]; omega
    have HW1 := Lib.hid (hwf (k + (M : Int)) (by omega)); have HW2 := Lib.hid (hwf (k + 1) (by omega)); have HW0 := Lib.hid (hwf 0 (by omega)); clear hwf
    obtain ⟨qb, X, hX⟩ : ∃ qb X, powR p (k + (M : Int)) = (qb, X) := ⟨_, _, rfl⟩
    obtain ⟨sb, Y, hY⟩ : ∃ sb Y, powR p (k + 1) = (sb, Y) := ⟨_, _, rfl⟩
    have hXl := powR_len hX; have hYl := powR_len hY
    obtain ⟨nX, hnX⟩ : ∃ n, X.length = n := ⟨_, rfl⟩
    obtain ⟨nY, hnY⟩ : ∃ n, Y.length = n := ⟨_, rfl⟩
    rw [hnX] at hXl; rw [hnY] at hYl
    have HQX : Hid (qb = true → X = powL p k) := fun e => by
      subst e
      unfold powR at hX
      split at hX
      · have e2 := congrArg Prod.snd hX; simp only at e2; rw [← e2]; exact HPM.out
      · cases hX
    have HSY : Hid (sb = true → Y = mulL (powL p k) p) := fun e => by
      subst e
      unfold powR at hY
      split at hY
      · have e2 := congrArg Prod.snd hY; simp only at e2; rw [← e2]; exact pow_succ_ HV.out k
      · cases hY
    have HX := Lib.hid hX; have HY := Lib.hid hY; have HNX := Lib.hid hnX; have HNY := Lib.hid hnY; clear hX hY hnX hnY
    go_wp2_with fail
    refine (impl_powR w1 Ap cp np p HRp.out (by omega) (k) (HWK.out) (ok := true) (ys := powL p k) (by rw [powR, if_pos HVV.out])).mono ?_
    rintro e w2 ⟨v, rfl, o, b⟩
    have hl : (powL p k : List Int).length = np := (powL_len _ _).trans HNp.out
    obtain ⟨Aa, ca, rfl, -, -⟩ := o.form' hl
    have HRa := Lib.hid (o.rd hl); clear o hl
    replace HRp := Lib.hid (HRp.out.below b)
    replace HB := Lib.hid (HB.out.trans (b.mono hs)); replace hs := HB.out.size
    clear b
    go_wp2_with fail
    refine (spec_powR w2 Ap cp np p HRp.out (by omega) (k) (HWK.out) (ok := true) (ys := powL p k) (by rw [powR, if_pos HVV.out])).mono ?_
    rintro e w3 ⟨v, rfl, o, b⟩
    have hl : (powL p k : List Int).length = np := (powL_len _ _).trans HNp.out
    obtain ⟨Ar, cr, rfl, -, -⟩ := o.form' hl
    have HRr := Lib.hid (o.rd hl); clear o hl
    replace HRp := Lib.hid (HRp.out.below b)
    replace HRa := Lib.hid (HRa.out.below b)
    replace HB := Lib.hid (HB.out.trans (b.mono hs)); replace hs := HB.out.size
    clear b
    go_wp2_with fail
    refine (same_yes w3 Aa Ar np np ca cr (powL p k) (powL p k) HRa.out HRr.out (by omega) (by omega) (rfl)).mono ?_
    rintro e w4 ⟨rfl, b⟩
    replace HRp := Lib.hid (HRp.out.below b)
    replace HRa := Lib.hid (HRa.out.below b)
    replace HRr := Lib.hid (HRr.out.below b)
    replace HB := Lib.hid (HB.out.trans (b.mono hs)); replace hs := HB.out.size
    clear b
    clear HRr
    go_wp2_with fail
    refine (impl_ordR w4 Ap cp np p HRp.out (by omega) HO.out).mono ?_
    rintro e w5 ⟨rfl, b⟩
    replace HRp := Lib.hid (HRp.out.below b)
    replace HRa := Lib.hid (HRa.out.below b)
    replace HB := Lib.hid (HB.out.trans (b.mono hs)); replace hs := HB.out.size
    clear b
    go_wp2_with fail
    refine (impl_powR w5 Ap cp np p HRp.out (by omega) (k + (M : Int)) (HW1.out) (ok := qb) (ys := X) (HX.out)).mono ?_
    rintro e w6 ⟨v, rfl, o, b⟩
    have hl : (X : List Int).length = nX := HNX.out
    obtain ⟨Ax, cx, rfl, -, -⟩ := o.form' hl
    have HRx := Lib.hid (o.rd hl); clear o hl
    replace HRp := Lib.hid (HRp.out.below b)
    replace HRa := Lib.hid (HRa.out.below b)
    replace HB := Lib.hid (HB.out.trans (b.mono hs)); replace hs := HB.out.size
    clear b
    go_wp2_with fail
    refine (impl_powR w6 Ap cp np p HRp.out (by omega) (k + 1) (HW2.out) (ok := sb) (ys := Y) (HY.out)).mono ?_
    rintro e w7 ⟨v, rfl, o, b⟩
    have hl : (Y : List Int).length = nY := HNY.out
    obtain ⟨Ay, cy, rfl, -, -⟩ := o.form' hl
    have HRy := Lib.hid (o.rd hl); clear o hl
    replace HRp := Lib.hid (HRp.out.below b)
    replace HRa := Lib.hid (HRa.out.below b)
    replace HRx := Lib.hid (HRx.out.below b)
    replace HB := Lib.hid (HB.out.trans (b.mono hs)); replace hs := HB.out.size
    clear b
    go_wp2_with fail
    refine (impl_mulR w7 Aa ca np (powL p k) HRa.out (by omega) Ap cp np p HRp.out (by omega) (ok := true) (ys := mulL (powL p k) p) (by rw [mulR, if_pos (both_iff.2 ⟨powL_vld HV.out k, HV.out, by rw [powL_len]⟩)])).mono ?_
    rintro e w8 ⟨v, rfl, o, b⟩
    have hl : (mulL (powL p k) p : List Int).length = np := (mulL_len _ _).trans ((powL_len _ _).trans HNp.out)
    obtain ⟨Az, cz, rfl, -, -⟩ := o.form' hl
    have HRz := Lib.hid (o.rd hl); clear o hl
    replace HRp := Lib.hid (HRp.out.below b)
    replace HRa := Lib.hid (HRa.out.below b)
    replace HRx := Lib.hid (HRx.out.below b)
    replace HRy := Lib.hid (HRy.out.below b)
    replace HB := Lib.hid (HB.out.trans (b.mono hs)); replace hs := HB.out.size
    clear b
    go_wp2_with fail
    refine (impl_powR w8 Ap cp np p HRp.out (by omega) (0) (HW0.out) (ok := true) (ys := powL p 0) (by rw [powR, if_pos ⟨vld_true HV.out, by omega, by omega⟩])).mono ?_
    rintro e w9 ⟨v, rfl, o, b⟩
    have hl : (powL p 0 : List Int).length = np := (powL_len _ _).trans HNp.out
    obtain ⟨Ao, co, rfl, -, -⟩ := o.form' hl
    have HRo := Lib.hid (o.rd hl); clear o hl
    replace HRp := Lib.hid (HRp.out.below b)
    replace HRa := Lib.hid (HRa.out.below b)
    replace HRx := Lib.hid (HRx.out.below b)
    replace HRy := Lib.hid (HRy.out.below b)
    replace HRz := Lib.hid (HRz.out.below b)
    replace HB := Lib.hid (HB.out.trans (b.mono hs)); replace hs := HB.out.size
    clear b
    go_wp2_with fail
    refine (stayC_any w9 (np) (by omega)).mono ?_
    rintro e w10 ⟨v, rfl, o, b⟩
    have hl : (sameL np : List Int).length = np := by rw [sameL, tab_len]
    obtain ⟨Ast, cst, rfl, -, -⟩ := o.form' hl
    have HRst := Lib.hid (o.rd hl); clear o hl
    replace HRp := Lib.hid (HRp.out.below b)
    replace HRa := Lib.hid (HRa.out.below b)
    replace HRx := Lib.hid (HRx.out.below b)
    replace HRy := Lib.hid (HRy.out.below b)
    replace HRz := Lib.hid (HRz.out.below b)
    replace HRo := Lib.hid (HRo.out.below b)
    replace HB := Lib.hid (HB.out.trans (b.mono hs)); replace hs := HB.out.size
    clear b
    go_wp2_with fail
    refine (same_yes w10 Ao Ast np np co cst (powL p 0) (sameL np) HRo.out HRst.out (by omega) (by omega) (by rw [pow_zero_, HNp.out])).mono ?_
    rintro e w11 ⟨rfl, b⟩
    replace HRp := Lib.hid (HRp.out.below b)
    replace HRa := Lib.hid (HRa.out.below b)
    replace HRx := Lib.hid (HRx.out.below b)
    replace HRy := Lib.hid (HRy.out.below b)
    replace HRz := Lib.hid (HRz.out.below b)
    replace HRo := Lib.hid (HRo.out.below b)
    replace HRst := Lib.hid (HRst.out.below b)
    replace HB := Lib.hid (HB.out.trans (b.mono hs)); replace hs := HB.out.size
    clear b
    cases qb with
    | false =>
      cases sb with
      | false =>
        go_wp2_with fail
        go_ret
        exact ⟨rfl, HB.out⟩
      | true =>
        go_wp2_with fail
        refine (same_yes w11 Ay Az nY np cy cz Y (mulL (powL p k) p) HRy.out HRz.out (by omega) (by omega) (HSY.out trivial)).mono ?_
        rintro e w12 ⟨rfl, b⟩
        replace HRp := Lib.hid (HRp.out.below b)
        replace HRa := Lib.hid (HRa.out.below b)
        replace HRx := Lib.hid (HRx.out.below b)
        replace HRy := Lib.hid (HRy.out.below b)
        replace HRz := Lib.hid (HRz.out.below b)
        replace HRo := Lib.hid (HRo.out.below b)
        replace HRst := Lib.hid (HRst.out.below b)
        replace HB := Lib.hid (HB.out.trans (b.mono hs)); replace hs := HB.out.size
        clear b
        go_wp2_with fail
        go_ret
        exact ⟨rfl, HB.out⟩
    | true =>
      cases sb with
      | false =>
        go_wp2_with fail
        refine (same_yes w11 Ax Aa nX np cx ca X (powL p k) HRx.out HRa.out (by omega) (by omega) (HQX.out trivial)).mono ?_
        rintro e w12 ⟨rfl, b⟩
        replace HRp := Lib.hid (HRp.out.below b)
        replace HRa := Lib.hid (HRa.out.below b)
        replace HRx := Lib.hid (HRx.out.below b)
        replace HRy := Lib.hid (HRy.out.below b)
        replace HRz := Lib.hid (HRz.out.below b)
        replace HRo := Lib.hid (HRo.out.below b)
        replace HRst := Lib.hid (HRst.out.below b)
        replace HB := Lib.hid (HB.out.trans (b.mono hs)); replace hs := HB.out.size
        clear b
        go_wp2_with fail
        go_ret
        exact ⟨rfl, HB.out⟩
      | true =>
        go_wp2_with fail
        refine (same_yes w11 Ax Aa nX np cx ca X (powL p k) HRx.out HRa.out (by omega) (by omega) (HQX.out trivial)).mono ?_
        rintro e w12 ⟨rfl, b⟩
        replace HRp := Lib.hid (HRp.out.below b)
        replace HRa := Lib.hid (HRa.out.below b)
        replace HRx := Lib.hid (HRx.out.below b)
        replace HRy := Lib.hid (HRy.out.below b)
        replace HRz := Lib.hid (HRz.out.below b)
        replace HRo := Lib.hid (HRo.out.below b)
        replace HRst := Lib.hid (HRst.out.below b)
        replace HB := Lib.hid (HB.out.trans (b.mono hs)); replace hs := HB.out.size
        clear b
        go_wp2_with fail
        refine (same_yes w12 Ay Az nY np cy cz Y (mulL (powL p k) p) HRy.out HRz.out (by omega) (by omega) (HSY.out trivial)).mono ?_
        rintro e w13 ⟨rfl, b⟩
        replace HRp := Lib.hid (HRp.out.below b)
        replace HRa := Lib.hid (HRa.out.below b)
        replace HRx := Lib.hid (HRx.out.below b)
        replace HRy := Lib.hid (HRy.out.below b)
        replace HRz := Lib.hid (HRz.out.below b)
        replace HRo := Lib.hid (HRo.out.below b)
        replace HRst := Lib.hid (HRst.out.below b)
        replace HB := Lib.hid (HB.out.trans (b.mono hs)); replace hs := HB.out.size
        clear b
        go_wp2_with fail
        go_ret
        exact ⟨rfl, HB.out⟩
  · have HV := Lib.hid hv
    go_wp2_with fail
    refine (impl_powR w1 Ap cp np p HRp.out (by omega) (k) (HWK.out) (ok := false) (ys := []) (by rw [powR, if_neg HV.out])).mono ?_
    rintro e w2 ⟨v, rfl, o, b⟩
    have hl : ([] : List Int).length = 0 := rfl
    obtain ⟨Aq, cq, rfl, -, -⟩ := o.form' hl
    have HRq := Lib.hid (o.rd hl); clear o hl
    replace HRp := Lib.hid (HRp.out.below b)
    replace HB := Lib.hid (HB.out.trans (b.mono hs)); replace hs := HB.out.size
    clear b
    go_wp2_with fail
    refine (spec_powR w2 Ap cp np p HRp.out (by omega) (k) (HWK.out) (ok := false) (ys := []) (by rw [powR, if_neg HV.out])).mono ?_
    rintro e w3 ⟨v, rfl, o, b⟩
    have hl : ([] : List Int).length = 0 := rfl
    obtain ⟨Ar, cr, rfl, -, -⟩ := o.form' hl
    have HRr := Lib.hid (o.rd hl); clear o hl
    replace HRp := Lib.hid (HRp.out.below b)
    replace HRq := Lib.hid (HRq.out.below b)
    replace HB := Lib.hid (HB.out.trans (b.mono hs)); replace hs := HB.out.size
    clear b
    go_wp2_with fail
    refine (same_yes w3 Aq Ar 0 0 cq cr [] [] HRq.out HRr.out (by omega) (by omega) (rfl)).mono ?_
    rintro e w4 ⟨rfl, b⟩
    replace HRp := Lib.hid (HRp.out.below b)
    replace HRq := Lib.hid (HRq.out.below b)
    replace HRr := Lib.hid (HRr.out.below b)
    replace HB := Lib.hid (HB.out.trans (b.mono hs)); replace hs := HB.out.size
    clear b
    go_wp2_with fail
    refine (same_yes w4 Aq Ar 0 0 cq cr [] [] HRq.out HRr.out (by omega) (by omega) (rfl)).mono ?_
    rintro e w5 ⟨rfl, b⟩
    replace HRp := Lib.hid (HRp.out.below b)
    replace HRq := Lib.hid (HRq.out.below b)
    replace HRr := Lib.hid (HRr.out.below b)
    replace HB := Lib.hid (HB.out.trans (b.mono hs)); replace hs := HB.out.size
    clear b
    go_wp2_with fail
    go_ret
    exact ⟨rfl, HB.out⟩

end Go.Proofs.Ytppblbmnjglhbaa
