/-
  FnConj: the walk of the law.
-/
import Derived.Test.YtjpebcomecoheaaLawKit
import Derived.Test.YtjpebcomecoheaaPar2
import Derived.Test.YtjpebcomecoheaaBack
import Derived.Test.YtjpebcomecoheaaMul
import Derived.Test.YtjpebcomecoheaaConj
namespace Go.Proofs.Ytjpebcomecoheaa
open Go.RowKit

set_option maxRecDepth 100000 in
set_option maxHeartbeats 3200000 in
theorem walk_FnConj (A0 : Option Addr) (n0 c0 : Nat) (bs0 : List Int) (w : World) (h0 : RdB w A0 n0 bs0) (hm0 : n0 ≤ maxLen ∧ n0 ≤ c0) :
    Calls Try.prog 6 #[.slice A0 n0 c0] w fun e w' => e = .returned (.bool true) ∧ Below w.heap.size w w' := by
  have HB0_0 := Lib.hid h0; have hc0 := hm0.2; have hml0 := hm0.1; clear h0 hm0; unfold maxLen at hml0
  by_cases hbig0 : 1048576 < n0
  · have hd : decide ((1048576 : Int) < n0) = true := by simp; omega
    go_enter Try.func6, Try.ntmps6
    go_wp2
    go_ret
    exact ⟨rfl, Below.refl _ _⟩
  have hd0 : decide ((1048576 : Int) < n0) = false := by simp; omega
  have hnb0 : n0 ≤ 1048576 := by omega
  clear hbig0
  go_enter Try.func6, Try.ntmps6
  go_wp2_with fail
  refine (drawConj_any w A0 n0 c0 bs0 HB0_0.out hnb0 hc0).mono ?_
  rintro e w1 ⟨Ap, np, cp, p, Ag, ng, cg, g, rfl, r1, r2, hlp, hlg, b⟩
  have HNp := Lib.hid r1.1; have HNg := Lib.hid r2.1; have HRp := Lib.hid r1; have HRg := Lib.hid r2; clear r1 r2
  have HB := Lib.hid b; have hs := b.size; clear b
  by_cases hv : both p g = true
  · have HV := Lib.hid (both_iff.1 hv).1
    have HG := Lib.hid (both_iff.1 hv).2.1
    have HL := Lib.hid (both_iff.1 hv).2.2
    obtain rfl : np = ng := by have := HL.out; rw [HNp.out, HNg.out] at this; exact this
    have hn12 : np ≤ 12 := by have := HV.out.2.1; rw [HNp.out] at this; exact this
    have HC : Hid (Vld (conjL p g)) := conj_vld HV.out HG.out HL.out
    have HB' : Hid (Vld (backL g)) := backL_vld HG.out
    have HT : Hid (Vld (mulL p p)) := HV.out.mulL HV.out rfl
    go_wp2_with fail
    refine (impl_conjR w1 Ap cp np p HRp.out (by omega) Ag cg np g HRg.out (by omega) (ok := true) (ys := conjL p g) (by rw [conjR, if_pos (both_iff.2 ⟨HV.out, HG.out, (HNp.out).trans (HNg.out).symm⟩)])).mono ?_
    rintro e w2 ⟨v, rfl, o, b⟩
    have hl : (conjL p g : List Int).length = np := (conjL_len _ _).trans (HNg.out)
    obtain ⟨Aq, cq, rfl, -, -⟩ := o.form' hl
    have HRq := Lib.hid (o.rd hl); clear o hl
    replace HRp := Lib.hid (HRp.out.below b)
    replace HRg := Lib.hid (HRg.out.below b)
    replace HB := Lib.hid (HB.out.trans (b.mono hs)); replace hs := HB.out.size; clear b
    go_wp2_with fail
    refine (spec_conjR w2 Ap cp np p HRp.out (by omega) Ag cg np g HRg.out (by omega) (ok := true) (ys := conjL p g) (by rw [conjR, if_pos (both_iff.2 ⟨HV.out, HG.out, (HNp.out).trans (HNg.out).symm⟩)])).mono ?_
    rintro e w3 ⟨v, rfl, o, b⟩
    have hl : (conjL p g : List Int).length = np := (conjL_len _ _).trans (HNg.out)
    obtain ⟨Ar, cr, rfl, -, -⟩ := o.form' hl
    have HRr := Lib.hid (o.rd hl); clear o hl
    replace HRp := Lib.hid (HRp.out.below b)
    replace HRg := Lib.hid (HRg.out.below b)
    replace HRq := Lib.hid (HRq.out.below b)
    replace HB := Lib.hid (HB.out.trans (b.mono hs)); replace hs := HB.out.size; clear b
    go_wp2_with fail
    refine (same_yes w3 Aq Ar np np cq cr (conjL p g) (conjL p g) HRq.out HRr.out (by omega) (by omega) (rfl)).mono ?_
    rintro e w4 ⟨rfl, b⟩
    replace HRp := Lib.hid (HRp.out.below b)
    replace HRg := Lib.hid (HRg.out.below b)
    replace HRq := Lib.hid (HRq.out.below b)
    replace HRr := Lib.hid (HRr.out.below b)
    replace HB := Lib.hid (HB.out.trans (b.mono hs)); replace hs := HB.out.size; clear b
    clear HRr
    go_wp2_with fail
    refine (impl_backR w4 Ag cg np g HRg.out (by omega) (ok := true) (ys := backL g) (by rw [backR, if_pos (vld_true HG.out)])).mono ?_
    rintro e w5 ⟨v, rfl, o, b⟩
    have hl : (backL g : List Int).length = np := (backL_len _).trans HNg.out
    obtain ⟨Ak, ck, rfl, -, -⟩ := o.form' hl
    have HRk := Lib.hid (o.rd hl); clear o hl
    replace HRp := Lib.hid (HRp.out.below b)
    replace HRg := Lib.hid (HRg.out.below b)
    replace HRq := Lib.hid (HRq.out.below b)
    replace HB := Lib.hid (HB.out.trans (b.mono hs)); replace hs := HB.out.size; clear b
    go_wp2_with fail
    refine (impl_conjR w5 Aq cq np (conjL p g) HRq.out (by omega) Ak ck np (backL g) HRk.out (by omega) (ok := true) (ys := conjL (conjL p g) (backL g)) (by rw [conjR, if_pos (both_iff.2 ⟨HC.out, HB'.out, ((conjL_len _ _).trans HNg.out).trans ((backL_len _).trans HNg.out).symm⟩)])).mono ?_
    rintro e w6 ⟨v, rfl, o, b⟩
    have hl : (conjL (conjL p g) (backL g) : List Int).length = np := (conjL_len _ _).trans ((backL_len _).trans HNg.out)
    obtain ⟨Ax, cx, rfl, -, -⟩ := o.form' hl
    have HRx := Lib.hid (o.rd hl); clear o hl
    replace HRp := Lib.hid (HRp.out.below b)
    replace HRg := Lib.hid (HRg.out.below b)
    replace HRq := Lib.hid (HRq.out.below b)
    replace HRk := Lib.hid (HRk.out.below b)
    replace HB := Lib.hid (HB.out.trans (b.mono hs)); replace hs := HB.out.size; clear b
    go_wp2_with fail
    refine (impl_mulR w6 Ap cp np p HRp.out (by omega) Ap cp np p HRp.out (by omega) (ok := true) (ys := mulL p p) (by rw [mulR, if_pos (both_iff.2 ⟨HV.out, HV.out, (HNp.out).trans (HNp.out).symm⟩)])).mono ?_
    rintro e w7 ⟨v, rfl, o, b⟩
    have hl : (mulL p p : List Int).length = np := (mulL_len _ _).trans (HNp.out)
    obtain ⟨At, ct, rfl, -, -⟩ := o.form' hl
    have HRt := Lib.hid (o.rd hl); clear o hl
    replace HRp := Lib.hid (HRp.out.below b)
    replace HRg := Lib.hid (HRg.out.below b)
    replace HRq := Lib.hid (HRq.out.below b)
    replace HRk := Lib.hid (HRk.out.below b)
    replace HRx := Lib.hid (HRx.out.below b)
    replace HB := Lib.hid (HB.out.trans (b.mono hs)); replace hs := HB.out.size; clear b
    go_wp2_with fail
    refine (impl_conjR w7 At ct np (mulL p p) HRt.out (by omega) Ag cg np g HRg.out (by omega) (ok := true) (ys := conjL (mulL p p) g) (by rw [conjR, if_pos (both_iff.2 ⟨HT.out, HG.out, ((mulL_len _ _).trans HNp.out).trans (HNg.out).symm⟩)])).mono ?_
    rintro e w8 ⟨v, rfl, o, b⟩
    have hl : (conjL (mulL p p) g : List Int).length = np := (conjL_len _ _).trans (HNg.out)
    obtain ⟨Ay, cy, rfl, -, -⟩ := o.form' hl
    have HRy := Lib.hid (o.rd hl); clear o hl
    replace HRp := Lib.hid (HRp.out.below b)
    replace HRg := Lib.hid (HRg.out.below b)
    replace HRq := Lib.hid (HRq.out.below b)
    replace HRk := Lib.hid (HRk.out.below b)
    replace HRx := Lib.hid (HRx.out.below b)
    replace HRt := Lib.hid (HRt.out.below b)
    replace HB := Lib.hid (HB.out.trans (b.mono hs)); replace hs := HB.out.size; clear b
    go_wp2_with fail
    refine (impl_mulR w8 Aq cq np (conjL p g) HRq.out (by omega) Aq cq np (conjL p g) HRq.out (by omega) (ok := true) (ys := mulL (conjL p g) (conjL p g)) (by rw [mulR, if_pos (both_iff.2 ⟨HC.out, HC.out, ((conjL_len _ _).trans HNg.out).trans ((conjL_len _ _).trans HNg.out).symm⟩)])).mono ?_
    rintro e w9 ⟨v, rfl, o, b⟩
    have hl : (mulL (conjL p g) (conjL p g) : List Int).length = np := (mulL_len _ _).trans ((conjL_len _ _).trans HNg.out)
    obtain ⟨Az, cz, rfl, -, -⟩ := o.form' hl
    have HRz := Lib.hid (o.rd hl); clear o hl
    replace HRp := Lib.hid (HRp.out.below b)
    replace HRg := Lib.hid (HRg.out.below b)
    replace HRq := Lib.hid (HRq.out.below b)
    replace HRk := Lib.hid (HRk.out.below b)
    replace HRx := Lib.hid (HRx.out.below b)
    replace HRt := Lib.hid (HRt.out.below b)
    replace HRy := Lib.hid (HRy.out.below b)
    replace HB := Lib.hid (HB.out.trans (b.mono hs)); replace hs := HB.out.size; clear b
    go_wp2_with fail
    go_loopw [19] (fun iv wr => ∃ i d : Nat, iv = .int .i64 i ∧ i ≤ np ∧ wr = w9.drewN d) (fun iv _ => np - (intOf iv).toNat)
    case atStart => exact ⟨0, 0, rfl, by omega, rfl⟩
    case round =>
      obtain ⟨i, d, rfl, hi, rfl⟩ := hrel
      by_cases hlt : i < np
      · obtain ⟨ap, rfl, hp1⟩ := HRp.out.at_ hlt
        obtain ⟨ag, rfl, hg1⟩ := HRg.out.at_ hlt
        obtain ⟨u, hu, hun, hgu⟩ := (HV.out.into HNp.out).nat (j := i) (by rw [HNp.out]; exact hlt)
        obtain ⟨v, hv', hvn, hgv⟩ := (HG.out.into HNg.out).nat (j := i) (by rw [HNg.out]; exact hlt)
        obtain ⟨aq, rfl, hq1⟩ := HRq.out.at_ hvn
        obtain ⟨ag', e, hg2⟩ := HRg.out.at_ hun
        simp only [Option.some.injEq] at e
        subst e
        obtain ⟨y, hy⟩ : ∃ y, gi g u = y := ⟨_, rfl⟩
        have hc : gi (conjL p g) v = y := by rw [← hgv, conjL_at HG.out (by rw [HNg.out]; exact hlt), hgu, hy]
        rw [hu] at hp1
        rw [hv'] at hg1
        rw [hc] at hq1
        rw [hy] at hg2
        have hne : (y != y) = false := by simp
        clear hu hv' hgu hgv hy hc
        go_wp2
        go_quiet (fail)
        go_wp2
        go_roundw
        case rel => exact ⟨i + 1, d + _, by go_num, by omega, rfl⟩
        case measure => simp [intOf]; omega
      · have hdn : decide ((i : Int) < np) = false := by simp; omega
        have b := below_drewN (Below.refl w9.heap.size w9) d
        obtain ⟨w99, hw⟩ : ∃ w', w9.drewN d = w' := ⟨_, rfl⟩
        rw [hw] at b
        replace HRp := Lib.hid (HRp.out.below b)
        replace HRg := Lib.hid (HRg.out.below b)
        replace HRq := Lib.hid (HRq.out.below b)
        replace HRk := Lib.hid (HRk.out.below b)
        replace HRx := Lib.hid (HRx.out.below b)
        replace HRt := Lib.hid (HRt.out.below b)
        replace HRy := Lib.hid (HRy.out.below b)
        replace HRz := Lib.hid (HRz.out.below b)
        replace HB := Lib.hid (HB.out.trans (b.mono hs)); replace hs := HB.out.size; clear b
        rw [hw]
        clear hw
        go_wp2_with fail
        refine (same_yes w99 Ax Ap np np cx cp (conjL (conjL p g) (backL g)) p HRx.out HRp.out (by omega) (by omega) (conj_back HV.out HG.out HL.out)).mono ?_
        rintro e w100 ⟨rfl, b⟩
        replace HRp := Lib.hid (HRp.out.below b)
        replace HRg := Lib.hid (HRg.out.below b)
        replace HRq := Lib.hid (HRq.out.below b)
        replace HRk := Lib.hid (HRk.out.below b)
        replace HRx := Lib.hid (HRx.out.below b)
        replace HRt := Lib.hid (HRt.out.below b)
        replace HRy := Lib.hid (HRy.out.below b)
        replace HRz := Lib.hid (HRz.out.below b)
        replace HB := Lib.hid (HB.out.trans (b.mono hs)); replace hs := HB.out.size; clear b
        go_wp2_with fail
        refine (same_yes w100 Ay Az np np cy cz (conjL (mulL p p) g) (mulL (conjL p g) (conjL p g)) HRy.out HRz.out (by omega) (by omega) ((conj_mul HV.out HG.out HL.out).symm)).mono ?_
        rintro e w101 ⟨rfl, b⟩
        replace HRp := Lib.hid (HRp.out.below b)
        replace HRg := Lib.hid (HRg.out.below b)
        replace HRq := Lib.hid (HRq.out.below b)
        replace HRk := Lib.hid (HRk.out.below b)
        replace HRx := Lib.hid (HRx.out.below b)
        replace HRt := Lib.hid (HRt.out.below b)
        replace HRy := Lib.hid (HRy.out.below b)
        replace HRz := Lib.hid (HRz.out.below b)
        replace HB := Lib.hid (HB.out.trans (b.mono hs)); replace hs := HB.out.size; clear b
        go_wp2_with fail
        go_ret
        exact ⟨rfl, HB.out⟩
  · have HV := Lib.hid hv
    go_wp2_with fail
    refine (impl_conjR w1 Ap cp np p HRp.out (by omega) Ag cg ng g HRg.out (by omega) (ok := false) (ys := []) (by rw [conjR, if_neg HV.out])).mono ?_
    rintro e w2 ⟨v, rfl, o, b⟩
    have hl : ([] : List Int).length = 0 := rfl
    obtain ⟨Aq, cq, rfl, -, -⟩ := o.form' hl
    have HRq := Lib.hid (o.rd hl); clear o hl
    replace HRp := Lib.hid (HRp.out.below b)
    replace HRg := Lib.hid (HRg.out.below b)
    replace HB := Lib.hid (HB.out.trans (b.mono hs)); replace hs := HB.out.size; clear b
    go_wp2_with fail
    refine (spec_conjR w2 Ap cp np p HRp.out (by omega) Ag cg ng g HRg.out (by omega) (ok := false) (ys := []) (by rw [conjR, if_neg HV.out])).mono ?_
    rintro e w3 ⟨v, rfl, o, b⟩
    have hl : ([] : List Int).length = 0 := rfl
    obtain ⟨Ar, cr, rfl, -, -⟩ := o.form' hl
    have HRr := Lib.hid (o.rd hl); clear o hl
    replace HRp := Lib.hid (HRp.out.below b)
    replace HRg := Lib.hid (HRg.out.below b)
    replace HRq := Lib.hid (HRq.out.below b)
    replace HB := Lib.hid (HB.out.trans (b.mono hs)); replace hs := HB.out.size; clear b
    go_wp2_with fail
    refine (same_yes w3 Aq Ar 0 0 cq cr [] [] HRq.out HRr.out (by omega) (by omega) (rfl)).mono ?_
    rintro e w4 ⟨rfl, b⟩
    replace HRp := Lib.hid (HRp.out.below b)
    replace HRg := Lib.hid (HRg.out.below b)
    replace HRq := Lib.hid (HRq.out.below b)
    replace HRr := Lib.hid (HRr.out.below b)
    replace HB := Lib.hid (HB.out.trans (b.mono hs)); replace hs := HB.out.size; clear b
    go_wp2_with fail
    refine (same_yes w4 Aq Ar 0 0 cq cr [] [] HRq.out HRr.out (by omega) (by omega) (rfl)).mono ?_
    rintro e w5 ⟨rfl, b⟩
    replace HRp := Lib.hid (HRp.out.below b)
    replace HRg := Lib.hid (HRg.out.below b)
    replace HRq := Lib.hid (HRq.out.below b)
    replace HRr := Lib.hid (HRr.out.below b)
    replace HB := Lib.hid (HB.out.trans (b.mono hs)); replace hs := HB.out.size; clear b
    go_wp2_with fail
    go_ret
    exact ⟨rfl, HB.out⟩

end Go.Proofs.Ytjpebcomecoheaa
