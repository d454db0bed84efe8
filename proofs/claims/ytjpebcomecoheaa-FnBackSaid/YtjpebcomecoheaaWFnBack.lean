/-
  FnBack: the walk of the law.
-/
import Derived.Test.YtjpebcomecoheaaLawKit
import Derived.Test.YtjpebcomecoheaaPar2
import Derived.Test.YtjpebcomecoheaaBack
import Derived.Test.YtjpebcomecoheaaMul
import Derived.Test.YtjpebcomecoheaaSpecType
import Derived.Test.YtjpebcomecoheaaType
namespace Go.Proofs.Ytjpebcomecoheaa
open Go.RowKit

set_option maxRecDepth 100000 in
set_option maxHeartbeats 3200000 in
theorem walk_FnBack (A0 : Option Addr) (n0 c0 : Nat) (bs0 : List Int) (w : World) (h0 : RdB w A0 n0 bs0) (hm0 : n0 ≤ maxLen ∧ n0 ≤ c0) :
    Calls Try.prog 4 #[.slice A0 n0 c0] w fun e w' => e = .returned (.bool true) ∧ Below w.heap.size w w' := by
  have HB0_0 := Lib.hid h0; have hc0 := hm0.2; have hml0 := hm0.1; clear h0 hm0; unfold maxLen at hml0
  by_cases hbig0 : 1048576 < n0
  · have hd : decide ((1048576 : Int) < n0) = true := by simp; omega
    go_enter Try.func4, Try.ntmps4
    go_wp2
    go_ret
    exact ⟨rfl, Below.refl _ _⟩
  have hd0 : decide ((1048576 : Int) < n0) = false := by simp; omega
  have hnb0 : n0 ≤ 1048576 := by omega
  clear hbig0
  go_enter Try.func4, Try.ntmps4
  go_wp2_with fail
  refine (drawBack_any w A0 n0 c0 bs0 HB0_0.out hnb0 hc0).mono ?_
  rintro e w1 ⟨v, p, rfl, o, hlp, b⟩
  obtain ⟨np, hn⟩ : ∃ n, p.length = n := ⟨_, rfl⟩
  rw [hn] at hlp
  obtain ⟨Ap, cp, rfl, -, -⟩ := o.form' hn
  have HRp := Lib.hid (o.rd hn); have HNp := Lib.hid hn; clear o hn
  have HB := Lib.hid b; have hs := b.size; clear b
  by_cases hv : vld p = true
  · have HV := Lib.hid (Vld_of hv)
    have hn12 : np ≤ 12 := by have := HV.out.2.1; rw [HNp.out] at this; exact this
    have HVB : Hid (Vld (backL p)) := backL_vld HV.out
    go_wp2_with fail
    refine (impl_backR w1 Ap cp np p HRp.out (by omega) (ok := true) (ys := backL (p)) (by rw [backR, if_pos (vld_true HV.out)])).mono ?_
    rintro e w2 ⟨v, rfl, o, b⟩
    have hl : (backL (p) : List Int).length = np := by rw [backL_len, HNp.out]
    obtain ⟨Aq, cq, rfl, -, -⟩ := o.form' hl
    have HRq := Lib.hid (o.rd hl); clear o hl
    replace HRp := Lib.hid (HRp.out.below b)
    replace HB := Lib.hid (HB.out.trans (b.mono hs)); replace hs := HB.out.size; clear b
    go_wp2_with fail
    refine (spec_backR w2 Ap cp np p HRp.out (by omega) (ok := true) (ys := backL (p)) (by rw [backR, if_pos (vld_true HV.out)])).mono ?_
    rintro e w3 ⟨v, rfl, o, b⟩
    have hl : (backL (p) : List Int).length = np := by rw [backL_len, HNp.out]
    obtain ⟨Ar, cr, rfl, -, -⟩ := o.form' hl
    have HRr := Lib.hid (o.rd hl); clear o hl
    replace HRp := Lib.hid (HRp.out.below b)
    replace HRq := Lib.hid (HRq.out.below b)
    replace HB := Lib.hid (HB.out.trans (b.mono hs)); replace hs := HB.out.size; clear b
    go_wp2_with fail
    refine (same_yes w3 Aq Ar np np cq cr (backL (p)) (backL (p)) HRq.out HRr.out (by omega) (by omega) (rfl)).mono ?_
    rintro e w4 ⟨rfl, b⟩
    replace HRp := Lib.hid (HRp.out.below b)
    replace HRq := Lib.hid (HRq.out.below b)
    replace HRr := Lib.hid (HRr.out.below b)
    replace HB := Lib.hid (HB.out.trans (b.mono hs)); replace hs := HB.out.size; clear b
    clear HRr
    go_wp2_with fail
    refine (impl_backR w4 Aq cq np (backL (p)) HRq.out (by omega) (ok := true) (ys := backL (backL p)) (by rw [backR, if_pos (vld_true HVB.out)])).mono ?_
    rintro e w5 ⟨v, rfl, o, b⟩
    have hl : (backL (backL p) : List Int).length = np := by rw [backL_len, backL_len, HNp.out]
    obtain ⟨Ax, cx, rfl, -, -⟩ := o.form' hl
    have HRx := Lib.hid (o.rd hl); clear o hl
    replace HRp := Lib.hid (HRp.out.below b)
    replace HRq := Lib.hid (HRq.out.below b)
    replace HB := Lib.hid (HB.out.trans (b.mono hs)); replace hs := HB.out.size; clear b
    go_wp2_with fail
    refine (impl_mulR w5 Ap cp np p HRp.out (by omega) Aq cq np (backL (p)) HRq.out (by omega) (ok := true) (ys := mulL (p) (backL p)) (by rw [mulR, if_pos (both_iff.2 ⟨HV.out, HVB.out, by simp only [backL_len]⟩)])).mono ?_
    rintro e w6 ⟨v, rfl, o, b⟩
    have hl : (mulL (p) (backL p) : List Int).length = np := by rw [mulL_len, HNp.out]
    obtain ⟨Ay, cy, rfl, -, -⟩ := o.form' hl
    have HRy := Lib.hid (o.rd hl); clear o hl
    replace HRp := Lib.hid (HRp.out.below b)
    replace HRq := Lib.hid (HRq.out.below b)
    replace HRx := Lib.hid (HRx.out.below b)
    replace HB := Lib.hid (HB.out.trans (b.mono hs)); replace hs := HB.out.size; clear b
    go_wp2_with fail
    refine (impl_mulR w6 Aq cq np (backL (p)) HRq.out (by omega) Ap cp np p HRp.out (by omega) (ok := true) (ys := mulL (backL p) (p)) (by rw [mulR, if_pos (both_iff.2 ⟨HVB.out, HV.out, by simp only [backL_len]⟩)])).mono ?_
    rintro e w7 ⟨v, rfl, o, b⟩
    have hl : (mulL (backL p) (p) : List Int).length = np := by rw [mulL_len, backL_len, HNp.out]
    obtain ⟨Az, cz, rfl, -, -⟩ := o.form' hl
    have HRz := Lib.hid (o.rd hl); clear o hl
    replace HRp := Lib.hid (HRp.out.below b)
    replace HRq := Lib.hid (HRq.out.below b)
    replace HRx := Lib.hid (HRx.out.below b)
    replace HRy := Lib.hid (HRy.out.below b)
    replace HB := Lib.hid (HB.out.trans (b.mono hs)); replace hs := HB.out.size; clear b
    obtain ⟨M, hM⟩ : ∃ M, (typeL p).length = M := ⟨_, rfl⟩
    have hM12 : M ≤ 12 := by have h1 := typeL_len HV.out; have h2 := cyclesL_len (p := p); rw [HNp.out] at h2; omega
    have HM := Lib.hid hM; clear hM
    go_wp2_with fail
    refine (impl_typeR w7 Ap cp np p HRp.out (by omega) (ok := true) (ys := typeL p) (by rw [typeR, if_pos (vld_true HV.out)])).mono ?_
    rintro e w8 ⟨v, rfl, o, b⟩
    have hl : (typeL p : List Int).length = M := HM.out
    obtain ⟨Aa, ca, rfl, -, -⟩ := o.form' hl
    have HRa := Lib.hid (o.rd hl); clear o hl
    replace HRp := Lib.hid (HRp.out.below b)
    replace HRq := Lib.hid (HRq.out.below b)
    replace HRx := Lib.hid (HRx.out.below b)
    replace HRy := Lib.hid (HRy.out.below b)
    replace HRz := Lib.hid (HRz.out.below b)
    replace HB := Lib.hid (HB.out.trans (b.mono hs)); replace hs := HB.out.size; clear b
    go_wp2_with fail
    refine (impl_typeR w8 Aq cq np (backL (p)) HRq.out (by omega) (ok := true) (ys := typeL (backL p)) (by rw [typeR, if_pos (vld_true HVB.out)])).mono ?_
    rintro e w9 ⟨v, rfl, o, b⟩
    have hl : (typeL (backL p) : List Int).length = M := by rw [← back_type HV.out, HM.out]
    obtain ⟨Ab, cb, rfl, -, -⟩ := o.form' hl
    have HRb := Lib.hid (o.rd hl); clear o hl
    replace HRp := Lib.hid (HRp.out.below b)
    replace HRq := Lib.hid (HRq.out.below b)
    replace HRx := Lib.hid (HRx.out.below b)
    replace HRy := Lib.hid (HRy.out.below b)
    replace HRz := Lib.hid (HRz.out.below b)
    replace HRa := Lib.hid (HRa.out.below b)
    replace HB := Lib.hid (HB.out.trans (b.mono hs)); replace hs := HB.out.size; clear b
    go_wp2_with fail
    refine (same_yes w9 Ax Ap np np cx cp (backL (backL p)) p HRx.out HRp.out (by omega) (by omega) (back_back HV.out)).mono ?_
    rintro e w10 ⟨rfl, b⟩
    replace HRp := Lib.hid (HRp.out.below b)
    replace HRq := Lib.hid (HRq.out.below b)
    replace HRx := Lib.hid (HRx.out.below b)
    replace HRy := Lib.hid (HRy.out.below b)
    replace HRz := Lib.hid (HRz.out.below b)
    replace HRa := Lib.hid (HRa.out.below b)
    replace HRb := Lib.hid (HRb.out.below b)
    replace HB := Lib.hid (HB.out.trans (b.mono hs)); replace hs := HB.out.size; clear b
    go_wp2_with fail
    refine (stayC_any w10 (np) (by omega)).mono ?_
    rintro e w11 ⟨v, rfl, o, b⟩
    have hl : (sameL np : List Int).length = np := by rw [sameL, tab_len]
    obtain ⟨As, cs, rfl, -, -⟩ := o.form' hl
    have HRs := Lib.hid (o.rd hl); clear o hl
    replace HRp := Lib.hid (HRp.out.below b)
    replace HRq := Lib.hid (HRq.out.below b)
    replace HRx := Lib.hid (HRx.out.below b)
    replace HRy := Lib.hid (HRy.out.below b)
    replace HRz := Lib.hid (HRz.out.below b)
    replace HRa := Lib.hid (HRa.out.below b)
    replace HRb := Lib.hid (HRb.out.below b)
    replace HB := Lib.hid (HB.out.trans (b.mono hs)); replace hs := HB.out.size; clear b
    go_wp2_with fail
    refine (same_yes w11 Ay As np np cy cs (mulL (p) (backL p)) (sameL np) HRy.out HRs.out (by omega) (by omega) (by rw [mul_back HV.out, HNp.out])).mono ?_
    rintro e w12 ⟨rfl, b⟩
    replace HRp := Lib.hid (HRp.out.below b)
    replace HRq := Lib.hid (HRq.out.below b)
    replace HRx := Lib.hid (HRx.out.below b)
    replace HRy := Lib.hid (HRy.out.below b)
    replace HRz := Lib.hid (HRz.out.below b)
    replace HRa := Lib.hid (HRa.out.below b)
    replace HRb := Lib.hid (HRb.out.below b)
    replace HRs := Lib.hid (HRs.out.below b)
    replace HB := Lib.hid (HB.out.trans (b.mono hs)); replace hs := HB.out.size; clear b
    go_wp2_with fail
    refine (stayC_any w12 (np) (by omega)).mono ?_
    rintro e w13 ⟨v, rfl, o, b⟩
    have hl : (sameL np : List Int).length = np := by rw [sameL, tab_len]
    obtain ⟨As2, cs2, rfl, -, -⟩ := o.form' hl
    have HRs2 := Lib.hid (o.rd hl); clear o hl
    replace HRp := Lib.hid (HRp.out.below b)
    replace HRq := Lib.hid (HRq.out.below b)
    replace HRx := Lib.hid (HRx.out.below b)
    replace HRy := Lib.hid (HRy.out.below b)
    replace HRz := Lib.hid (HRz.out.below b)
    replace HRa := Lib.hid (HRa.out.below b)
    replace HRb := Lib.hid (HRb.out.below b)
    replace HRs := Lib.hid (HRs.out.below b)
    replace HB := Lib.hid (HB.out.trans (b.mono hs)); replace hs := HB.out.size; clear b
    go_wp2_with fail
    refine (same_yes w13 Az As2 np np cz cs2 (mulL (backL p) (p)) (sameL np) HRz.out HRs2.out (by omega) (by omega) (by rw [back_mul_same HV.out, HNp.out])).mono ?_
    rintro e w14 ⟨rfl, b⟩
    replace HRp := Lib.hid (HRp.out.below b)
    replace HRq := Lib.hid (HRq.out.below b)
    replace HRx := Lib.hid (HRx.out.below b)
    replace HRy := Lib.hid (HRy.out.below b)
    replace HRz := Lib.hid (HRz.out.below b)
    replace HRa := Lib.hid (HRa.out.below b)
    replace HRb := Lib.hid (HRb.out.below b)
    replace HRs := Lib.hid (HRs.out.below b)
    replace HRs2 := Lib.hid (HRs2.out.below b)
    replace HB := Lib.hid (HB.out.trans (b.mono hs)); replace hs := HB.out.size; clear b
    go_wp2_with fail
    refine (same_yes w14 Aa Ab M M ca cb (typeL p) (typeL (backL p)) HRa.out HRb.out (by omega) (by omega) (back_type HV.out)).mono ?_
    rintro e w15 ⟨rfl, b⟩
    replace HRp := Lib.hid (HRp.out.below b)
    replace HRq := Lib.hid (HRq.out.below b)
    replace HRx := Lib.hid (HRx.out.below b)
    replace HRy := Lib.hid (HRy.out.below b)
    replace HRz := Lib.hid (HRz.out.below b)
    replace HRa := Lib.hid (HRa.out.below b)
    replace HRb := Lib.hid (HRb.out.below b)
    replace HRs := Lib.hid (HRs.out.below b)
    replace HRs2 := Lib.hid (HRs2.out.below b)
    replace HB := Lib.hid (HB.out.trans (b.mono hs)); replace hs := HB.out.size; clear b
    go_wp2_with fail
    go_ret
    exact ⟨rfl, HB.out⟩
  · have HV := Lib.hid hv
    go_wp2_with fail
    refine (impl_backR w1 Ap cp np p HRp.out (by omega) (ok := false) (ys := []) (by rw [backR, if_neg HV.out])).mono ?_
    rintro e w2 ⟨v, rfl, o, b⟩
    have hl : ([] : List Int).length = 0 := rfl
    obtain ⟨Aq, cq, rfl, -, -⟩ := o.form' hl
    have HRq := Lib.hid (o.rd hl); clear o hl
    replace HRp := Lib.hid (HRp.out.below b)
    replace HB := Lib.hid (HB.out.trans (b.mono hs)); replace hs := HB.out.size; clear b
    go_wp2_with fail
    refine (spec_backR w2 Ap cp np p HRp.out (by omega) (ok := false) (ys := []) (by rw [backR, if_neg HV.out])).mono ?_
    rintro e w3 ⟨v, rfl, o, b⟩
    have hl : ([] : List Int).length = 0 := rfl
    obtain ⟨Ar, cr, rfl, -, -⟩ := o.form' hl
    have HRr := Lib.hid (o.rd hl); clear o hl
    replace HRp := Lib.hid (HRp.out.below b)
    replace HRq := Lib.hid (HRq.out.below b)
    replace HB := Lib.hid (HB.out.trans (b.mono hs)); replace hs := HB.out.size; clear b
    go_wp2_with fail
    refine (same_yes w3 Aq Ar 0 0 cq cr [] [] HRq.out HRr.out (by omega) (by omega) (rfl)).mono ?_
    rintro e w4 ⟨rfl, b⟩
    replace HRp := Lib.hid (HRp.out.below b)
    replace HRq := Lib.hid (HRq.out.below b)
    replace HRr := Lib.hid (HRr.out.below b)
    replace HB := Lib.hid (HB.out.trans (b.mono hs)); replace hs := HB.out.size; clear b
    go_wp2_with fail
    refine (same_yes w4 Aq Ar 0 0 cq cr [] [] HRq.out HRr.out (by omega) (by omega) (rfl)).mono ?_
    rintro e w5 ⟨rfl, b⟩
    replace HRp := Lib.hid (HRp.out.below b)
    replace HRq := Lib.hid (HRq.out.below b)
    replace HRr := Lib.hid (HRr.out.below b)
    replace HB := Lib.hid (HB.out.trans (b.mono hs)); replace hs := HB.out.size; clear b
    go_wp2_with fail
    go_ret
    exact ⟨rfl, HB.out⟩

end Go.Proofs.Ytjpebcomecoheaa
