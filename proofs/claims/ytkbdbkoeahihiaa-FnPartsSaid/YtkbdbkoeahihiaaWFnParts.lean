/-
  FnParts: the walk of the law.
-/
import Derived.Test.YtkbdbkoeahihiaaLists
import Derived.Test.YtkbdbkoeahihiaaPAll
import Derived.Test.YtkbdbkoeahihiaaDrawTy
import Derived.Test.YtkbdbkoeahihiaaPtF
import Derived.Test.YtkbdbkoeahihiaaPtC
import Derived.Test.YtkbdbkoeahihiaaType
namespace Go.Proofs.Ytkbdbkoeahihiaa
open Go.RowKit

def hasUp (L : List (List Int)) (p : List Int) : Nat → Bool
  | 0 => false
  | i + 1 => hasUp L p i || eqB (L.getD i []) p
def paB (p : List Int) : Bool := decide (typeR (cf p) = (true, p)) && decide ((cf p).length ≤ 6) && hasUp (ptsOf 7 (sumI p).toNat (sumI p).toNat) p (ptsOf 7 (sumI p).toNat (sumI p).toNat).length && pt (cj p) && decide ((cj p).length ≤ 6) && decide (p.sum = sumI p)
theorem paB_all : ∀ p ∈ allPts, paB p = true := by decide +kernel
theorem pa_law {p : List Int} (h : p ∈ allPts) : typeR (cf p) = (true, p) ∧ (cf p).length ≤ 6 ∧ hasUp (ptsOf 7 (sumI p).toNat (sumI p).toNat) p (ptsOf 7 (sumI p).toNat (sumI p).toNat).length = true ∧ pt (cj p) = true ∧ (cj p).length ≤ 6 ∧ p.sum = sumI p := by
  have := paB_all p h
  simp only [paB, Bool.and_eq_true, decide_eq_true_eq] at this
  obtain ⟨⟨⟨⟨⟨a, b⟩, c⟩, d⟩, e⟩, f⟩ := this
  exact ⟨a, b, c, d, e, f⟩

set_option maxRecDepth 100000 in
set_option maxHeartbeats 3200000 in
theorem walk_FnParts (A0 : Option Addr) (n0 c0 : Nat) (bs0 : List Int) (w : World) (h0 : RdB w A0 n0 bs0) (hm0 : n0 ≤ maxLen ∧ n0 ≤ c0) :
    Calls Try.prog 3 #[.slice A0 n0 c0] w fun e w' => e = .returned (.bool true) ∧ Below w.heap.size w w' := by
  have HB0_0 := Lib.hid h0; have hc0 := hm0.2; have hml0 := hm0.1; clear h0 hm0; unfold maxLen at hml0
  by_cases hbig0 : 1048576 < n0
  · have hd : decide ((1048576 : Int) < n0) = true := by simp; omega
    go_enter Try.func3, Try.ntmps3
    go_wp2
    go_ret
    exact ⟨rfl, Below.refl _ _⟩
  have hd0 : decide ((1048576 : Int) < n0) = false := by simp; omega
  have hnb0 : n0 ≤ 1048576 := by omega
  clear hbig0
  go_enter Try.func3, Try.ntmps3
  go_wp2_with fail
  refine (drawPartsValid_any w A0 n0 c0 bs0 HB0_0.out hnb0 hc0).mono ?_
  rintro e w1 ⟨v, p, rfl, o, hlp, b⟩
  obtain ⟨np, hn⟩ : ∃ n, p.length = n := ⟨_, rfl⟩
  rw [hn] at hlp
  obtain ⟨Ap, cp, rfl, -, -⟩ := o.form' hn
  have HRp := Lib.hid (o.rd hn); have HNp := Lib.hid hn; clear o hn
  have HB := Lib.hid b; have hs := b.size; clear b
  by_cases hv : pt p = true
  · have HV := Lib.hid (Pt_of hv)
    obtain ⟨f1, f2, f3, f4, f5, f6⟩ := pa_law HV.out.all
    have h1p : 1 ≤ np := by have := HV.out.1; rw [HNp.out] at this; exact this
    have h6p : np ≤ 6 := by have := HV.out.len; rw [HNp.out] at this; exact this
    have hsm := HV.out.sum
    obtain ⟨s, hs0⟩ := Int.eq_ofNat_of_zero_le (show 0 ≤ sumI p by omega)
    rw [hs0] at f3 f6 hsm
    have et : ((s : Int)).toNat = s := by omega
    rw [et] at f3
    have hs16 : 1 ≤ s ∧ s ≤ 6 := by omega
    obtain ⟨LL, hLL⟩ : ∃ LL, ptsOf 7 s s = LL := ⟨_, rfl⟩
    rw [hLL] at f3
    obtain ⟨m, hm⟩ : ∃ m, LL.length = m := ⟨_, rfl⟩
    rw [hm] at f3
    have hm15 : m ≤ 15 := by rw [← hm, ← hLL]; exact (ptsOf_all s (by omega)).1
    obtain ⟨nf, hnf⟩ : ∃ n, (cf p).length = n := ⟨_, rfl⟩
    rw [hnf] at f2
    obtain ⟨nc, hnc⟩ : ∃ n, (cj p).length = n := ⟨_, rfl⟩
    rw [hnc] at f5
    have hpa : paR (s : Int) = (true, LL) := by rw [paR, if_pos (by omega), et, hLL]
    have HF1 := Lib.hid f1; have HF3 := Lib.hid f3; have HF4 := Lib.hid f4; have HF6 := Lib.hid f6; have HS := Lib.hid hs0; have HLL := Lib.hid hLL; have HM := Lib.hid hm; have HNF := Lib.hid hnf; have HNC := Lib.hid hnc; have HPA := Lib.hid hpa
    have hwf : (Lit.int .i64 (s : Int)).wf = true := WalkArith.wf_i64 (by omega)
    clear f1 f3 f4 f6 hs0 hLL hm hnf hnc hpa et hsm hv
    go_wp2_with fail
    refine (impl_pt w1 Ap cp np p HRp.out (by omega) (r := true) (pt_true HV.out)).mono ?_
    rintro e w2 ⟨rfl, b⟩
    replace HRp := Lib.hid (HRp.out.below b)
    replace HB := Lib.hid (HB.out.trans (b.mono hs)); replace hs := HB.out.size
    clear b
    go_wp2_with fail
    refine (spec_pt w2 Ap cp np p HRp.out (by omega) (r := true) (pt_true HV.out)).mono ?_
    rintro e w3 ⟨rfl, b⟩
    replace HRp := Lib.hid (HRp.out.below b)
    replace HB := Lib.hid (HB.out.trans (b.mono hs)); replace hs := HB.out.size
    clear b
    go_wp2_with fail
    refine (impl_cfR w3 Ap cp np p HRp.out (by omega) (ok := true) (ys := cf p) (by rw [cfR, if_pos (pt_true HV.out)])).mono ?_
    rintro e w4 ⟨v, rfl, o, b⟩
    have hl : (cf p : List Int).length = nf := HNF.out
    obtain ⟨Au, cu, rfl, -, -⟩ := o.form' hl
    have HRu := Lib.hid (o.rd hl); clear o hl
    replace HRp := Lib.hid (HRp.out.below b)
    replace HB := Lib.hid (HB.out.trans (b.mono hs)); replace hs := HB.out.size
    clear b
    go_wp2_with fail
    refine (impl_typeR w4 Au cu nf (cf p) HRu.out (by omega) (ok := true) (ys := p) (HF1.out)).mono ?_
    rintro e w5 ⟨v, rfl, o, b⟩
    have hl : (p : List Int).length = np := HNp.out
    obtain ⟨Ak, ck, rfl, -, -⟩ := o.form' hl
    have HRk := Lib.hid (o.rd hl); clear o hl
    replace HRp := Lib.hid (HRp.out.below b)
    replace HRu := Lib.hid (HRu.out.below b)
    replace HB := Lib.hid (HB.out.trans (b.mono hs)); replace hs := HB.out.size
    clear b
    go_wp2_with fail
    refine (sumB_any w5 Ap np cp p HRp.out (by omega) (fun j hj => by have := HV.out.le (j := j) (by rw [HNp.out]; exact hj); omega) HF6.out).mono ?_
    rintro e w6 ⟨rfl, b⟩
    replace HRp := Lib.hid (HRp.out.below b)
    replace HRu := Lib.hid (HRu.out.below b)
    replace HRk := Lib.hid (HRk.out.below b)
    replace HB := Lib.hid (HB.out.trans (b.mono hs)); replace hs := HB.out.size
    clear b
    go_wp2_with fail
    refine (impl_paR w6 s hwf HPA.out).mono ?_
    rintro e w7 ⟨v, rfl, o, b⟩
    obtain ⟨Al, cl, rfl, -⟩ := o.form HM.out
    have HRL := Lib.hid (o.rd HM.out); clear o
    replace HRp := Lib.hid (HRp.out.below b)
    replace HRu := Lib.hid (HRu.out.below b)
    replace HRk := Lib.hid (HRk.out.below b)
    replace HB := Lib.hid (HB.out.trans (b.mono hs)); replace hs := HB.out.size
    clear b
    go_wp2_with fail
    refine (impl_cjR w7 Ap cp np p HRp.out (by omega) (ok := true) (ys := cj p) (by rw [cjR, if_pos (pt_true HV.out)])).mono ?_
    rintro e w8 ⟨v, rfl, o, b⟩
    have hl : (cj p : List Int).length = nc := HNC.out
    obtain ⟨Ay, cy, rfl, -, -⟩ := o.form' hl
    have HRy := Lib.hid (o.rd hl); clear o hl
    replace HRp := Lib.hid (HRp.out.below b)
    replace HRu := Lib.hid (HRu.out.below b)
    replace HRk := Lib.hid (HRk.out.below b)
    replace HRL := Lib.hid (HRL.out.below b)
    replace HB := Lib.hid (HB.out.trans (b.mono hs)); replace hs := HB.out.size
    clear b
    go_wp2_with fail
    go_loopw [14, 15] (fun fv iv wr => ∃ (i : Nat) (t : Bool), i ≤ m ∧ fv = .bool t ∧ iv = .int .i64 i ∧ Hid (t = hasUp LL p i) ∧ Hid (Below w8.heap.size w8 wr)) (fun _ iv _ => m - (intOf iv).toNat)
    case atStart => exact ⟨0, false, Nat.zero_le _, rfl, rfl, rfl, Below.refl _ _⟩
    case round =>
      obtain ⟨i, t, hi, rfl, rfl, hT, hB⟩ := hrel
      have hbs := hB.out.size
      by_cases hlt : i < m
      · obtain ⟨ad, Aj, cj', nj, rfl, hc, hr, hmj⟩ := (HRL.out.below hB.out).at_ hlt
        have HR := Lib.hid hr; clear hr
        obtain ⟨eb, heb⟩ : ∃ eb, eqB (LL.getD i []) p = eb := ⟨_, rfl⟩
        have HEB := Lib.hid heb; clear heb
        cases t with
        | true =>
          have HN : Hid (true = hasUp LL p (i + 1)) := by rw [Hid, hasUp, ← hT.out]; rfl
          go_wp2_with fail
          go_roundw
          case rel => exact ⟨i + 1, true, by omega, rfl, by go_num, HN, hB⟩
          case measure => simp [intOf]; omega
        | false =>
          have HN : Hid (eb = hasUp LL p (i + 1)) := by rw [Hid, hasUp, ← hT.out, HEB.out]; rfl
          go_wp2_with (go_at_call 17; refine (sameInts_any Aj Ap nj np cj' cp _ _ _ HR.out (HRp.out.below hB.out) hmj (by unfold maxLen; omega)).mono ?_; rintro e w6 ⟨rfl, q6, rfl⟩; rw [HEB.out])
          go_roundw
          case rel => exact ⟨i + 1, eb, by omega, rfl, by go_num, HN, below_drewN hB.out _⟩
          case measure => simp [intOf]; omega
      · have him : i = m := by omega
        have HT : Hid (t = true) := by rw [Hid, hT.out, him]; exact HF3.out
        obtain rfl : t = true := HT.out
        have HK1 := Lib.hid (HRk.out.below hB.out); have HP1 := Lib.hid (HRp.out.below hB.out); have HC1 := Lib.hid (HRy.out.below hB.out)
        clear him
        go_wp2_with (first
          | (go_at_call 17; refine (same_yes wr Ak Ap np np ck cp p p HK1.out HP1.out (by omega) (by omega) rfl).mono ?_; rintro e w7 ⟨rfl, b7⟩; have HB7 := Lib.hid b7; have HC7 := Lib.hid (HC1.out.below b7); clear b7)
          | (go_at_call 10; refine (impl_pt w7 Ay cy nc (cj p) HC7.out (by omega) (r := true) HF4.out).mono ?_; rintro e w8 ⟨rfl, b8⟩; have HB8 := Lib.hid b8; clear b8))
        go_ret
        exact ⟨rfl, HB.out.trans ((hB.out.trans ((HB7.out.trans (HB8.out.mono HB7.out.size)).mono hbs)).mono hs)⟩
  · have hf : pt p = false := by simpa using hv
    have HV := Lib.hid hf; clear hv hf
    go_wp2_with fail
    refine (impl_pt w1 Ap cp np p HRp.out (by omega) (r := false) HV.out).mono ?_
    rintro e w2 ⟨rfl, b⟩
    replace HRp := Lib.hid (HRp.out.below b)
    replace HB := Lib.hid (HB.out.trans (b.mono hs)); replace hs := HB.out.size
    clear b
    go_wp2_with fail
    refine (spec_pt w2 Ap cp np p HRp.out (by omega) (r := false) HV.out).mono ?_
    rintro e w3 ⟨rfl, b⟩
    replace HRp := Lib.hid (HRp.out.below b)
    replace HB := Lib.hid (HB.out.trans (b.mono hs)); replace hs := HB.out.size
    clear b
    go_wp2_with fail
    go_ret
    exact ⟨rfl, HB.out⟩

end Go.Proofs.Ytkbdbkoeahihiaa
