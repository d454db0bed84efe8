/-
  FnColumns: the walk of the law.
-/
import Derived.Test.YtlgfedkoefhjjaaLawMap
import Derived.Test.YtlgfedkoefhjjaaDrawPq
import Derived.Test.YtlgfedkoefhjjaaOrth
import Derived.Test.YtlgfedkoefhjjaaPtH
import Derived.Test.YtlgfedkoefhjjaaPtL
import Derived.Test.YtlgfedkoefhjjaaPAll
import Derived.Test.YtlgfedkoefhjjaaLawN
import Derived.Test.YtlgfedkoefhjjaaPtZ
import Derived.Test.YtlgfedkoefhjjaaRdO
namespace Go.Proofs.Ytlgfedkoefhjjaa
open Go.RowKit

theorem sum_sumO (xs : List Int) : xs.sum = sumI xs := by
  induction xs with
  | nil => rfl
  | cons x r ih => rw [List.sum_cons, ih]; rfl
theorem pts_pos : ∀ n : Nat, n < 7 → 1 ≤ n → 1 ≤ (ptsOf 7 n n).length := by decide +kernel

set_option maxRecDepth 100000 in
set_option maxHeartbeats 6400000 in
theorem walk_FnColumns (A0 : Option Addr) (n0 c0 : Nat) (bs0 : List Int) (A1 : Option Addr) (n1 c1 : Nat) (bs1 : List Int) (w : World) (h0 : RdB w A0 n0 bs0) (hm0 : n0 ≤ maxLen ∧ n0 ≤ c0) (h1 : RdB w A1 n1 bs1) (hm1 : n1 ≤ maxLen ∧ n1 ≤ c1) :
    Calls Try.prog 4 #[.slice A0 n0 c0, .slice A1 n1 c1] w fun e w' => e = .returned (.bool true) ∧ Below w.heap.size w w' := by
  have HB0_0 := Lib.hid h0; have hc0 := hm0.2; have hml0 := hm0.1; clear h0 hm0; unfold maxLen at hml0
  have HB0_1 := Lib.hid h1; have hc1 := hm1.2; have hml1 := hm1.1; clear h1 hm1; unfold maxLen at hml1
  by_cases hbig0 : 1048576 < n0
  · have hd : decide ((1048576 : Int) < n0) = true := by simp; omega
    go_enter Try.func4, Try.ntmps4
    go_wp2
    go_ret
    exact ⟨rfl, Below.refl _ _⟩
  have hd0 : decide ((1048576 : Int) < n0) = false := by simp; omega
  have hnb0 : n0 ≤ 1048576 := by omega
  clear hbig0
  by_cases hbig1 : 1048576 < n1
  · have hd : decide ((1048576 : Int) < n1) = true := by simp; omega
    go_enter Try.func4, Try.ntmps4
    go_wp2
    go_ret
    exact ⟨rfl, Below.refl _ _⟩
  have hd1 : decide ((1048576 : Int) < n1) = false := by simp; omega
  have hnb1 : n1 ≤ 1048576 := by omega
  clear hbig1
  go_enter Try.func4, Try.ntmps4
  go_wp2_with fail
  refine (drawCharValue_any w A0 n0 c0 bs0 HB0_0.out hnb0 hc0).mono ?_
  rintro e w1 ⟨Ap, np, cp, p, Aq, nq, cq, q, rfl, o1, l1, h1, o2, l2, h2, b⟩
  have HO1 := Lib.hid (o1.mono (Nat.zero_le _)); have HO2 := Lib.hid (o2.mono (Nat.zero_le _)); have HNp := Lib.hid l1; have HNq := Lib.hid l2
  have HRp := Lib.hid (o1.rd l1); have HRq := Lib.hid (o2.rd l2); have hqc : nq ≤ cq := o2.capP
  have hn8 : np ≤ 8 ∧ nq ≤ 8 := ⟨h1, h2⟩
  clear o1 o2 l1 l2 h1 h2
  have HB := Lib.hid b; have hs := b.size; clear b
  by_cases hv : prB p q = true
  · have HV := Lib.hid (prB_iff.1 hv)
    have hpx : Pt q := HV.out.2.1
    have HPX := Lib.hid hpx
    obtain ⟨s, hs0⟩ := Int.eq_ofNat_of_zero_le (show 0 ≤ sumI q by have := hpx.sum; omega)
    have hs16 : 1 ≤ s ∧ s ≤ 6 := by have := hpx.sum; omega
    have et : (sumI q).toNat = s := by omega
    have hsum : q.sum = (s : Int) := by rw [← hs0]; exact sum_sumO q
    obtain ⟨LL, hLL⟩ : ∃ LL, Lof q = LL := ⟨_, rfl⟩
    have hLL2 : ptsOf 7 s s = LL := by rw [← hLL, Lof, et]
    obtain ⟨m, hm⟩ : ∃ m, LL.length = m := ⟨_, rfl⟩
    have hm1 : 1 ≤ m := by rw [← hm, ← hLL2]; exact pts_pos s (by omega) (by omega)
    have hm15 : m ≤ 15 := by rw [← hm, ← hLL]; exact (or_law (⟨HV.out.2.1, HV.out.2.1, rfl⟩ : PairOk q q)).1
    have hpa : paR (s : Int) = (true, LL) := by rw [paR, if_pos (by omega), ← hLL2]; simp
    obtain ⟨F, hF⟩ : ∃ F, fct s = F := ⟨_, rfl⟩
    obtain ⟨r, hr⟩ : ∃ r, chr p q = r := ⟨_, rfl⟩
    have HS := Lib.hid hs0; have HET := Lib.hid et; have HSM := Lib.hid hsum; have HLL := Lib.hid hLL; have HM := Lib.hid hm; have HPA := Lib.hid hpa; have HF := Lib.hid hF; have HR := Lib.hid hr
    have hwf : (Lit.int .i64 (s : Int)).wf = true := WalkArith.wf_i64 (by omega)
    have hrr : (r != r) = false := by simp
    have hff : (F == F) = true := by simp
    clear hv hpx hs0 et hsum hLL hLL2 hm hpa hF hr
    go_wp2_with fail
    refine (impl_chR w1 Ap cp np p HRp.out (by omega) Aq cq nq q HRq.out (by omega) hqc (fun hp => by obtain ⟨g, e, hg⟩ := Own.row HO2.out HNq.out hp; exact ⟨g, 0, e, hg⟩) (ok := true) (r := r) (by rw [chR, if_pos (prB_iff.2 HV.out), HR.out])).mono ?_
    rintro e w2 ⟨rfl, b⟩
    replace HRp := Lib.hid (HRp.out.below b)
    replace HRq := Lib.hid (HRq.out.below b)
    replace HO1 := Lib.hid (HO1.out.below b)
    replace HO2 := Lib.hid (HO2.out.below b)
    replace HB := Lib.hid (HB.out.trans (b.mono hs)); replace hs := HB.out.size
    clear b
    go_wp2_with fail
    refine (spec_chR w2 Ap cp np p HRp.out (by omega) Aq cq nq q HRq.out (by omega) (ok := true) (r := r) (by rw [chR, if_pos (prB_iff.2 HV.out), HR.out])).mono ?_
    rintro e w3 ⟨rfl, b⟩
    replace HRp := Lib.hid (HRp.out.below b)
    replace HRq := Lib.hid (HRq.out.below b)
    replace HO1 := Lib.hid (HO1.out.below b)
    replace HO2 := Lib.hid (HO2.out.below b)
    replace HB := Lib.hid (HB.out.trans (b.mono hs)); replace hs := HB.out.size
    clear b
    go_wp2_with fail
    refine (sumB_any w3 Aq nq cq q HRq.out (by omega) (fun j hj => by have := HPX.out.le (j := j) (by rw [HNq.out]; exact hj); omega) HSM.out).mono ?_
    rintro e w4 ⟨rfl, b⟩
    replace HRp := Lib.hid (HRp.out.below b)
    replace HRq := Lib.hid (HRq.out.below b)
    replace HO1 := Lib.hid (HO1.out.below b)
    replace HO2 := Lib.hid (HO2.out.below b)
    replace HB := Lib.hid (HB.out.trans (b.mono hs)); replace hs := HB.out.size
    clear b
    go_wp2_with fail
    refine (impl_paR w4 s hwf HPA.out).mono ?_
    rintro e w5 ⟨v, rfl, o, b⟩
    obtain ⟨Al, cl, rfl, -⟩ := o.form HM.out
    have HRL := Lib.hid (o.rdo HM.out); clear o
    replace HRp := Lib.hid (HRp.out.below b)
    replace HRq := Lib.hid (HRq.out.below b)
    replace HO1 := Lib.hid (HO1.out.below b)
    replace HO2 := Lib.hid (HO2.out.below b)
    replace HB := Lib.hid (HB.out.trans (b.mono hs)); replace hs := HB.out.size
    clear b
    obtain ⟨k, hk⟩ : ∃ k, n1 % m = k := ⟨_, rfl⟩
    have hkm : k < m := by rw [← hk]; exact Nat.mod_lt _ (by omega)
    have hkr : (n1 : Int) % (m : Int) = (k : Int) := by rw [← hk]; omega
    have hkr' : IntKind.i64.wrap ((n1 : Int).tmod (m : Int)) = (k : Int) := by rw [← hk, ← Int.ofNat_tmod]; exact IntWalk.i64_in _ (by have := Nat.mod_lt n1 (show 0 < m by omega); omega)
    have hmz : ¬ ((m : Int) = 0) := by omega
    obtain ⟨ad, Ao, no, co, rfl, hco, hno, hoo⟩ := HRL.out.at_ hkm
    obtain ⟨hpo1, hpo2⟩ := Lof_ok HPX.out (a := LL.getD k []) (by rw [HLL.out]; exact getD_mem (by rw [HM.out]; exact hkm))
    obtain ⟨oo, hox⟩ : ∃ oo, LL.getD k [] = oo := ⟨_, rfl⟩
    rw [hox] at hno hoo hpo1 hpo2
    have HPO := Lib.hid hpo1
    have HXO : Hid (PairOk q oo) := ⟨HPX.out, hpo1, hpo2.symm⟩
    obtain ⟨-, hz, hcr, hco', hne⟩ := or_law HXO.out
    obtain ⟨-, hz2, hcr2, hco2, -⟩ := or_law (⟨HV.out.2.1, HV.out.2.1, rfl⟩ : PairOk q q)
    rw [HLL.out, HM.out] at hz hcr hco' hne hz2 hcr2 hco2
    rw [HET.out] at hcr hco' hcr2 hco2
    have HZ := Lib.hid hz; have HCR := Lib.hid hcr; have HCO := Lib.hid hco'; have HNE := Lib.hid hne; have HZ2 := Lib.hid hz2; have HCR2 := Lib.hid hcr2; have HCO2 := Lib.hid hco2
    have HRO := Lib.hid (hoo.rd hno); have HOO := Lib.hid hoo; have HNO := Lib.hid hno; have hoc : no ≤ co := hoo.capP
    have hno6 : no ≤ 6 := by rw [← hno]; exact hpo1.len
    obtain ⟨eb, heb⟩ : ∃ eb, eqB oo q = eb := ⟨_, rfl⟩
    have HEB := Lib.hid heb
    clear hk hno hoo hpo1 hpo2 hox hz hcr hco' hne hz2 hcr2 hco2 heb
    go_wp2_with fail
    clear hkr hkr' hmz
    go_loopw [15, 16, 17] (fun zv ov iv wr => ∃ (i : Nat) (z o : Int), i ≤ m ∧ zv = .int .i64 z ∧ ov = .int .i64 o ∧ iv = .int .i64 i ∧ Hid (z = coS q oo LL i) ∧ Hid (o = coS q q LL i) ∧ Hid (Below w5.heap.size w5 wr)) (fun _ _ iv _ => m - (intOf iv).toNat)
    case atStart => exact ⟨0, 0, 0, Nat.zero_le _, rfl, rfl, rfl, rfl, rfl, Below.refl _ _⟩
    case round =>
      obtain ⟨i, z, o, hi, rfl, rfl, rfl, hZ, hO, hB⟩ := hrel
      have hbs := hB.out.size
      by_cases hlt : i < m
      · obtain ⟨_, Aj, nj, cj, e, hc, hnj, hoj⟩ := (HRL.out.below hB.out).at_ hlt
        simp only [Option.some.injEq] at e
        subst e
        obtain ⟨b1, b2, b3, b4, b5, b6⟩ := HZ.out i hlt
        obtain ⟨d1, d2, d3, d4, d5, d6⟩ := HZ2.out i hlt
        obtain ⟨hpa1, hpa2⟩ := Lof_ok HPX.out (a := LL.getD i []) (by rw [HLL.out]; exact getD_mem (by rw [HM.out]; exact hlt))
        rw [coS, ← hZ.out] at b2
        rw [coS, ← hO.out] at d2
        have eZ : coS q oo LL (i + 1) = z + chr (LL.getD i []) q * chr (LL.getD i []) oo := by rw [coS, ← hZ.out]
        have eO : coS q q LL (i + 1) = o + chr (LL.getD i []) q * chr (LL.getD i []) q := by rw [coS, ← hO.out]
        obtain ⟨a, ha⟩ : ∃ a, LL.getD i [] = a := ⟨_, rfl⟩
        rw [ha] at hnj hoj b2 b5 d2 d5 hpa1 hpa2 eZ eO
        have HPA1 := Lib.hid hpa1
        have HXA : Hid (PairOk q a) := ⟨HPX.out, hpa1, hpa2.symm⟩
        have HAX : Hid (PairOk a q) := ⟨hpa1, HPX.out, hpa2⟩
        have HOA : Hid (PairOk oo a) := ⟨HPO.out, hpa1, by rw [hpa2]; exact HXO.out.2.2.symm⟩
        have HAO : Hid (PairOk a oo) := ⟨hpa1, HPO.out, by rw [hpa2]; exact HXO.out.2.2⟩
        have hnj6 : nj ≤ 6 := by rw [← hnj]; exact hpa1.len
        have hjc : nj ≤ cj := hoj.capP
        obtain ⟨u, hu⟩ : ∃ u, chr a q = u := ⟨_, rfl⟩
        obtain ⟨v, hv⟩ : ∃ v, chr a oo = v := ⟨_, rfl⟩
        rw [hu, hv] at b2 b5 eZ
        rw [hu] at d2 d5 eO
        obtain ⟨y2, hy2⟩ : ∃ y, u * v = y := ⟨_, rfl⟩
        obtain ⟨y3, hy3⟩ : ∃ y, u * u = y := ⟨_, rfl⟩
        rw [hy2] at b2 b5 eZ
        rw [hy3] at d2 d5 eO
        have hw2 : IntKind.i64.wrap (u * v) = y2 := by rw [hy2]; exact IntWalk.i64_in _ (by have := bigB_iff b5; omega)
        have hw3 : IntKind.i64.wrap (u * u) = y3 := by rw [hy3]; exact IntWalk.i64_in _ (by have := bigB_iff d5; omega)
        clear hy2 hy3
        obtain ⟨z1, hz1⟩ : ∃ z1, z + y2 = z1 := ⟨_, rfl⟩
        obtain ⟨o1, ho1⟩ : ∃ o1, o + y3 = o1 := ⟨_, rfl⟩
        rw [hz1] at b2 eZ
        rw [ho1] at d2 eO
        have hw4 : IntKind.i64.wrap (z + y2) = z1 := by rw [hz1]; exact IntWalk.i64_in _ (by have := bigB_iff b2; omega)
        have hw5 : IntKind.i64.wrap (o + y3) = o1 := by rw [ho1]; exact IntWalk.i64_in _ (by have := bigB_iff d2; omega)
        have HU := Lib.hid hu; have HVV := Lib.hid hv; have EZ := Lib.hid eZ; have EO := Lib.hid eO; have HOJ := Lib.hid hoj; have HNJ := Lib.hid hnj; have HRJ := Lib.hid (hoj.rd hnj); have HC0 := Lib.hid hc
        have HX0 := Lib.hid (HRq.out.below hB.out); have HX2 := Lib.hid (HRO.out.below hB.out)
        have HXO0 := Lib.hid (HO2.out.below hB.out); have HXO2 := Lib.hid (HOO.out.below hB.out)
        clear b1 b2 b3 b4 b5 b6 d1 d2 d3 d4 d5 d6 hpa1 hpa2 hu hv eZ eO hoj hnj hz1 ho1 ha
        go_wp2_with fail
        refine (impl_chR wr Aj cj nj a HRJ.out (by omega) Aq cq nq q HX0.out (by omega) hqc (fun hp => by obtain ⟨g, e, hg⟩ := Own.row HXO0.out HNq.out hp; exact ⟨g, 0, e, hg⟩) (ok := true) (r := u) (by rw [chR, if_pos (prB_iff.2 HAX.out), HU.out])).mono ?_
        rintro e z1' ⟨rfl, b⟩
        have HBB1 := Lib.hid b; replace HRJ := Lib.hid (HRJ.out.below b); replace HOJ := Lib.hid (HOJ.out.below b); replace HX0 := Lib.hid (HX0.out.below b); replace HX2 := Lib.hid (HX2.out.below b); replace HXO0 := Lib.hid (HXO0.out.below b); replace HXO2 := Lib.hid (HXO2.out.below b)
        clear hc; have hc := (b.cell (World.block_lt_of_cell? _ _ HC0.out)).trans HC0.out; replace HC0 := Lib.hid hc; clear b
        go_wp2_with fail
        refine (impl_chR z1' Aj cj nj a HRJ.out (by omega) Ao co no oo HX2.out (by omega) hoc (fun hp => by obtain ⟨g, e, hg⟩ := Own.row HXO2.out HNO.out hp; exact ⟨g, 0, e, hg⟩) (ok := true) (r := v) (by rw [chR, if_pos (prB_iff.2 HAO.out), HVV.out])).mono ?_
        rintro e z2' ⟨rfl, b⟩
        have HBB2 := Lib.hid b; replace HRJ := Lib.hid (HRJ.out.below b); replace HOJ := Lib.hid (HOJ.out.below b); replace HX0 := Lib.hid (HX0.out.below b); replace HX2 := Lib.hid (HX2.out.below b); replace HXO0 := Lib.hid (HXO0.out.below b); replace HXO2 := Lib.hid (HXO2.out.below b)
        clear hc; have hc := (b.cell (World.block_lt_of_cell? _ _ HC0.out)).trans HC0.out; replace HC0 := Lib.hid hc; clear b
        have HBA : Hid (Below w5.heap.size w5 z2') := ((hB.out.trans (HBB1.out.mono (by have := hB.out.size; omega))).trans (HBB2.out.mono (by have := hB.out.size; have := HBB1.out.size; omega)))
        go_wp2_with fail
        go_roundw
        case rel => exact ⟨i + 1, z1, o1, by omega, by first | rfl | exact congrArg _ hw4, by first | rfl | exact congrArg _ hw5, by go_num, EZ.out.symm, EO.out.symm, HBA.out⟩
        case measure => simp [intOf]; omega
      · have him : i = m := by omega
        have HIM := Lib.hid him
        have HX1 := Lib.hid (HRq.out.below hB.out); have HX2 := Lib.hid (HRO.out.below hB.out)
        clear him
        have hoF : o * cs q = F := by rw [hO.out, HIM.out, HCO2.out, if_pos (eqB_refl _)]; exact HF.out
        have hzz : eb = false → z = 0 := fun h => by rw [hZ.out, HIM.out]; exact HNE.out (by rw [HEB.out, h])
        obtain ⟨c, hcs⟩ : ∃ c, cs q = c := ⟨_, rfl⟩
        rw [hcs] at hoF
        have hfF := fct_in s (by omega)
        rw [HF.out] at hfF
        have hw1 : IntKind.i64.wrap (o * c) = F := by rw [hoF]; exact IntWalk.i64_in _ (by omega)
        have HCS := Lib.hid hcs; clear hcs hoF
        go_wp2_with fail
        refine (impl_csR wr Aq cq nq q HX1.out (by omega) (r := c) (by rw [csR, if_pos (pt_true HPX.out)]; exact HCS.out)).mono ?_
        rintro e w5 ⟨rfl, b⟩
        have HB5 := Lib.hid (hB.out.trans (b.mono hbs)); have HY1 := Lib.hid (HX1.out.below b); have HY2 := Lib.hid (HX2.out.below b); clear b
        cases eb with
        | true =>
          clear hzz
          go_wp2_with (first
            | (go_at_call 11; refine (timesN_any s _ (by omega)).mono ?_; rintro e wt ⟨rfl, rfl⟩; rw [HF.out])
            | (go_at_call 12; refine (sameInts_any Ao Aq no nq co cq oo q _ HY2.out HY1.out (by unfold maxLen; omega) (by unfold maxLen; omega)).mono ?_; rintro e w6 ⟨rfl, q6, rfl⟩; rw [HEB.out]))
          go_ret
          exact ⟨rfl, HB.out.trans ((below_drewN HB5.out _).mono hs)⟩
        | false =>
          obtain rfl : z = 0 := hzz rfl
          have h00 : ((0 : Int) == 0) = true := rfl
          go_wp2_with (first
            | (go_at_call 11; refine (timesN_any s _ (by omega)).mono ?_; rintro e wt ⟨rfl, rfl⟩; rw [HF.out])
            | (go_at_call 12; refine (sameInts_any Ao Aq no nq co cq oo q _ HY2.out HY1.out (by unfold maxLen; omega) (by unfold maxLen; omega)).mono ?_; rintro e w6 ⟨rfl, q6, rfl⟩; rw [HEB.out]))
          go_ret
          exact ⟨rfl, HB.out.trans ((below_drewN HB5.out _).mono hs)⟩
  · have hrr : ((0 : Int) != 0) = false := rfl
    have h00 : ((0 : Int) == 0) = true := rfl
    have HV := Lib.hid hv; clear hv
    go_wp2_with fail
    refine (impl_chR w1 Ap cp np p HRp.out (by omega) Aq cq nq q HRq.out (by omega) hqc (fun hp => by obtain ⟨g, e, hg⟩ := Own.row HO2.out HNq.out hp; exact ⟨g, 0, e, hg⟩) (ok := false) (r := 0) (by rw [chR, if_neg HV.out])).mono ?_
    rintro e w2 ⟨rfl, b⟩
    replace HRp := Lib.hid (HRp.out.below b)
    replace HRq := Lib.hid (HRq.out.below b)
    replace HO1 := Lib.hid (HO1.out.below b)
    replace HO2 := Lib.hid (HO2.out.below b)
    replace HB := Lib.hid (HB.out.trans (b.mono hs)); replace hs := HB.out.size
    clear b
    go_wp2_with fail
    refine (spec_chR w2 Ap cp np p HRp.out (by omega) Aq cq nq q HRq.out (by omega) (ok := false) (r := 0) (by rw [chR, if_neg HV.out])).mono ?_
    rintro e w3 ⟨rfl, b⟩
    replace HRp := Lib.hid (HRp.out.below b)
    replace HRq := Lib.hid (HRq.out.below b)
    replace HO1 := Lib.hid (HO1.out.below b)
    replace HO2 := Lib.hid (HO2.out.below b)
    replace HB := Lib.hid (HB.out.trans (b.mono hs)); replace hs := HB.out.size
    clear b
    go_wp2_with fail
    go_ret
    exact ⟨rfl, HB.out⟩

end Go.Proofs.Ytlgfedkoefhjjaa
