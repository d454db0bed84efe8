/-
  FnCutJoin: the walk of the law.
-/
import Derived.Test.YtkbdbkoeahihiaaLawMap
import Derived.Test.YtkbdbkoeahihiaaDrawTy
import Derived.Test.YtkbdbkoeahihiaaFacO
import Derived.Test.YtkbdbkoeahihiaaLawN
import Derived.Test.YtkbdbkoeahihiaaPtJS
import Derived.Test.YtkbdbkoeahihiaaPtZ
import Derived.Test.YtkbdbkoeahihiaaCutT
namespace Go.Proofs.Ytkbdbkoeahihiaa
open Go.RowKit

def cjB (q : List Int × List Int) : Bool := (decide (2 ≤ sumI q.1) || decide (cutT q.1 q.2 = 0)) && (decide (sumI q.1 < 2) || (tyB [q.1, swapL (sumI q.1).toNat, q.2] && decide (fcT [q.1, swapL (sumI q.1).toNat, q.2] = csT q.1 * cutT q.1 q.2) && decide (csT q.2 * cutT q.2 q.1 = csT q.1 * cutT q.1 q.2) && decide (0 ≤ csT q.1 * cutT q.1 q.2) && decide (csT q.1 * cutT q.1 q.2 ≤ 1000000)))
set_option maxHeartbeats 0 in
theorem cjB_all : ∀ q ∈ pairPts, cjB q = true := by decide +kernel
theorem cj_law2 {a b : List Int} (h : PairOk a b) : (sumI a < 2 → cut a b = 0) ∧ (2 ≤ sumI a → fcR [a, swapL (sumI a).toNat, b] = cs a * cut a b ∧ cs b * cut b a = cs a * cut a b ∧ 0 ≤ cs a * cut a b ∧ cs a * cut a b ≤ 1000000) := by
  have := cjB_all (a, b) (h.1.pair h.2.1 h.2.2)
  simp only [cjB, Bool.and_eq_true, Bool.or_eq_true, decide_eq_true_eq] at this
  refine ⟨fun h2 => by rw [cutT_of h.1.all]; exact this.1.resolve_left (by omega), fun h2 => ?_⟩
  obtain ⟨⟨⟨⟨h3, h4⟩, h5⟩, h6⟩, h7⟩ := this.2.resolve_left (by omega)
  rw [csT_of h.1, csT_of h.2.1, fcT_of h3, cutT_of h.1.all, cutT_of h.2.1.all]
  exact ⟨h4, h5, h6, h7⟩
theorem sum_sumI (xs : List Int) : xs.sum = sumI xs := by
  induction xs with
  | nil => rfl
  | cons x r ih => rw [List.sum_cons, ih]; rfl
theorem cut_in {a b : List Int} (h : sumI a ≤ 6) (h0 : 0 ≤ sumI a) : 0 ≤ cut a b ∧ cut a b ≤ 36 := by
  have := outn_le (hitI a b (sumI a).toNat) (sumI a).toNat
  have h6 : (sumI a).toNat ≤ 6 := by omega
  have : (sumI a).toNat * (sumI a).toNat ≤ 6 * 6 := Nat.mul_le_mul h6 h6
  unfold cut
  omega

set_option maxRecDepth 100000 in
set_option maxHeartbeats 3200000 in
theorem walk_FnCutJoin (A0 : Option Addr) (n0 c0 : Nat) (bs0 : List Int) (w : World) (h0 : RdB w A0 n0 bs0) (hm0 : n0 ≤ maxLen ∧ n0 ≤ c0) :
    Calls Try.prog 6 #[.slice A0 n0 c0] w fun e w' => e = .returned (.bool true) ∧ Below w.heap.size w w' := by
  have HB0_0 := Lib.hid h0; have hc0 := hm0.2; have hml0 := hm0.1; clear h0 hm0; unfold maxLen at hml0
  by_cases hbig0 : 1048576 < n0
  · have hd : decide ((1048576 : Int) < n0) = true := by simp; omega
    go_enter Try.func6, Try.ntmps6
    go_wp2
    go_ret
    exact ⟨rfl, Below.refl _ _⟩
  have hd0 : decide ((1048576 : Int) < n0) = false := by simp; omega
  have hnb0 : n0 ≤ 1048576 := by omega
  clear hbig0
  go_enter Try.func6, Try.ntmps6
  go_wp2_with fail
  refine (drawCutJoin_any w A0 n0 c0 bs0 HB0_0.out hnb0 hc0).mono ?_
  rintro e w1 ⟨Ap, np, cp, p, Aq, nq, cq, q, rfl, o1, l1, h1, o2, l2, h2, b⟩
  have HO1 := Lib.hid (o1.mono (Nat.zero_le _)); have HO2 := Lib.hid (o2.mono (Nat.zero_le _)); have HNp := Lib.hid l1; have HNq := Lib.hid l2
  have HRp := Lib.hid (o1.rd l1); have HRq := Lib.hid (o2.rd l2)
  clear o1 o2 l1 l2
  have HB := Lib.hid b; have hs := b.size; clear b
  by_cases hv : prB p q = true
  · have HV := Lib.hid (prB_iff.1 hv)
    obtain ⟨f1, f2⟩ := cj_law2 HV.out
    have hsm := HV.out.1.sum
    obtain ⟨s, hs0⟩ := Int.eq_ofNat_of_zero_le (show 0 ≤ sumI p by omega)
    have hsq : sumI q = s := by rw [← HV.out.2.2]; exact hs0
    rw [hs0] at f1 f2 hsm
    have et : ((s : Int)).toNat = s := by omega
    rw [et] at f2
    have hcb := cut_in (a := p) (b := q) (by omega) (by omega)
    have hcb2 := cut_in (a := q) (b := p) (by omega) (by omega)
    obtain ⟨c, hc⟩ : ∃ c, cut p q = c := ⟨_, rfl⟩
    obtain ⟨c2, hc2⟩ : ∃ c, cut q p = c := ⟨_, rfl⟩
    obtain ⟨z, hz⟩ : ∃ c, cs p = c := ⟨_, rfl⟩
    obtain ⟨z2, hz2⟩ : ∃ c, cs q = c := ⟨_, rfl⟩
    rw [hc, hc2, hz, hz2] at f2
    rw [hc] at f1 hcb
    rw [hc2] at hcb2
    have hsum : p.sum = (s : Int) := by rw [← hs0]; exact sum_sumI p
    have hcc : (c != c) = false := by simp
    have hcn : decide (c < 0) = false := by simp; omega
    have HF1 := Lib.hid f1; have HF2 := Lib.hid f2; have HS := Lib.hid hs0; have HC := Lib.hid hc; have HC2 := Lib.hid hc2; have HZ := Lib.hid hz; have HZ2 := Lib.hid hz2; have HSM := Lib.hid hsum; have HSQ := Lib.hid hsq
    have hn8 : np ≤ 8 ∧ nq ≤ 8 := ⟨h1, h2⟩
    clear f1 f2 hs0 hc hc2 hz hz2 et hsum hsq
    go_wp2_with fail
    refine (impl_ctR w1 Ap cp np p HRp.out (by omega) Aq cq nq q HRq.out (by omega) (r := c) (by rw [ctR, if_pos (prB_iff.2 HV.out)]; exact HC.out)).mono ?_
    rintro e w2 ⟨rfl, b⟩
    replace HRp := Lib.hid (HRp.out.below b)
    replace HRq := Lib.hid (HRq.out.below b)
    replace HO1 := Lib.hid (HO1.out.below b)
    replace HO2 := Lib.hid (HO2.out.below b)
    replace HB := Lib.hid (HB.out.trans (b.mono hs)); replace hs := HB.out.size
    clear b
    go_wp2_with fail
    refine (spec_ctR w2 Ap cp np p HRp.out (by omega) Aq cq nq q HRq.out (by omega) (r := c) (by rw [ctR, if_pos (prB_iff.2 HV.out)]; exact HC.out)).mono ?_
    rintro e w3 ⟨rfl, b⟩
    replace HRp := Lib.hid (HRp.out.below b)
    replace HRq := Lib.hid (HRq.out.below b)
    replace HO1 := Lib.hid (HO1.out.below b)
    replace HO2 := Lib.hid (HO2.out.below b)
    replace HB := Lib.hid (HB.out.trans (b.mono hs)); replace hs := HB.out.size
    clear b
    go_wp2_with fail
    refine (sumB_any w3 Ap np cp p HRp.out (by omega) (fun j hj => by have := HV.out.1.le (j := j) (by rw [HNp.out]; exact hj); omega) HSM.out).mono ?_
    rintro e w4 ⟨rfl, b⟩
    replace HRp := Lib.hid (HRp.out.below b)
    replace HRq := Lib.hid (HRq.out.below b)
    replace HO1 := Lib.hid (HO1.out.below b)
    replace HO2 := Lib.hid (HO2.out.below b)
    replace HB := Lib.hid (HB.out.trans (b.mono hs)); replace hs := HB.out.size
    clear b
    by_cases h2 : s < 2
    · have hd : decide (s < 2) = true := by simpa using h2
      have hd' : decide ((s : Int) < 2) = true := by simp; omega
      have hc0 : c = 0 := HF1.out (by omega)
      have hc0' : (c == 0) = true := by rw [hc0]; rfl
      clear hc0
      go_wp2_with fail
      go_ret
      exact ⟨rfl, HB.out⟩
    have hd : decide (s < 2) = false := by simpa using h2
    have hd' : decide ((s : Int) < 2) = false := by simp; omega
    obtain ⟨g1, g2, g3, g4⟩ := HF2.out (by omega)
    have G1 := Lib.hid g1
    obtain ⟨zc, hzc⟩ : ∃ zc, z * c = zc := ⟨_, rfl⟩
    rw [hzc] at g2 g3 g4
    have hm1 : IntKind.i64.wrap (z * c) = zc := by rw [hzc]; exact IntWalk.i64_in _ (by omega)
    have hm2 : IntKind.i64.wrap (z2 * c2) = zc := by rw [g2]; exact IntWalk.i64_in _ (by omega)
    clear g1 g2
    have HZC := Lib.hid hzc; clear hzc
    have hzz : (zc == zc) = true := by simp
    have hs6 : s ≤ 6 := by omega
    go_wp2_with fail
    refine (impl_csR w4 Ap cp np p HRp.out (by omega) (r := z) (by rw [csR, if_pos (pt_true HV.out.1)]; exact HZ.out)).mono ?_
    rintro e w5 ⟨rfl, b⟩
    replace HRp := Lib.hid (HRp.out.below b)
    replace HRq := Lib.hid (HRq.out.below b)
    replace HO1 := Lib.hid (HO1.out.below b)
    replace HO2 := Lib.hid (HO2.out.below b)
    replace HB := Lib.hid (HB.out.trans (b.mono hs)); replace hs := HB.out.size
    clear b
    go_wp2_with fail
    refine (impl_csR w5 Aq cq nq q HRq.out (by omega) (r := z2) (by rw [csR, if_pos (pt_true HV.out.2.1)]; exact HZ2.out)).mono ?_
    rintro e w6 ⟨rfl, b⟩
    replace HRp := Lib.hid (HRp.out.below b)
    replace HRq := Lib.hid (HRq.out.below b)
    replace HO1 := Lib.hid (HO1.out.below b)
    replace HO2 := Lib.hid (HO2.out.below b)
    replace HB := Lib.hid (HB.out.trans (b.mono hs)); replace hs := HB.out.size
    clear b
    go_wp2_with fail
    refine (impl_ctR w6 Aq cq nq q HRq.out (by omega) Ap cp np p HRp.out (by omega) (r := c2) (by rw [ctR, if_pos (prB_iff.2 ⟨HV.out.2.1, HV.out.1, HV.out.2.2.symm⟩)]; exact HC2.out)).mono ?_
    rintro e w7 ⟨rfl, b⟩
    replace HRp := Lib.hid (HRp.out.below b)
    replace HRq := Lib.hid (HRq.out.below b)
    replace HO1 := Lib.hid (HO1.out.below b)
    replace HO2 := Lib.hid (HO2.out.below b)
    replace HB := Lib.hid (HB.out.trans (b.mono hs)); replace hs := HB.out.size
    clear b
    go_wp2_with fail
    refine (swapType_any s w7 (by omega)).mono ?_
    rintro e w8 ⟨v, rfl, o, b⟩
    obtain ⟨ns, hns⟩ : ∃ n, (swapL s).length = n := ⟨_, rfl⟩
    obtain ⟨As, cs', rfl, -, -⟩ := o.form' hns
    have HO3 := Lib.hid (o.mono (Nat.zero_le _)); clear o
    replace HRp := Lib.hid (HRp.out.below b)
    replace HRq := Lib.hid (HRq.out.below b)
    replace HO1 := Lib.hid (HO1.out.below b)
    replace HO2 := Lib.hid (HO2.out.below b)
    replace HB := Lib.hid (HB.out.trans (b.mono hs)); replace hs := HB.out.size
    clear b
    obtain ⟨W2, hW2⟩ : ∃ W2, w8.alloc (.cells #[.slice Ap np cp, .slice As ns cs', .slice Aq nq cq] 23) = W2 := ⟨_, rfl⟩
    have hal : Below w8.heap.size w8 W2 := by rw [← hW2]; exact (Below.refl _ _).alloc (Nat.le_refl _) _
    have hro : RdO W2 (some ⟨w8.heap.size, 0, none⟩) 3 [p, swapL s, q] := by
      have hh : W2.heap[w8.heap.size]? = some (.cells #[.slice Ap np cp, .slice As ns cs', .slice Aq nq cq] 23 (0, 0)) := by rw [← hW2]; exact heap_alloc_new _ _
      refine ⟨rfl, fun _ => ⟨_, rfl, fun j hj => ?_⟩⟩
      rw [show (⟨w8.heap.size, 0, none⟩ : Addr).add j = ⟨w8.heap.size, j, none⟩ from by unfold Addr.add; split <;> simp_all, cell_of_row _ _ _ _ _ (0, 0) hh]
      rcases (show j = 0 ∨ j = 1 ∨ j = 2 by omega) with rfl | rfl | rfl
      · exact ⟨_, rfl, HO1.out.below hal⟩
      · exact ⟨_, rfl, HO3.out.below hal⟩
      · exact ⟨_, rfl, HO2.out.below hal⟩
    have HRO := Lib.hid hro; have HAL := Lib.hid hal; clear hro hal hns
    go_wp2_with fail
    refine (impl_fcQ W2 (some ⟨w8.heap.size, 0, none⟩) 3 3 [p, swapL s, q] HRO.out (by omega) (by have e1 := HNp.out; have e2 := HNq.out; have e3 := swapL_len (n := s) (by omega); simp only [total]; omega) (r := zc) (by rw [G1.out]; exact HZC.out)).mono ?_
    rintro e w9 ⟨rfl, b9⟩
    have HB9 : Hid (Below w.heap.size w w9) := (HB.out.trans (HAL.out.mono hs)).trans (b9.mono (Nat.le_trans hs HAL.out.size))
    clear b9 hW2
    go_wp2_with fail
    go_ret
    exact ⟨rfl, HB9.out⟩
  · have hv' := hv
    have hcc : ((-1 : Int) != -1) = false := rfl
    have HV := Lib.hid hv; have hn8 : np ≤ 8 ∧ nq ≤ 8 := ⟨h1, h2⟩; clear hv hv'
    go_wp2_with fail
    refine (impl_ctR w1 Ap cp np p HRp.out (by omega) Aq cq nq q HRq.out (by omega) (r := -1) (by rw [ctR, if_neg HV.out])).mono ?_
    rintro e w2 ⟨rfl, b⟩
    replace HRp := Lib.hid (HRp.out.below b)
    replace HRq := Lib.hid (HRq.out.below b)
    replace HO1 := Lib.hid (HO1.out.below b)
    replace HO2 := Lib.hid (HO2.out.below b)
    replace HB := Lib.hid (HB.out.trans (b.mono hs)); replace hs := HB.out.size
    clear b
    go_wp2_with fail
    refine (spec_ctR w2 Ap cp np p HRp.out (by omega) Aq cq nq q HRq.out (by omega) (r := -1) (by rw [ctR, if_neg HV.out])).mono ?_
    rintro e w3 ⟨rfl, b⟩
    replace HRp := Lib.hid (HRp.out.below b)
    replace HRq := Lib.hid (HRq.out.below b)
    replace HO1 := Lib.hid (HO1.out.below b)
    replace HO2 := Lib.hid (HO2.out.below b)
    replace HB := Lib.hid (HB.out.trans (b.mono hs)); replace hs := HB.out.size
    clear b
    go_wp2_with fail
    go_ret
    exact ⟨rfl, HB.out⟩

end Go.Proofs.Ytkbdbkoeahihiaa
