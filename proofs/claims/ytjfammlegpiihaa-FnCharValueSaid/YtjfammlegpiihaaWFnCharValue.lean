/-
  FnCharValue: the walk of the law.
-/
import Derived.Test.YtjfammlegpiihaaLawMap
import Derived.Test.YtjfammlegpiihaaDrawPq
import Derived.Test.YtjfammlegpiihaaPtG
import Derived.Test.YtjfammlegpiihaaPtH
import Derived.Test.YtjfammlegpiihaaPtF
import Derived.Test.YtjfammlegpiihaaSign
namespace Go.Proofs.Ytjfammlegpiihaa
open Go.RowKit

def chvB (p : List Int × List Int) : Bool := decide (PairOk (cj p.1) p.2) && decide (chr (cj p.1) p.2 = chr p.1 p.2 * signR (cf p.2)) && decide (PairOk [sumI p.2] p.2) && decide (chr [sumI p.2] p.2 = 1) && decide (chr p.1 p.2 * chr p.1 p.2 ≤ dg p.1 * dg p.1) &&
  decide (p.2.sum = sumI p.2) && decide (-100 ≤ chr p.1 p.2 ∧ chr p.1 p.2 ≤ 100) && decide (1 ≤ dg p.1 ∧ dg p.1 ≤ 100) && decide (signR (cf p.2) = 1 ∨ signR (cf p.2) = -1) && decide ((cf p.2).length ≤ 6) && decide ((cj p.1).length ≤ 6)
theorem chvB_all : ∀ p ∈ pairPts, chvB p = true := by decide +kernel
theorem chv_law {a b : List Int} (h : (a, b) ∈ pairPts) : PairOk (cj a) b ∧ chr (cj a) b = chr a b * signR (cf b) ∧ PairOk [sumI b] b ∧ chr [sumI b] b = 1 ∧ chr a b * chr a b ≤ dg a * dg a ∧ b.sum = sumI b ∧ (-100 ≤ chr a b ∧ chr a b ≤ 100) ∧ (1 ≤ dg a ∧ dg a ≤ 100) ∧ (signR (cf b) = 1 ∨ signR (cf b) = -1) ∧ (cf b).length ≤ 6 ∧ (cj a).length ≤ 6 := by
  have := chvB_all _ h
  simp only [chvB, Bool.and_eq_true, decide_eq_true_eq] at this
  obtain ⟨⟨⟨⟨⟨⟨⟨⟨⟨⟨f1, f2⟩, f3⟩, f4⟩, f5⟩, f6⟩, f7⟩, f8⟩, f9⟩, f10⟩, f11⟩ := this
  exact ⟨f1, f2, f3, f4, f5, f6, f7, f8, f9, f10, f11⟩

set_option maxRecDepth 100000 in
set_option maxHeartbeats 3200000 in
theorem walk_FnCharValue (A0 : Option Addr) (n0 c0 : Nat) (bs0 : List Int) (w : World) (h0 : RdB w A0 n0 bs0) (hm0 : n0 ≤ maxLen ∧ n0 ≤ c0) :
    Calls Try.prog 4 #[.slice A0 n0 c0] w fun e w' => e = .returned (.bool true) ∧ Below w.heap.size w w' := by
  have HB0_0 := Lib.hid h0; have hc0 := hm0.2; have hml0 := hm0.1; clear h0 hm0; unfold maxLen at hml0
  by_cases hbig0 : 1048576 < n0
  · have hd : decide ((1048576 : Int) < n0) = true := by simp; omega
    go_enter Try.func4, Try.ntmps4
    go_wp2
    go_ret
    exact ⟨rfl, Below.refl _ _⟩
  have hd0 : decide ((1048576 : Int) < n0) = false := by simp; omega
  have hnb0 : n0 ≤ 1048576 := by omega
  clear hbig0
  go_enter Try.func4, Try.ntmps4
  go_wp2_with fail
  refine (drawCharValue_any w A0 n0 c0 bs0 HB0_0.out hnb0 hc0).mono ?_
  rintro e w1 ⟨Aa, na, ca, a, Ab, nb, cb, b', rfl, oa, hna, hla, ob, hnbb, hlb, b⟩
  have HRa := Lib.hid (oa.rd hna); have HNa := Lib.hid hna; have HRb := Lib.hid (ob.rd hnbb); have HNb := Lib.hid hnbb
  have HCAPb : Hid (nb ≤ cb) := ob.capP; have HROWb : Hid (0 < nb → ∃ g o', Ab = some ⟨g, o', none⟩ ∧ g < w1.heap.size) := fun hp => by obtain ⟨g, e, hg⟩ := ob.row hnbb hp; exact ⟨g, 0, e, hg⟩
  clear oa ob hna hnbb
  have HB := Lib.hid b; have hs := b.size; clear b
  have HBB : Hid (Below w1.heap.size w1 w1) := Below.refl _ _
  by_cases hv : prB a b' = true
  · have HV := Lib.hid (prB_iff.1 hv)
    obtain ⟨f1, f2, f3, f4, f5, f6, f7, f8, f9, f10, f11⟩ := chv_law (HV.out.1.pair HV.out.2.1 HV.out.2.2)
    obtain ⟨c, hc⟩ : ∃ c, chr a b' = c := ⟨_, rfl⟩
    obtain ⟨d, hd⟩ : ∃ d, dg a = d := ⟨_, rfl⟩
    obtain ⟨sg, hsg⟩ : ∃ sg, signR (cf b') = sg := ⟨_, rfl⟩
    obtain ⟨s, hs0⟩ : ∃ s, sumI b' = s := ⟨_, rfl⟩
    obtain ⟨N, hN⟩ : ∃ N, (cj a).length = N := ⟨_, rfl⟩
    obtain ⟨M, hM⟩ : ∃ M, (cf b').length = M := ⟨_, rfl⟩
    rw [hc, hsg] at f2
    rw [hc] at f5 f7
    rw [hd] at f5 f8
    rw [hsg] at f9
    rw [hs0] at f3 f4 f6
    rw [hM] at f10
    rw [hN] at f11
    obtain ⟨c2, hc2⟩ : ∃ c2, c * sg = c2 := ⟨_, rfl⟩
    rw [hc2] at f2
    have hc2b : -100 ≤ c2 ∧ c2 ≤ 100 := by rcases f9 with rfl | rfl <;> omega
    obtain ⟨cc, hcc⟩ : ∃ cc, c * c = cc := ⟨_, rfl⟩
    obtain ⟨dd, hdd⟩ : ∃ dd, d * d = dd := ⟨_, rfl⟩
    rw [hcc, hdd] at f5
    have hcc0 : 0 ≤ cc := by
      rw [← hcc]
      rcases Int.le_total 0 c with h | h
      · exact Int.mul_nonneg h h
      · have := Int.mul_nonneg (show 0 ≤ -c by omega) (show 0 ≤ -c by omega)
        rwa [Int.neg_mul_neg] at this
    have hdd1 : dd ≤ 10000 := by rw [← hdd]; exact Int.mul_le_mul (c := 100) (d := 100) (by omega) (by omega) (by omega) (by omega)
    have g1 : IntKind.i64.wrap (c * sg) = c2 := by rw [hc2]; exact IntWalk.i64_in _ (by omega)
    have g2 : IntKind.i64.wrap (c * c) = cc := by rw [hcc]; exact IntWalk.i64_in _ (by omega)
    have g3 : IntKind.i64.wrap (d * d) = dd := by rw [hdd]; exact IntWalk.i64_in _ (by omega)
    have g4 : (c2 == c2) = true := by simp
    have g5 : decide (cc ≤ dd) = true := by simp; omega
    have g6 : (c != c) = false := by simp
    have HC := Lib.hid hc; have HD := Lib.hid hd; have HSG := Lib.hid hsg; have HS := Lib.hid hs0; have HN := Lib.hid hN; have HM := Lib.hid hM
    have HF1 := Lib.hid f1; have HF2 := Lib.hid f2; have HF3 := Lib.hid f3; have HF4 := Lib.hid f4; have HF6 := Lib.hid f6
    have hna6 : 1 ≤ na ∧ na ≤ 6 := by have h1 := HV.out.1.1; have h2 := HV.out.1.len; rw [HNa.out] at h1 h2; exact ⟨h1, h2⟩
    have hnb6 : 1 ≤ nb ∧ nb ≤ 6 := by have h1 := HV.out.2.1.1; have h2 := HV.out.2.1.len; rw [HNb.out] at h1 h2; exact ⟨h1, h2⟩
    clear f1 f2 f3 f4 f5 f6 f7 f8 f9 hc hd hsg hs0 hN hM hc2 hc2b hcc hdd hcc0 hdd1
    go_wp2_with fail
    refine (impl_chR w1 Aa ca na a HRa.out (by omega) Ab cb nb b' HRb.out (by omega) HCAPb.out (fun hp => by obtain ⟨g, o', e, hg⟩ := HROWb.out hp; exact ⟨g, o', e, Nat.lt_of_lt_of_le hg HBB.out.size⟩) (ok := true) (r := c) (by rw [chR, if_pos hv, HC.out])).mono ?_
    rintro e w2 ⟨rfl, b⟩
    replace HRa := Lib.hid (HRa.out.below b)
    replace HRb := Lib.hid (HRb.out.below b)
    replace HB := Lib.hid (HB.out.trans (b.mono hs)); replace hs := HB.out.size
    replace HBB := Lib.hid (HBB.out.trans (b.mono HBB.out.size))
    clear b
    go_wp2_with fail
    refine (spec_chR w2 Aa ca na a HRa.out (by omega) Ab cb nb b' HRb.out (by omega) (ok := true) (r := c) (by rw [chR, if_pos hv, HC.out])).mono ?_
    rintro e w3 ⟨rfl, b⟩
    replace HRa := Lib.hid (HRa.out.below b)
    replace HRb := Lib.hid (HRb.out.below b)
    replace HB := Lib.hid (HB.out.trans (b.mono hs)); replace hs := HB.out.size
    replace HBB := Lib.hid (HBB.out.trans (b.mono HBB.out.size))
    clear b
    go_wp2_with fail
    refine (impl_cjR w3 Aa ca na a HRa.out (by omega) (ok := true) (ys := cj a) (by rw [cjR, if_pos (pt_true HV.out.1)])).mono ?_
    rintro e w4 ⟨v, rfl, o, b⟩
    have hl : (cj a : List Int).length = N := HN.out
    obtain ⟨Aq, cq, rfl, -, -⟩ := o.form' hl
    have HRq := Lib.hid (o.rd hl); clear o hl
    replace HRa := Lib.hid (HRa.out.below b)
    replace HRb := Lib.hid (HRb.out.below b)
    replace HB := Lib.hid (HB.out.trans (b.mono hs)); replace hs := HB.out.size
    replace HBB := Lib.hid (HBB.out.trans (b.mono HBB.out.size))
    clear b
    go_wp2_with fail
    refine (impl_chR w4 Aq cq N (cj a) HRq.out (by omega) Ab cb nb b' HRb.out (by omega) HCAPb.out (fun hp => by obtain ⟨g, o', e, hg⟩ := HROWb.out hp; exact ⟨g, o', e, Nat.lt_of_lt_of_le hg HBB.out.size⟩) (ok := true) (r := c2) (by rw [chR, if_pos (prB_iff.2 HF1.out), HF2.out])).mono ?_
    rintro e w5 ⟨rfl, b⟩
    replace HRa := Lib.hid (HRa.out.below b)
    replace HRb := Lib.hid (HRb.out.below b)
    replace HRq := Lib.hid (HRq.out.below b)
    replace HB := Lib.hid (HB.out.trans (b.mono hs)); replace hs := HB.out.size
    replace HBB := Lib.hid (HBB.out.trans (b.mono HBB.out.size))
    clear b
    go_wp2_with fail
    refine (impl_cfR w5 Ab cb nb b' HRb.out (by omega) (ok := true) (ys := cf b') (by rw [cfR, if_pos (pt_true HV.out.2.1)])).mono ?_
    rintro e w6 ⟨v, rfl, o, b⟩
    have hl : (cf b' : List Int).length = M := HM.out
    obtain ⟨Au, cu, rfl, -, -⟩ := o.form' hl
    have HRu := Lib.hid (o.rd hl); clear o hl
    replace HRa := Lib.hid (HRa.out.below b)
    replace HRb := Lib.hid (HRb.out.below b)
    replace HRq := Lib.hid (HRq.out.below b)
    replace HB := Lib.hid (HB.out.trans (b.mono hs)); replace hs := HB.out.size
    replace HBB := Lib.hid (HBB.out.trans (b.mono HBB.out.size))
    clear b
    go_wp2_with fail
    refine (sumB_any w6 Ab nb cb b' HRb.out (by omega) (fun j hj => by have := HV.out.2.1.le (j := j) (by rw [HNb.out]; exact hj); omega) HF6.out).mono ?_
    rintro e w7 ⟨rfl, b⟩
    replace HRa := Lib.hid (HRa.out.below b)
    replace HRb := Lib.hid (HRb.out.below b)
    replace HRq := Lib.hid (HRq.out.below b)
    replace HRu := Lib.hid (HRu.out.below b)
    replace HB := Lib.hid (HB.out.trans (b.mono hs)); replace hs := HB.out.size
    replace HBB := Lib.hid (HBB.out.trans (b.mono HBB.out.size))
    clear b
    go_wp2_with fail
    obtain ⟨w8, hWN⟩ : ∃ W, w7.alloc (.cells #[.int .i64 s] 3) = W := ⟨_, rfl⟩
    have HRl : Hid (Rd w8 (some ⟨w7.heap.size, 0, none⟩) 1 [s]) := by rw [Hid, ← hWN]; exact Own.rd (lo := w7.heap.size) (c := 1) (World.ownsRow_lit w7 #[.int .i64 s] 1 (Nat.le_refl _) (by unfold maxLen; omega) rfl) rfl
    have b : Below w7.heap.size w7 w8 := by rw [← hWN]; exact (Below.refl _ _).alloc (Nat.le_refl _) _
    rw [hWN]
    clear hWN
    replace HRa := Lib.hid (HRa.out.below b)
    replace HRb := Lib.hid (HRb.out.below b)
    replace HRq := Lib.hid (HRq.out.below b)
    replace HRu := Lib.hid (HRu.out.below b)
    replace HB := Lib.hid (HB.out.trans (b.mono hs)); replace hs := HB.out.size
    replace HBB := Lib.hid (HBB.out.trans (b.mono HBB.out.size))
    clear b
    refine (impl_chR w8 (some ⟨w7.heap.size, 0, none⟩) 1 1 [s] HRl.out (by omega) Ab cb nb b' HRb.out (by omega) HCAPb.out (fun hp => by obtain ⟨g, o', e, hg⟩ := HROWb.out hp; exact ⟨g, o', e, Nat.lt_of_lt_of_le hg HBB.out.size⟩) (ok := true) (r := 1) (by rw [chR, if_pos (prB_iff.2 HF3.out), HF4.out])).mono ?_
    rintro e w9 ⟨rfl, b⟩
    replace HRa := Lib.hid (HRa.out.below b)
    replace HRb := Lib.hid (HRb.out.below b)
    replace HRq := Lib.hid (HRq.out.below b)
    replace HRu := Lib.hid (HRu.out.below b)
    replace HB := Lib.hid (HB.out.trans (b.mono hs)); replace hs := HB.out.size
    replace HBB := Lib.hid (HBB.out.trans (b.mono HBB.out.size))
    clear b
    clear HRl
    go_wp2_with fail
    refine (impl_dgR w9 Aa ca na a HRa.out (by omega) (r := d) (by rw [dgR, if_pos (pt_true HV.out.1)]; exact HD.out)).mono ?_
    rintro e w10 ⟨rfl, b⟩
    replace HRa := Lib.hid (HRa.out.below b)
    replace HRb := Lib.hid (HRb.out.below b)
    replace HRq := Lib.hid (HRq.out.below b)
    replace HRu := Lib.hid (HRu.out.below b)
    replace HB := Lib.hid (HB.out.trans (b.mono hs)); replace hs := HB.out.size
    replace HBB := Lib.hid (HBB.out.trans (b.mono HBB.out.size))
    clear b
    go_wp2_with fail
    refine (impl_signR w10 Au cu M (cf b') HRu.out (by omega) HSG.out).mono ?_
    rintro e w11 ⟨rfl, b⟩
    replace HRa := Lib.hid (HRa.out.below b)
    replace HRb := Lib.hid (HRb.out.below b)
    replace HRq := Lib.hid (HRq.out.below b)
    replace HRu := Lib.hid (HRu.out.below b)
    replace HB := Lib.hid (HB.out.trans (b.mono hs)); replace hs := HB.out.size
    replace HBB := Lib.hid (HBB.out.trans (b.mono HBB.out.size))
    clear b
    go_wp2_with fail
    go_ret
    exact ⟨rfl, HB.out⟩
  · have HV := Lib.hid hv
    go_wp2_with fail
    refine (impl_chR w1 Aa ca na a HRa.out (by omega) Ab cb nb b' HRb.out (by omega) HCAPb.out (fun hp => by obtain ⟨g, o', e, hg⟩ := HROWb.out hp; exact ⟨g, o', e, Nat.lt_of_lt_of_le hg HBB.out.size⟩) (ok := false) (r := 0) (by rw [chR, if_neg hv])).mono ?_
    rintro e w2 ⟨rfl, b⟩
    replace HRa := Lib.hid (HRa.out.below b)
    replace HRb := Lib.hid (HRb.out.below b)
    replace HB := Lib.hid (HB.out.trans (b.mono hs)); replace hs := HB.out.size
    replace HBB := Lib.hid (HBB.out.trans (b.mono HBB.out.size))
    clear b
    go_wp2_with fail
    refine (spec_chR w2 Aa ca na a HRa.out (by omega) Ab cb nb b' HRb.out (by omega) (ok := false) (r := 0) (by rw [chR, if_neg hv])).mono ?_
    rintro e w3 ⟨rfl, b⟩
    replace HRa := Lib.hid (HRa.out.below b)
    replace HRb := Lib.hid (HRb.out.below b)
    replace HB := Lib.hid (HB.out.trans (b.mono hs)); replace hs := HB.out.size
    replace HBB := Lib.hid (HBB.out.trans (b.mono HBB.out.size))
    clear b
    go_wp2_with fail
    go_ret
    exact ⟨rfl, HB.out⟩

end Go.Proofs.Ytjfammlegpiihaa
