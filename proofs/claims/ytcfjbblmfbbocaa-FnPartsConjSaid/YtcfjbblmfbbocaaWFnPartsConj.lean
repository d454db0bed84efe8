/-
  FnPartsConj: the walk of the law.
-/
import Derived.Test.YtcfjbblmfbbocaaLawMap
import Derived.Test.YtcfjbblmfbbocaaDrawPt
import Derived.Test.YtcfjbblmfbbocaaPtG
namespace Go.Proofs.Ytcfjbblmfbbocaa
open Go.RowKit

theorem cj_law : ∀ p ∈ allPts, Pt (cj p) ∧ cj (cj p) = p ∧ (cj p).sum = p.sum ∧ (cj p).length = gn p 0 ∧ gi p 0 = gn p 0 ∧ dg (cj p) = dg p ∧ p.sum ≤ 6 ∧ gn p 0 ≤ 12 := by decide +kernel

set_option maxRecDepth 100000 in
set_option maxHeartbeats 3200000 in
theorem walk_FnPartsConj (A0 : Option Addr) (n0 c0 : Nat) (bs0 : List Int) (w : World) (h0 : RdB w A0 n0 bs0) (hm0 : n0 ≤ maxLen ∧ n0 ≤ c0) :
    Calls Try.prog 3 #[.slice A0 n0 c0] w fun e w' => e = .returned (.bool true) ∧ Below w.heap.size w w' := by
  have HB0_0 := Lib.hid h0; have hc0 := hm0.2; have hml0 := hm0.1; clear h0 hm0; unfold maxLen at hml0
  by_cases hbig0 : 1048576 < n0
  · have hd : decide ((1048576 : Int) < n0) = true := by simp; omega
    go_enter Try.func3, Try.ntmps3
    go_wp2
    go_ret
    exact ⟨rfl, Below.refl _ _⟩
  have hd0 : decide ((1048576 : Int) < n0) = false := by simp; omega
  have hnb0 : n0 ≤ 1048576 := by omega
  clear hbig0
  go_enter Try.func3, Try.ntmps3
  go_wp2_with fail
  refine (drawPartsConj_any w A0 n0 c0 bs0 HB0_0.out hnb0 hc0).mono ?_
  rintro e w1 ⟨v, p, rfl, o, hlp, b⟩
  obtain ⟨np, hn⟩ : ∃ n, p.length = n := ⟨_, rfl⟩
  rw [hn] at hlp
  obtain ⟨Ap, cp, rfl, -, -⟩ := o.form' hn
  have HRp := Lib.hid (o.rd hn); have HNp := Lib.hid hn; clear o hn
  have HB := Lib.hid b; have hs := b.size; clear b
  by_cases hv : pt p = true
  · have HV := Lib.hid (Pt_of hv)
    obtain ⟨f1, f2, f3, f4, f5, f6, f7, f8⟩ := cj_law p HV.out.all
    have h1p : 1 ≤ np := by have := HV.out.1; rw [HNp.out] at this; exact this
    obtain ⟨n0, hn0⟩ : ∃ n0, gn p 0 = n0 := ⟨_, rfl⟩
    rw [hn0] at f4 f5
    have hn12 : n0 ≤ 12 := by rw [← hn0]; exact f8
    obtain ⟨s, hs0⟩ : ∃ s, p.sum = s := ⟨_, rfl⟩
    rw [hs0] at f3
    obtain ⟨d, hd0⟩ : ∃ d, dg p = d := ⟨_, rfl⟩
    rw [hd0] at f6
    have HF1 := Lib.hid f1; have HF2 := Lib.hid f2; have HF3 := Lib.hid f3; have HF4 := Lib.hid f4; have HF6 := Lib.hid f6; have HF7 := Lib.hid f7; have HS := Lib.hid hs0; have HD := Lib.hid hd0; have HN0 := Lib.hid hn0
    obtain ⟨adp, hAp, hcp⟩ := HRp.out.at_ (k := 0) (by omega)
    rw [f5, addz] at hcp
    have HCP : Hid (∃ ad, Ap = some ad ∧ ∀ w' : World, Below w1.heap.size w1 w' → w'.cell? ad = some (.int .i64 (n0 : Int))) := ⟨adp, hAp, fun w' hb => (hb.cell (World.block_lt_of_cell? _ _ hcp)).trans hcp⟩
    have HBB : Hid (Below w1.heap.size w1 w1) := Below.refl _ _
    clear f1 f2 f3 f4 f5 f6 f7 f8 hn0 hs0 hd0 hcp hAp
    go_wp2_with fail
    refine (impl_cjR w1 Ap cp np p HRp.out (by omega) (ok := true) (ys := cj p) (by rw [cjR, if_pos (pt_true HV.out)])).mono ?_
    rintro e w2 ⟨v, rfl, o, b⟩
    have hl : (cj p : List Int).length = n0 := HF4.out
    obtain ⟨Aq, cq, rfl, -, -⟩ := o.form' hl
    have HRq := Lib.hid (o.rd hl); clear o hl
    replace HRp := Lib.hid (HRp.out.below b)
    replace HB := Lib.hid (HB.out.trans (b.mono hs)); replace hs := HB.out.size
    replace HBB := Lib.hid (HBB.out.trans (b.mono HBB.out.size))
    clear b
    go_wp2_with fail
    refine (spec_cjR w2 Ap cp np p HRp.out (by omega) (ok := true) (ys := cj p) (by rw [cjR, if_pos (pt_true HV.out)])).mono ?_
    rintro e w3 ⟨v, rfl, o, b⟩
    have hl : (cj p : List Int).length = n0 := HF4.out
    obtain ⟨Ar, cr, rfl, -, -⟩ := o.form' hl
    have HRr := Lib.hid (o.rd hl); clear o hl
    replace HRp := Lib.hid (HRp.out.below b)
    replace HRq := Lib.hid (HRq.out.below b)
    replace HB := Lib.hid (HB.out.trans (b.mono hs)); replace hs := HB.out.size
    replace HBB := Lib.hid (HBB.out.trans (b.mono HBB.out.size))
    clear b
    go_wp2_with fail
    refine (same_yes w3 Aq Ar n0 n0 cq cr (cj p) (cj p) HRq.out HRr.out (by omega) (by omega) (rfl)).mono ?_
    rintro e w4 ⟨rfl, b⟩
    replace HRp := Lib.hid (HRp.out.below b)
    replace HRq := Lib.hid (HRq.out.below b)
    replace HRr := Lib.hid (HRr.out.below b)
    replace HB := Lib.hid (HB.out.trans (b.mono hs)); replace hs := HB.out.size
    replace HBB := Lib.hid (HBB.out.trans (b.mono HBB.out.size))
    clear b
    clear HRr
    go_wp2_with fail
    refine (impl_cjR w4 Aq cq n0 (cj p) HRq.out (by omega) (ok := true) (ys := cj (cj p)) (by rw [cjR, if_pos (pt_true HF1.out)])).mono ?_
    rintro e w5 ⟨v, rfl, o, b⟩
    have hl : (cj (cj p) : List Int).length = np := by rw [HF2.out]; exact HNp.out
    obtain ⟨Ax, cx, rfl, -, -⟩ := o.form' hl
    have HRx := Lib.hid (o.rd hl); clear o hl
    replace HRp := Lib.hid (HRp.out.below b)
    replace HRq := Lib.hid (HRq.out.below b)
    replace HB := Lib.hid (HB.out.trans (b.mono hs)); replace hs := HB.out.size
    replace HBB := Lib.hid (HBB.out.trans (b.mono HBB.out.size))
    clear b
    go_wp2_with fail
    refine (same_yes w5 Ax Ap np np cx cp (cj (cj p)) p HRx.out HRp.out (by omega) (by omega) (HF2.out)).mono ?_
    rintro e w6 ⟨rfl, b⟩
    replace HRp := Lib.hid (HRp.out.below b)
    replace HRq := Lib.hid (HRq.out.below b)
    replace HRx := Lib.hid (HRx.out.below b)
    replace HB := Lib.hid (HB.out.trans (b.mono hs)); replace hs := HB.out.size
    replace HBB := Lib.hid (HBB.out.trans (b.mono HBB.out.size))
    clear b
    go_wp2_with fail
    refine (sumB_any w6 Aq n0 cq (cj p) HRq.out (by omega) (fun j hj => by have := HF1.out.le (j := j) (by rw [HF4.out]; exact hj); omega) (HF3.out)).mono ?_
    rintro e w7 ⟨rfl, b⟩
    replace HRp := Lib.hid (HRp.out.below b)
    replace HRq := Lib.hid (HRq.out.below b)
    replace HRx := Lib.hid (HRx.out.below b)
    replace HB := Lib.hid (HB.out.trans (b.mono hs)); replace hs := HB.out.size
    replace HBB := Lib.hid (HBB.out.trans (b.mono HBB.out.size))
    clear b
    go_wp2_with fail
    refine (sumB_any w7 Ap np cp p HRp.out (by omega) (fun j hj => by have := HV.out.le (j := j) (by rw [HNp.out]; exact hj); omega) (HS.out)).mono ?_
    rintro e w8 ⟨rfl, b⟩
    replace HRp := Lib.hid (HRp.out.below b)
    replace HRq := Lib.hid (HRq.out.below b)
    replace HRx := Lib.hid (HRx.out.below b)
    replace HB := Lib.hid (HB.out.trans (b.mono hs)); replace hs := HB.out.size
    replace HBB := Lib.hid (HBB.out.trans (b.mono HBB.out.size))
    clear b
    obtain ⟨adp, rfl, hcp⟩ := HCP.out
    have hcp' := hcp _ HBB.out
    clear hcp
    go_wp2_with fail
    refine (impl_dgR w8 Aq cq n0 (cj p) HRq.out (by omega) (r := d) (by rw [dgR, if_pos (pt_true HF1.out)]; exact HF6.out)).mono ?_
    rintro e w9 ⟨rfl, b⟩
    replace HRp := Lib.hid (HRp.out.below b)
    replace HRq := Lib.hid (HRq.out.below b)
    replace HRx := Lib.hid (HRx.out.below b)
    replace HB := Lib.hid (HB.out.trans (b.mono hs)); replace hs := HB.out.size
    replace HBB := Lib.hid (HBB.out.trans (b.mono HBB.out.size))
    clear b
    go_wp2_with fail
    refine (impl_dgR w9 (some adp) cp np p HRp.out (by omega) (r := d) (by rw [dgR, if_pos (pt_true HV.out)]; exact HD.out)).mono ?_
    rintro e w10 ⟨rfl, b⟩
    replace HRp := Lib.hid (HRp.out.below b)
    replace HRq := Lib.hid (HRq.out.below b)
    replace HRx := Lib.hid (HRx.out.below b)
    replace HB := Lib.hid (HB.out.trans (b.mono hs)); replace hs := HB.out.size
    replace HBB := Lib.hid (HBB.out.trans (b.mono HBB.out.size))
    clear b
    go_wp2_with fail
    go_ret
    exact ⟨rfl, HB.out⟩
  · have HV := Lib.hid hv
    go_wp2_with fail
    refine (impl_cjR w1 Ap cp np p HRp.out (by omega) (ok := false) (ys := []) (by rw [cjR, if_neg HV.out])).mono ?_
    rintro e w2 ⟨v, rfl, o, b⟩
    have hl : ([] : List Int).length = 0 := rfl
    obtain ⟨Aq, cq, rfl, -, -⟩ := o.form' hl
    have HRq := Lib.hid (o.rd hl); clear o hl
    replace HRp := Lib.hid (HRp.out.below b)
    replace HB := Lib.hid (HB.out.trans (b.mono hs)); replace hs := HB.out.size
    clear b
    go_wp2_with fail
    refine (spec_cjR w2 Ap cp np p HRp.out (by omega) (ok := false) (ys := []) (by rw [cjR, if_neg HV.out])).mono ?_
    rintro e w3 ⟨v, rfl, o, b⟩
    have hl : ([] : List Int).length = 0 := rfl
    obtain ⟨Ar, cr, rfl, -, -⟩ := o.form' hl
    have HRr := Lib.hid (o.rd hl); clear o hl
    replace HRp := Lib.hid (HRp.out.below b)
    replace HRq := Lib.hid (HRq.out.below b)
    replace HB := Lib.hid (HB.out.trans (b.mono hs)); replace hs := HB.out.size
    clear b
    go_wp2_with fail
    refine (same_yes w3 Aq Ar 0 0 cq cr [] [] HRq.out HRr.out (by omega) (by omega) (rfl)).mono ?_
    rintro e w4 ⟨rfl, b⟩
    replace HRp := Lib.hid (HRp.out.below b)
    replace HRq := Lib.hid (HRq.out.below b)
    replace HRr := Lib.hid (HRr.out.below b)
    replace HB := Lib.hid (HB.out.trans (b.mono hs)); replace hs := HB.out.size
    clear b
    go_wp2_with fail
    refine (same_yes w4 Aq Ar 0 0 cq cr [] [] HRq.out HRr.out (by omega) (by omega) (rfl)).mono ?_
    rintro e w5 ⟨rfl, b⟩
    replace HRp := Lib.hid (HRp.out.below b)
    replace HRq := Lib.hid (HRq.out.below b)
    replace HRr := Lib.hid (HRr.out.below b)
    replace HB := Lib.hid (HB.out.trans (b.mono hs)); replace hs := HB.out.size
    clear b
    go_wp2_with fail
    go_ret
    exact ⟨rfl, HB.out⟩

end Go.Proofs.Ytcfjbblmfbbocaa
