/-
  FnGluingGenus: the walk of the law.
-/
import Derived.Test.YtfcgfeopmnjfjaaLawMap
import Derived.Test.YtfcgfeopmnjfjaaGlB
import Derived.Test.YtfcgfeopmnjfjaaGluM
import Derived.Test.YtfcgfeopmnjfjaaGluD
import Derived.Test.YtfcgfeopmnjfjaaGlM
import Derived.Test.YtfcgfeopmnjfjaaGenus
import Derived.Test.YtfcgfeopmnjfjaaDrawN
namespace Go.Proofs.Ytfcgfeopmnjfjaa
open Go.RowKit

set_option maxRecDepth 100000 in
set_option maxHeartbeats 3200000 in
theorem walk_FnGluingGenus (A0 : Option Addr) (n0 c0 : Nat) (bs0 : List Int) (w : World) (h0 : RdB w A0 n0 bs0) (hm0 : n0 ≤ maxLen ∧ n0 ≤ c0) :
    Calls Try.prog 12 #[.slice A0 n0 c0] w fun e w' => e = .returned (.bool true) ∧ Below w.heap.size w w' := by
  have HB0_0 := Lib.hid h0; have hc0 := hm0.2; have hml0 := hm0.1; clear h0 hm0; unfold maxLen at hml0
  by_cases hbig0 : 1048576 < n0
  · have hd : decide ((1048576 : Int) < n0) = true := by simp; omega
    go_enter Try.func12, Try.ntmps12
    go_wp2
    go_ret
    exact ⟨rfl, Below.refl _ _⟩
  have hd0 : decide ((1048576 : Int) < n0) = false := by simp; omega
  have hnb0 : n0 ≤ 1048576 := by omega
  clear hbig0
  go_enter Try.func12, Try.ntmps12
  go_wp2_with fail
  refine (dDrawGluingGenus_any w A0 n0 c0 bs0 HB0_0.out hnb0 hc0).mono ?_
  rintro e w1 ⟨v, ps, rfl, o, hlp, b⟩
  obtain ⟨np, hn⟩ : ∃ n, ps.length = n := ⟨_, rfl⟩
  rw [hn] at hlp
  obtain ⟨Ap, cp, rfl, -, -⟩ := o.form' hn
  have HRp := Lib.hid (o.rd hn); have HNp := Lib.hid hn; clear o hn
  have HB := Lib.hid b; have hs := b.size; clear b
  by_cases hg : glu ps = true
  · have HG := Lib.hid hg; have HI := Lib.hid (glu_iff.1 hg); clear hg
    have hn10 : np ≤ 10 := by have := HI.out.2.1; rw [HNp.out] at this; exact this
    have hn2 : 2 ≤ np := by have := HI.out.1; rw [HNp.out] at this; exact this
    obtain ⟨g, hgg⟩ : ∃ g, ggen ps = g := ⟨_, rfl⟩
    obtain ⟨ch, hch⟩ : ∃ c, chord ps = c := ⟨_, rfl⟩
    have HQ : Hid (ggenR ps = g) := by rw [Hid, ggenR, if_pos HG.out, hgg]
    have HC : Hid (gchR ps = (ch : Int)) := by rw [Hid, gchR, if_pos HG.out, hch]
    have g0 : 0 ≤ g := by rw [← hgg]; exact HI.out.ok.gen0
    have gc := HI.out.ok.genC
    have gl := HI.out.ok.genL
    rw [hgg, hch] at gc gl
    obtain ⟨g, rfl⟩ := Int.eq_ofNat_of_zero_le g0
    have HP : Hid (gplR ps = decide (g = 0)) := by rw [Hid, gplR, HG.out, hch, Bool.true_and, decide_eq_decide]; omega
    have HM : Hid (genusR (corL ps) ps = (g : Int)) := by
      have h1 : cntV (corL ps) = ncor ps := rfl
      rw [Hid, genusR, if_pos (mapV_iff.2 HI.out.isMap), genusOf, gmap_cntF HI.out, h1, cntE, ← hgg, ggen]
      congr 1
      omega
    have hqd : decide ((g : Int) < 0) = false := by simp
    have hqq : ((g : Int) != (g : Int)) = false := by simp
    have hq3 : ((g : Int) == (g : Int)) = true := by simp
    have hq4 : ((g : Int) == 0) = decide (g = 0) := by rw [Bool.eq_iff_iff]; simp
    have hq5 : decide ((g : Int) ≤ (ch : Int)) = true := by simp; omega
    have hq6 : decide (g ≤ ch) = true := by simp; omega
    clear hgg hch gc gl g0
    cases hz : decide (g = 0)
    all_goals rw [hz] at HP hq4
    · have HZ := Lib.hid hz; clear hz
      go_wp2_with fail
      refine (impl_ggenR w1 Ap cp np ps HRp.out (by omega) HQ.out).mono ?_
      rintro e w2 ⟨rfl, b⟩
      replace HRp := Lib.hid (HRp.out.below b)
      replace HB := Lib.hid (HB.out.trans (b.mono hs)); replace hs := HB.out.size
      clear b
      go_wp2_with fail
      refine (spec_ggenR w2 Ap cp np ps HRp.out (by omega) HQ.out).mono ?_
      rintro e w3 ⟨rfl, b⟩
      replace HRp := Lib.hid (HRp.out.below b)
      replace HB := Lib.hid (HB.out.trans (b.mono hs)); replace hs := HB.out.size
      clear b
      go_wp2_with fail
      refine (impl_gmapR w3 Ap cp np ps HRp.out (by omega) (ok := true) (yt := corL ps) (yf := ps) (by rw [gmapR, if_pos HG.out])).mono ?_
      rintro e w4 ⟨u, u', rfl, o, b⟩
      have hl : (corL ps : List Int).length = np := (corL_len _).trans HNp.out
      have hl' : (ps : List Int).length = np := HNp.out
      obtain ⟨Am, cm, Am', cm', rfl, rfl, r1, r2⟩ := o.form hl hl'
      have HRm := Lib.hid r1; have HRm' := Lib.hid r2; clear o hl hl' r1 r2
      replace HRp := Lib.hid (HRp.out.below b)
      replace HB := Lib.hid (HB.out.trans (b.mono hs)); replace hs := HB.out.size
      clear b
      obtain ⟨w5, hWw5, hx, b, hz⟩ := Box.local_ w4 36 (.slice Am np cm) (.slice Am' np cm')
      have BXm := Lib.hid hx; clear hx hz
      replace HRp := Lib.hid (HRp.out.below b)
      replace HRm := Lib.hid (HRm.out.below b)
      replace HRm' := Lib.hid (HRm'.out.below b)
      replace HB := Lib.hid (HB.out.trans (b.mono hs)); replace hs := HB.out.size
      clear b
      have cm_0 := BXm.out.cell0; have cm_1 := BXm.out.cell1
      go_wp2_with fail
      refine (impl_genusR w5 Am Am' np np cm cm' (corL ps) ps HRm.out HRm'.out (by omega) (by omega) HM.out).mono ?_
      rintro e w6 ⟨rfl, b⟩
      replace HRp := Lib.hid (HRp.out.below b)
      replace HRm := Lib.hid (HRm.out.below b)
      replace HRm' := Lib.hid (HRm'.out.below b)
      replace BXm := Lib.hid (BXm.out.below b); replace cm_0 := BXm.out.cell0; replace cm_1 := BXm.out.cell1
      replace HB := Lib.hid (HB.out.trans (b.mono hs)); replace hs := HB.out.size
      clear b
      go_wp2_with fail
      refine (impl_gplR w6 Ap cp np ps HRp.out (by omega) HP.out).mono ?_
      rintro e w7 ⟨rfl, b⟩
      replace HRp := Lib.hid (HRp.out.below b)
      replace HRm := Lib.hid (HRm.out.below b)
      replace HRm' := Lib.hid (HRm'.out.below b)
      replace BXm := Lib.hid (BXm.out.below b); replace cm_0 := BXm.out.cell0; replace cm_1 := BXm.out.cell1
      replace HB := Lib.hid (HB.out.trans (b.mono hs)); replace hs := HB.out.size
      clear b
      go_wp2_with fail
      refine (impl_gchR w7 Ap cp np ps HRp.out (by omega) HC.out).mono ?_
      rintro e w8 ⟨rfl, b⟩
      replace HRp := Lib.hid (HRp.out.below b)
      replace HRm := Lib.hid (HRm.out.below b)
      replace HRm' := Lib.hid (HRm'.out.below b)
      replace BXm := Lib.hid (BXm.out.below b); replace cm_0 := BXm.out.cell0; replace cm_1 := BXm.out.cell1
      replace HB := Lib.hid (HB.out.trans (b.mono hs)); replace hs := HB.out.size
      clear b
      go_wp2_with fail
      go_ret
      exact ⟨rfl, HB.out⟩
    · have HZ := Lib.hid hz; clear hz
      go_wp2_with fail
      refine (impl_ggenR w1 Ap cp np ps HRp.out (by omega) HQ.out).mono ?_
      rintro e w2 ⟨rfl, b⟩
      replace HRp := Lib.hid (HRp.out.below b)
      replace HB := Lib.hid (HB.out.trans (b.mono hs)); replace hs := HB.out.size
      clear b
      go_wp2_with fail
      refine (spec_ggenR w2 Ap cp np ps HRp.out (by omega) HQ.out).mono ?_
      rintro e w3 ⟨rfl, b⟩
      replace HRp := Lib.hid (HRp.out.below b)
      replace HB := Lib.hid (HB.out.trans (b.mono hs)); replace hs := HB.out.size
      clear b
      go_wp2_with fail
      refine (impl_gmapR w3 Ap cp np ps HRp.out (by omega) (ok := true) (yt := corL ps) (yf := ps) (by rw [gmapR, if_pos HG.out])).mono ?_
      rintro e w4 ⟨u, u', rfl, o, b⟩
      have hl : (corL ps : List Int).length = np := (corL_len _).trans HNp.out
      have hl' : (ps : List Int).length = np := HNp.out
      obtain ⟨Am, cm, Am', cm', rfl, rfl, r1, r2⟩ := o.form hl hl'
      have HRm := Lib.hid r1; have HRm' := Lib.hid r2; clear o hl hl' r1 r2
      replace HRp := Lib.hid (HRp.out.below b)
      replace HB := Lib.hid (HB.out.trans (b.mono hs)); replace hs := HB.out.size
      clear b
      obtain ⟨w5, hWw5, hx, b, hz⟩ := Box.local_ w4 36 (.slice Am np cm) (.slice Am' np cm')
      have BXm := Lib.hid hx; clear hx hz
      replace HRp := Lib.hid (HRp.out.below b)
      replace HRm := Lib.hid (HRm.out.below b)
      replace HRm' := Lib.hid (HRm'.out.below b)
      replace HB := Lib.hid (HB.out.trans (b.mono hs)); replace hs := HB.out.size
      clear b
      have cm_0 := BXm.out.cell0; have cm_1 := BXm.out.cell1
      go_wp2_with fail
      refine (impl_genusR w5 Am Am' np np cm cm' (corL ps) ps HRm.out HRm'.out (by omega) (by omega) HM.out).mono ?_
      rintro e w6 ⟨rfl, b⟩
      replace HRp := Lib.hid (HRp.out.below b)
      replace HRm := Lib.hid (HRm.out.below b)
      replace HRm' := Lib.hid (HRm'.out.below b)
      replace BXm := Lib.hid (BXm.out.below b); replace cm_0 := BXm.out.cell0; replace cm_1 := BXm.out.cell1
      replace HB := Lib.hid (HB.out.trans (b.mono hs)); replace hs := HB.out.size
      clear b
      go_wp2_with fail
      refine (impl_gplR w6 Ap cp np ps HRp.out (by omega) HP.out).mono ?_
      rintro e w7 ⟨rfl, b⟩
      replace HRp := Lib.hid (HRp.out.below b)
      replace HRm := Lib.hid (HRm.out.below b)
      replace HRm' := Lib.hid (HRm'.out.below b)
      replace BXm := Lib.hid (BXm.out.below b); replace cm_0 := BXm.out.cell0; replace cm_1 := BXm.out.cell1
      replace HB := Lib.hid (HB.out.trans (b.mono hs)); replace hs := HB.out.size
      clear b
      go_wp2_with fail
      refine (impl_gchR w7 Ap cp np ps HRp.out (by omega) HC.out).mono ?_
      rintro e w8 ⟨rfl, b⟩
      replace HRp := Lib.hid (HRp.out.below b)
      replace HRm := Lib.hid (HRm.out.below b)
      replace HRm' := Lib.hid (HRm'.out.below b)
      replace BXm := Lib.hid (BXm.out.below b); replace cm_0 := BXm.out.cell0; replace cm_1 := BXm.out.cell1
      replace HB := Lib.hid (HB.out.trans (b.mono hs)); replace hs := HB.out.size
      clear b
      go_wp2_with fail
      go_ret
      exact ⟨rfl, HB.out⟩
  · have HV := Lib.hid hg; clear hg
    have HQ : Hid (ggenR ps = -1) := by rw [Hid, ggenR, if_neg HV.out]
    go_wp2_with fail
    refine (impl_ggenR w1 Ap cp np ps HRp.out (by omega) HQ.out).mono ?_
    rintro e w2 ⟨rfl, b⟩
    replace HRp := Lib.hid (HRp.out.below b)
    replace HB := Lib.hid (HB.out.trans (b.mono hs)); replace hs := HB.out.size
    clear b
    go_wp2_with fail
    refine (spec_ggenR w2 Ap cp np ps HRp.out (by omega) HQ.out).mono ?_
    rintro e w3 ⟨rfl, b⟩
    replace HRp := Lib.hid (HRp.out.below b)
    replace HB := Lib.hid (HB.out.trans (b.mono hs)); replace hs := HB.out.size
    clear b
    go_wp2_with fail
    go_ret
    exact ⟨rfl, HB.out⟩

end Go.Proofs.Ytfcgfeopmnjfjaa
