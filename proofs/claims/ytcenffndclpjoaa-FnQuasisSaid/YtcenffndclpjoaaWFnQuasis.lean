/-
  FnQuasis: the walk of the law.
-/
import Derived.Test.YtcenffndclpjoaaLawMap
import Derived.Test.YtcenffndclpjoaaDrawQ
import Derived.Test.YtcenffndclpjoaaSubE
import Derived.Test.YtcenffndclpjoaaGenus
import Derived.Test.YtcenffndclpjoaaDual
import Derived.Test.YtcenffndclpjoaaMirror
namespace Go.Proofs.Ytcenffndclpjoaa
open Go.RowKit

set_option maxRecDepth 100000 in
set_option maxHeartbeats 6400000 in
theorem walk_FnQuasis (A0 : Option Addr) (n0 c0 : Nat) (bs0 : List Int) (w : World) (h0 : RdB w A0 n0 bs0) (hm0 : n0 ≤ maxLen ∧ n0 ≤ c0) :
    Calls Try.prog 5 #[.slice A0 n0 c0] w fun e w' => e = .returned (.bool true) ∧ Below w.heap.size w w' := by
  have HB0_0 := Lib.hid h0; have hc0 := hm0.2; have hml0 := hm0.1; clear h0 hm0; unfold maxLen at hml0
  by_cases hbig0 : 1048576 < n0
  · have hd : decide ((1048576 : Int) < n0) = true := by simp; omega
    go_enter Try.func5, Try.ntmps5
    go_wp2
    go_ret
    exact ⟨rfl, Below.refl _ _⟩
  have hd0 : decide ((1048576 : Int) < n0) = false := by simp; omega
  have hnb0 : n0 ≤ 1048576 := by omega
  clear hbig0
  go_enter Try.func5, Try.ntmps5
  go_wp2_with fail
  refine (drawRibbonQuasis_any w A0 n0 c0 bs0 HB0_0.out hnb0 hc0).mono ?_
  rintro e w1 ⟨Am, Am', nm, nm', cm, cm', t, f, rfl, r1, r2, hlm, hlm', b⟩
  have HNm := Lib.hid r1.1; have HNm' := Lib.hid r2.1; have HRm := Lib.hid r1; have HRm' := Lib.hid r2; clear r1 r2
  have HB := Lib.hid b; have hs := b.size; clear b
  obtain ⟨w2, hWw2, hx, b, hz⟩ := Box.local_ w1 25 (.slice Am nm cm) (.slice Am' nm' cm')
  have BXm := Lib.hid hx; clear hx hz
  replace HRm := Lib.hid (HRm.out.below b)
  replace HRm' := Lib.hid (HRm'.out.below b)
  replace HB := Lib.hid (HB.out.trans (b.mono hs)); replace hs := HB.out.size
  clear b
  have cm_0 := BXm.out.cell0; have cm_1 := BXm.out.cell1
  cases hv : mapV t f with
  | true =>
    have hm := mapV_iff.1 hv
    obtain ⟨Q, T, q1, q2, q3, q4, q5, q6, q7⟩ := quasis_facts hm
    have HM := Lib.hid hm
    obtain rfl : nm = nm' := by have := hm.len; rw [HNm.out, HNm'.out] at this; exact this
    obtain ⟨g, hgg⟩ : ∃ g, genusOf t f = g := ⟨_, rfl⟩
    rw [hgg] at q6
    have HG : Hid (genusR t f = g) := by rw [Hid, genusR, if_pos hv]; exact hgg
    have Q1 := Lib.hid q1; have Q2 := Lib.hid q2; have Q3 := Lib.hid q3; have Q4 := Lib.hid q4
    have hqq : ((Q : Int) == (Q : Int)) = true := by simp
    have hqn : ((Q : Int) != (Q : Int)) = false := by simp
    clear q1 q2 q3 q4 hgg hm hv
    go_wp2_with fail
    refine (impl_ribQ w2 Am Am' nm nm cm cm' t f HRm.out HRm'.out (by omega) (by omega) Q1.out).mono ?_
    rintro e w3 ⟨rfl, b⟩
    replace HRm := Lib.hid (HRm.out.below b)
    replace HRm' := Lib.hid (HRm'.out.below b)
    replace BXm := Lib.hid (BXm.out.below b); replace cm_0 := BXm.out.cell0; replace cm_1 := BXm.out.cell1
    replace HB := Lib.hid (HB.out.trans (b.mono hs)); replace hs := HB.out.size
    clear b
    go_wp2_with fail
    refine (spec_ribQ w3 Am Am' nm nm cm cm' t f HRm.out HRm'.out (by omega) (by omega) Q1.out).mono ?_
    rintro e w4 ⟨rfl, b⟩
    replace HRm := Lib.hid (HRm.out.below b)
    replace HRm' := Lib.hid (HRm'.out.below b)
    replace BXm := Lib.hid (BXm.out.below b); replace cm_0 := BXm.out.cell0; replace cm_1 := BXm.out.cell1
    replace HB := Lib.hid (HB.out.trans (b.mono hs)); replace hs := HB.out.size
    clear b
    go_wp2_with fail
    refine (impl_dualR w4 Am Am' nm nm cm cm' t f HRm.out HRm'.out (by omega) (by omega) (ok := true) (yt := mulL f t) (yf := f) (by rw [dualR, if_pos (mapV_iff.2 HM.out)])).mono ?_
    rintro e w5 ⟨u, u', rfl, o, b⟩
    have hl : (mulL f t : List Int).length = nm := (mulL_len _ _).trans HNm'.out
    have hl' : (f : List Int).length = nm := HNm'.out
    obtain ⟨Ad, cd, Ad', cd', rfl, rfl, r1, r2⟩ := o.form hl hl'
    have HRd := Lib.hid r1; have HRd' := Lib.hid r2; clear o hl hl' r1 r2
    replace HRm := Lib.hid (HRm.out.below b)
    replace HRm' := Lib.hid (HRm'.out.below b)
    replace BXm := Lib.hid (BXm.out.below b); replace cm_0 := BXm.out.cell0; replace cm_1 := BXm.out.cell1
    replace HB := Lib.hid (HB.out.trans (b.mono hs)); replace hs := HB.out.size
    clear b
    obtain ⟨w6, hWw6, hx, b, hz⟩ := Box.local_ w5 25 (.slice Ad nm cd) (.slice Ad' nm cd')
    have BXd := Lib.hid hx; clear hx hz
    replace HRm := Lib.hid (HRm.out.below b)
    replace HRm' := Lib.hid (HRm'.out.below b)
    replace HRd := Lib.hid (HRd.out.below b)
    replace HRd' := Lib.hid (HRd'.out.below b)
    replace BXm := Lib.hid (BXm.out.below b); replace cm_0 := BXm.out.cell0; replace cm_1 := BXm.out.cell1
    replace HB := Lib.hid (HB.out.trans (b.mono hs)); replace hs := HB.out.size
    clear b
    have cd_0 := BXd.out.cell0; have cd_1 := BXd.out.cell1
    go_wp2_with fail
    refine (impl_mirrorR w6 Am Am' nm nm cm cm' t f HRm.out HRm'.out (by omega) (by omega) (ok := true) (yt := backL t) (yf := f) (by rw [mirrorR, if_pos (mapV_iff.2 HM.out)])).mono ?_
    rintro e w7 ⟨u, u', rfl, o, b⟩
    have hl : (backL t : List Int).length = nm := (backL_len _).trans HNm.out
    have hl' : (f : List Int).length = nm := HNm'.out
    obtain ⟨Ar, cr, Ar', cr', rfl, rfl, r1, r2⟩ := o.form hl hl'
    have HRr := Lib.hid r1; have HRr' := Lib.hid r2; clear o hl hl' r1 r2
    replace HRm := Lib.hid (HRm.out.below b)
    replace HRm' := Lib.hid (HRm'.out.below b)
    replace HRd := Lib.hid (HRd.out.below b)
    replace HRd' := Lib.hid (HRd'.out.below b)
    replace BXm := Lib.hid (BXm.out.below b); replace cm_0 := BXm.out.cell0; replace cm_1 := BXm.out.cell1
    replace BXd := Lib.hid (BXd.out.below b); replace cd_0 := BXd.out.cell0; replace cd_1 := BXd.out.cell1
    replace HB := Lib.hid (HB.out.trans (b.mono hs)); replace hs := HB.out.size
    clear b
    obtain ⟨w8, hWw8, hx, b, hz⟩ := Box.local_ w7 25 (.slice Ar nm cr) (.slice Ar' nm cr')
    have BXr := Lib.hid hx; clear hx hz
    replace HRm := Lib.hid (HRm.out.below b)
    replace HRm' := Lib.hid (HRm'.out.below b)
    replace HRd := Lib.hid (HRd.out.below b)
    replace HRd' := Lib.hid (HRd'.out.below b)
    replace HRr := Lib.hid (HRr.out.below b)
    replace HRr' := Lib.hid (HRr'.out.below b)
    replace BXm := Lib.hid (BXm.out.below b); replace cm_0 := BXm.out.cell0; replace cm_1 := BXm.out.cell1
    replace BXd := Lib.hid (BXd.out.below b); replace cd_0 := BXd.out.cell0; replace cd_1 := BXd.out.cell1
    replace HB := Lib.hid (HB.out.trans (b.mono hs)); replace hs := HB.out.size
    clear b
    have cr_0 := BXr.out.cell0; have cr_1 := BXr.out.cell1
    go_wp2_with fail
    refine (impl_ribT w8 Am Am' nm nm cm cm' t f HRm.out HRm'.out (by omega) (by omega) Q2.out).mono ?_
    rintro e w9 ⟨rfl, b⟩
    replace HRm := Lib.hid (HRm.out.below b)
    replace HRm' := Lib.hid (HRm'.out.below b)
    replace HRd := Lib.hid (HRd.out.below b)
    replace HRd' := Lib.hid (HRd'.out.below b)
    replace HRr := Lib.hid (HRr.out.below b)
    replace HRr' := Lib.hid (HRr'.out.below b)
    replace BXm := Lib.hid (BXm.out.below b); replace cm_0 := BXm.out.cell0; replace cm_1 := BXm.out.cell1
    replace BXd := Lib.hid (BXd.out.below b); replace cd_0 := BXd.out.cell0; replace cd_1 := BXd.out.cell1
    replace BXr := Lib.hid (BXr.out.below b); replace cr_0 := BXr.out.cell0; replace cr_1 := BXr.out.cell1
    replace HB := Lib.hid (HB.out.trans (b.mono hs)); replace hs := HB.out.size
    clear b
    go_wp2_with fail
    refine (impl_ribQ w9 Ad Ad' nm nm cd cd' (mulL f t) f HRd.out HRd'.out (by omega) (by omega) Q3.out).mono ?_
    rintro e w10 ⟨rfl, b⟩
    replace HRm := Lib.hid (HRm.out.below b)
    replace HRm' := Lib.hid (HRm'.out.below b)
    replace HRd := Lib.hid (HRd.out.below b)
    replace HRd' := Lib.hid (HRd'.out.below b)
    replace HRr := Lib.hid (HRr.out.below b)
    replace HRr' := Lib.hid (HRr'.out.below b)
    replace BXm := Lib.hid (BXm.out.below b); replace cm_0 := BXm.out.cell0; replace cm_1 := BXm.out.cell1
    replace BXd := Lib.hid (BXd.out.below b); replace cd_0 := BXd.out.cell0; replace cd_1 := BXd.out.cell1
    replace BXr := Lib.hid (BXr.out.below b); replace cr_0 := BXr.out.cell0; replace cr_1 := BXr.out.cell1
    replace HB := Lib.hid (HB.out.trans (b.mono hs)); replace hs := HB.out.size
    clear b
    go_wp2_with fail
    refine (impl_ribQ w10 Ar Ar' nm nm cr cr' (backL t) f HRr.out HRr'.out (by omega) (by omega) Q4.out).mono ?_
    rintro e w11 ⟨rfl, b⟩
    replace HRm := Lib.hid (HRm.out.below b)
    replace HRm' := Lib.hid (HRm'.out.below b)
    replace HRd := Lib.hid (HRd.out.below b)
    replace HRd' := Lib.hid (HRd'.out.below b)
    replace HRr := Lib.hid (HRr.out.below b)
    replace HRr' := Lib.hid (HRr'.out.below b)
    replace BXm := Lib.hid (BXm.out.below b); replace cm_0 := BXm.out.cell0; replace cm_1 := BXm.out.cell1
    replace BXd := Lib.hid (BXd.out.below b); replace cd_0 := BXd.out.cell0; replace cd_1 := BXd.out.cell1
    replace BXr := Lib.hid (BXr.out.below b); replace cr_0 := BXr.out.cell0; replace cr_1 := BXr.out.cell1
    replace HB := Lib.hid (HB.out.trans (b.mono hs)); replace hs := HB.out.size
    clear b
    go_wp2_with fail
    refine (impl_genusR w11 Am Am' nm nm cm cm' t f HRm.out HRm'.out (by omega) (by omega) HG.out).mono ?_
    rintro e w12 ⟨rfl, b⟩
    replace HRm := Lib.hid (HRm.out.below b)
    replace HRm' := Lib.hid (HRm'.out.below b)
    replace HRd := Lib.hid (HRd.out.below b)
    replace HRd' := Lib.hid (HRd'.out.below b)
    replace HRr := Lib.hid (HRr.out.below b)
    replace HRr' := Lib.hid (HRr'.out.below b)
    replace BXm := Lib.hid (BXm.out.below b); replace cm_0 := BXm.out.cell0; replace cm_1 := BXm.out.cell1
    replace BXd := Lib.hid (BXd.out.below b); replace cd_0 := BXd.out.cell0; replace cd_1 := BXd.out.cell1
    replace BXr := Lib.hid (BXr.out.below b); replace cr_0 := BXr.out.cell0; replace cr_1 := BXr.out.cell1
    replace HB := Lib.hid (HB.out.trans (b.mono hs)); replace hs := HB.out.size
    clear b
    by_cases hg : 0 < g
    · clear q6
      go_wp2_with fail
      go_ret
      exact ⟨rfl, HB.out⟩
    · obtain rfl : Q = T := q6 (by omega)
      clear q6
      go_wp2_with fail
      go_ret
      exact ⟨rfl, HB.out⟩
  | false =>
    have HV : Hid (ribQ t f = -1) := by rw [Hid, ribQ, ribR, hv]; rfl
    clear hv
    go_wp2_with fail
    refine (impl_ribQ w2 Am Am' nm nm' cm cm' t f HRm.out HRm'.out (by omega) (by omega) HV.out).mono ?_
    rintro e w3 ⟨rfl, b⟩
    replace HRm := Lib.hid (HRm.out.below b)
    replace HRm' := Lib.hid (HRm'.out.below b)
    replace BXm := Lib.hid (BXm.out.below b); replace cm_0 := BXm.out.cell0; replace cm_1 := BXm.out.cell1
    replace HB := Lib.hid (HB.out.trans (b.mono hs)); replace hs := HB.out.size
    clear b
    go_wp2_with fail
    refine (spec_ribQ w3 Am Am' nm nm' cm cm' t f HRm.out HRm'.out (by omega) (by omega) HV.out).mono ?_
    rintro e w4 ⟨rfl, b⟩
    replace HRm := Lib.hid (HRm.out.below b)
    replace HRm' := Lib.hid (HRm'.out.below b)
    replace BXm := Lib.hid (BXm.out.below b); replace cm_0 := BXm.out.cell0; replace cm_1 := BXm.out.cell1
    replace HB := Lib.hid (HB.out.trans (b.mono hs)); replace hs := HB.out.size
    clear b
    go_wp2_with fail
    go_ret
    exact ⟨rfl, HB.out⟩

end Go.Proofs.Ytcenffndclpjoaa
