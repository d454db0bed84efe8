/-
  FnCorners: the walk of the law.
-/
import Derived.Test.YtfcgfeopmnjfjaaLawMap
import Derived.Test.YtfcgfeopmnjfjaaGlB
import Derived.Test.YtfcgfeopmnjfjaaGlC
import Derived.Test.YtfcgfeopmnjfjaaGluM
import Derived.Test.YtfcgfeopmnjfjaaGluD
import Derived.Test.YtfcgfeopmnjfjaaGlM
import Derived.Test.YtfcgfeopmnjfjaaDrawN
namespace Go.Proofs.Ytfcgfeopmnjfjaa
open Go.RowKit

set_option maxRecDepth 100000 in
set_option maxHeartbeats 3200000 in
theorem walk_FnCorners (A0 : Option Addr) (n0 c0 : Nat) (bs0 : List Int) (w : World) (h0 : RdB w A0 n0 bs0) (hm0 : n0 ≤ maxLen ∧ n0 ≤ c0) :
    Calls Try.prog 11 #[.slice A0 n0 c0] w fun e w' => e = .returned (.bool true) ∧ Below w.heap.size w w' := by
  have HB0_0 := Lib.hid h0; have hc0 := hm0.2; have hml0 := hm0.1; clear h0 hm0; unfold maxLen at hml0
  by_cases hbig0 : 1048576 < n0
  · have hd : decide ((1048576 : Int) < n0) = true := by simp; omega
    go_enter Try.func11, Try.ntmps11
    go_wp2
    go_ret
    exact ⟨rfl, Below.refl _ _⟩
  have hd0 : decide ((1048576 : Int) < n0) = false := by simp; omega
  have hnb0 : n0 ≤ 1048576 := by omega
  clear hbig0
  go_enter Try.func11, Try.ntmps11
  go_wp2_with fail
  refine (dDrawGluingCorners_any w A0 n0 c0 bs0 HB0_0.out hnb0 hc0).mono ?_
  rintro e w1 ⟨v, ps, rfl, o, hlp, b⟩
  obtain ⟨np, hn⟩ : ∃ n, ps.length = n := ⟨_, rfl⟩
  rw [hn] at hlp
  obtain ⟨Ap, cp, rfl, -, -⟩ := o.form' hn
  have HRp := Lib.hid (o.rd hn); have HNp := Lib.hid hn; clear o hn
  have HB := Lib.hid b; have hs := b.size; clear b
  by_cases hg : glu ps = true
  · have HG := Lib.hid hg; have HI := Lib.hid (glu_iff.1 hg); clear hg
    have hn10 : np ≤ 10 := by have := HI.out.2.1; rw [HNp.out] at this; exact this
    have hn2 : 2 ≤ np := by have := HI.out.1; rw [HNp.out] at this; exact this
    obtain ⟨q, hq⟩ : ∃ q, ncor ps = q := ⟨_, rfl⟩
    have HQ : Hid (gcorR ps = (q : Int)) := by rw [Hid, gcorR, if_pos HG.out, hq]
    have HQT : Hid (gcorR (turnG ps) = (q : Int)) := by rw [Hid, gcorR, if_pos (glu_true (turnG_isG HI.out)), HI.out.turned.1, hq]
    have HV : Hid (cntV (corL ps) = q) := hq
    have h1 : 1 ≤ q := by rw [← hq]; exact HI.out.ok.cor1
    have h2 : q ≤ np / 2 + 1 := by rw [← hq, ← HNp.out]; exact HI.out.ok.cor2
    obtain ⟨E, hE⟩ : ∃ E, cntE ps = E := ⟨_, rfl⟩
    obtain ⟨F, hF⟩ : ∃ F, cntF (corL ps) ps = F := ⟨_, rfl⟩
    have HE := Lib.hid hE; have HF := Lib.hid hF; clear hE hF hq
    obtain ⟨hf, hhf⟩ : ∃ h, np / 2 = h := ⟨_, rfl⟩
    rw [hhf] at h2
    have hw : IntKind.i64.wrap ((np : Int) / 2) = (hf : Int) := by rw [IntWalk.i64_in _ (by omega)]; omega
    have hdv : (np : Int) / 2 = (hf : Int) := by omega
    have hqd : decide ((q : Int) < 0) = false := by simp
    have hqq : ((q : Int) != (q : Int)) = false := by simp
    have hq1 : decide ((1 : Int) ≤ (q : Int)) = true := by simp; omega
    have hq1' : decide (1 ≤ q) = true := by simp; omega
    have hq2 : decide ((q : Int) ≤ (hf : Int) + 1) = true := by simp; omega
    have hq3 : ((q : Int) == (q : Int)) = true := by simp
    go_wp2_with fail
    refine (impl_gcorR w1 Ap cp np ps HRp.out (by omega) HQ.out).mono ?_
    rintro e w2 ⟨rfl, b⟩
    replace HRp := Lib.hid (HRp.out.below b)
    replace HB := Lib.hid (HB.out.trans (b.mono hs)); replace hs := HB.out.size
    clear b
    go_wp2_with fail
    refine (spec_gcorR w2 Ap cp np ps HRp.out (by omega) HQ.out).mono ?_
    rintro e w3 ⟨rfl, b⟩
    replace HRp := Lib.hid (HRp.out.below b)
    replace HB := Lib.hid (HB.out.trans (b.mono hs)); replace hs := HB.out.size
    clear b
    go_wp2_with fail
    refine (impl_gmapR w3 Ap cp np ps HRp.out (by omega) (ok := true) (yt := corL ps) (yf := ps) (by rw [gmapR, if_pos HG.out])).mono ?_
    rintro e w4 ⟨u, u', rfl, o, b⟩
    have hl : (corL ps : List Int).length = np := (corL_len _).trans HNp.out
    have hl' : (ps : List Int).length = np := HNp.out
    obtain ⟨Am, cm, Am', cm', rfl, rfl, r1, r2⟩ := o.form hl hl'
    have HRm := Lib.hid r1; have HRm' := Lib.hid r2; clear o hl hl' r1 r2
    replace HRp := Lib.hid (HRp.out.below b)
    replace HB := Lib.hid (HB.out.trans (b.mono hs)); replace hs := HB.out.size
    clear b
    obtain ⟨w5, hWw5, hx, b, hz⟩ := Box.local_ w4 36 (.slice Am np cm) (.slice Am' np cm')
    have BXm := Lib.hid hx; clear hx hz
    replace HRp := Lib.hid (HRp.out.below b)
    replace HRm := Lib.hid (HRm.out.below b)
    replace HRm' := Lib.hid (HRm'.out.below b)
    replace HB := Lib.hid (HB.out.trans (b.mono hs)); replace hs := HB.out.size
    clear b
    have cm_0 := BXm.out.cell0; have cm_1 := BXm.out.cell1
    go_wp2_with fail
    refine (impl_countsR w5 Am Am' np np cm cm' (corL ps) ps HRm.out HRm'.out (by omega) (by omega) (ok := true) (ys := [(q : Int), (E : Int), (F : Int)]) (by rw [countsR, if_pos (mapV_iff.2 HI.out.isMap), HV.out, HE.out, HF.out])).mono ?_
    rintro e w6 ⟨v, rfl, o, b⟩
    have hl : ([(q : Int), (E : Int), (F : Int)] : List Int).length = 3 := rfl
    obtain ⟨Ak, ck, rfl, -, -⟩ := o.form' hl
    obtain ⟨gk, rfl, -, -, -⟩ := o.cellAt hl (k := 0) (by omega)
    have HRk := Lib.hid (o.rd hl); clear o hl
    replace HRp := Lib.hid (HRp.out.below b)
    replace HRm := Lib.hid (HRm.out.below b)
    replace HRm' := Lib.hid (HRm'.out.below b)
    replace BXm := Lib.hid (BXm.out.below b); replace cm_0 := BXm.out.cell0; replace cm_1 := BXm.out.cell1
    replace HB := Lib.hid (HB.out.trans (b.mono hs)); replace hs := HB.out.size
    clear b
    go_wp2_with fail
    refine (impl_gtuR w6 Ap cp np ps HRp.out (by omega) (ok := true) (ys := turnG ps) (by rw [gtuR, if_pos HG.out])).mono ?_
    rintro e w7 ⟨v, rfl, o, b⟩
    have hl : (turnG ps : List Int).length = np := turnG_len.trans HNp.out
    obtain ⟨Au, cu, rfl, -, -⟩ := o.form' hl
    have HRu := Lib.hid (o.rd hl); clear o hl
    replace HRp := Lib.hid (HRp.out.below b)
    replace HRm := Lib.hid (HRm.out.below b)
    replace HRm' := Lib.hid (HRm'.out.below b)
    replace HRk := Lib.hid (HRk.out.below b)
    replace BXm := Lib.hid (BXm.out.below b); replace cm_0 := BXm.out.cell0; replace cm_1 := BXm.out.cell1
    replace HB := Lib.hid (HB.out.trans (b.mono hs)); replace hs := HB.out.size
    clear b
    have qk0 : w7.cell? ⟨gk, 0, none⟩ = some (.int .i64 (q : Int)) := HRk.out.getg (j := 0) (by omega)
    go_wp2_with fail
    refine (impl_gcorR w7 Au cu np (turnG ps) HRu.out (by omega) HQT.out).mono ?_
    rintro e w8 ⟨rfl, b⟩
    replace HRp := Lib.hid (HRp.out.below b)
    replace HRm := Lib.hid (HRm.out.below b)
    replace HRm' := Lib.hid (HRm'.out.below b)
    replace HRk := Lib.hid (HRk.out.below b)
    replace HRu := Lib.hid (HRu.out.below b)
    replace BXm := Lib.hid (BXm.out.below b); replace cm_0 := BXm.out.cell0; replace cm_1 := BXm.out.cell1
    replace HB := Lib.hid (HB.out.trans (b.mono hs)); replace hs := HB.out.size
    clear b
    go_wp2_with fail
    go_ret
    exact ⟨rfl, HB.out⟩
  · have HV := Lib.hid hg; clear hg
    have HQ : Hid (gcorR ps = -1) := by rw [Hid, gcorR, if_neg HV.out]
    go_wp2_with fail
    refine (impl_gcorR w1 Ap cp np ps HRp.out (by omega) HQ.out).mono ?_
    rintro e w2 ⟨rfl, b⟩
    replace HRp := Lib.hid (HRp.out.below b)
    replace HB := Lib.hid (HB.out.trans (b.mono hs)); replace hs := HB.out.size
    clear b
    go_wp2_with fail
    refine (spec_gcorR w2 Ap cp np ps HRp.out (by omega) HQ.out).mono ?_
    rintro e w3 ⟨rfl, b⟩
    replace HRp := Lib.hid (HRp.out.below b)
    replace HB := Lib.hid (HB.out.trans (b.mono hs)); replace hs := HB.out.size
    clear b
    go_wp2_with fail
    go_ret
    exact ⟨rfl, HB.out⟩

end Go.Proofs.Ytfcgfeopmnjfjaa
