/-
  FnGluingMap: the walk of the law.
-/
import Derived.Test.YtfcgfeopmnjfjaaLawMap
import Derived.Test.YtfcgfeopmnjfjaaGlP
import Derived.Test.YtfcgfeopmnjfjaaGluOI
import Derived.Test.YtfcgfeopmnjfjaaGluM
import Derived.Test.YtfcgfeopmnjfjaaGluD
import Derived.Test.YtfcgfeopmnjfjaaDrawN
namespace Go.Proofs.Ytfcgfeopmnjfjaa
open Go.RowKit

set_option maxRecDepth 100000 in
set_option maxHeartbeats 3200000 in
theorem walk_FnGluingMap (A0 : Option Addr) (n0 c0 : Nat) (bs0 : List Int) (w : World) (h0 : RdB w A0 n0 bs0) (hm0 : n0 ≤ maxLen ∧ n0 ≤ c0) :
    Calls Try.prog 14 #[.slice A0 n0 c0] w fun e w' => e = .returned (.bool true) ∧ Below w.heap.size w w' := by
  have HB0_0 := Lib.hid h0; have hc0 := hm0.2; have hml0 := hm0.1; clear h0 hm0; unfold maxLen at hml0
  by_cases hbig0 : 1048576 < n0
  · have hd : decide ((1048576 : Int) < n0) = true := by simp; omega
    go_enter Try.func14, Try.ntmps14
    go_wp2
    go_ret
    exact ⟨rfl, Below.refl _ _⟩
  have hd0 : decide ((1048576 : Int) < n0) = false := by simp; omega
  have hnb0 : n0 ≤ 1048576 := by omega
  clear hbig0
  go_enter Try.func14, Try.ntmps14
  go_wp2_with fail
  refine (dDrawGluingMap_any w A0 n0 c0 bs0 HB0_0.out hnb0 hc0).mono ?_
  rintro e w1 ⟨v, ps, rfl, o, hlp, b⟩
  obtain ⟨np, hn⟩ : ∃ n, ps.length = n := ⟨_, rfl⟩
  rw [hn] at hlp
  obtain ⟨Ap, cp, rfl, -, -⟩ := o.form' hn
  have HRp := Lib.hid (o.rd hn); have HNp := Lib.hid hn; clear o hn
  have HB := Lib.hid b; have hs := b.size; clear b
  by_cases hg : glu ps = true
  · have HG := Lib.hid hg; have HI := Lib.hid (glu_iff.1 hg); clear hg
    have hn10 : np ≤ 10 := by have := HI.out.2.1; rw [HNp.out] at this; exact this
    have hn2 : 2 ≤ np := by have := HI.out.1; rw [HNp.out] at this; exact this
    have HU : Hid (glu (unG ps) = true) := glu_true (unG_isG HI.out)
    obtain ⟨V, hV⟩ : ∃ E, cntV (corL ps) = E := ⟨_, rfl⟩
    obtain ⟨E, hE⟩ : ∃ E, cntE ps = E := ⟨_, rfl⟩
    have HV := Lib.hid hV; have HE := Lib.hid hE; clear hV hE
    go_wp2_with fail
    refine (impl_gmapR w1 Ap cp np ps HRp.out (by omega) (ok := true) (yt := corL ps) (yf := ps) (by rw [gmapR, if_pos HG.out])).mono ?_
    rintro e w2 ⟨u, u', rfl, o, b⟩
    have hl : (corL ps : List Int).length = np := (corL_len _).trans HNp.out
    have hl' : (ps : List Int).length = np := HNp.out
    obtain ⟨Am, cm, Am', cm', rfl, rfl, r1, r2⟩ := o.form hl hl'
    have HRm := Lib.hid r1; have HRm' := Lib.hid r2; clear o hl hl' r1 r2
    replace HRp := Lib.hid (HRp.out.below b)
    replace HB := Lib.hid (HB.out.trans (b.mono hs)); replace hs := HB.out.size
    clear b
    obtain ⟨w3, hWw3, hx, b, hz⟩ := Box.local_ w2 36 (.slice Am np cm) (.slice Am' np cm')
    have BXm := Lib.hid hx; clear hx hz
    replace HRp := Lib.hid (HRp.out.below b)
    replace HRm := Lib.hid (HRm.out.below b)
    replace HRm' := Lib.hid (HRm'.out.below b)
    replace HB := Lib.hid (HB.out.trans (b.mono hs)); replace hs := HB.out.size
    clear b
    have cm_0 := BXm.out.cell0; have cm_1 := BXm.out.cell1
    go_wp2_with fail
    refine (spec_gmapR w3 Ap cp np ps HRp.out (by omega) (ok := true) (yt := corL ps) (yf := ps) (by rw [gmapR, if_pos HG.out])).mono ?_
    rintro e w4 ⟨u, u', rfl, o, b⟩
    have hl : (corL ps : List Int).length = np := (corL_len _).trans HNp.out
    have hl' : (ps : List Int).length = np := HNp.out
    obtain ⟨Ao, co, Ao', co', rfl, rfl, r1, r2⟩ := o.form hl hl'
    have HRo := Lib.hid r1; have HRo' := Lib.hid r2; clear o hl hl' r1 r2
    replace HRp := Lib.hid (HRp.out.below b)
    replace HRm := Lib.hid (HRm.out.below b)
    replace HRm' := Lib.hid (HRm'.out.below b)
    replace BXm := Lib.hid (BXm.out.below b); replace cm_0 := BXm.out.cell0; replace cm_1 := BXm.out.cell1
    replace HB := Lib.hid (HB.out.trans (b.mono hs)); replace hs := HB.out.size
    clear b
    obtain ⟨w5, hWw5, hx, b, hz⟩ := Box.local_ w4 36 (.slice Ao np co) (.slice Ao' np co')
    have BXo := Lib.hid hx; clear hx hz
    replace HRp := Lib.hid (HRp.out.below b)
    replace HRm := Lib.hid (HRm.out.below b)
    replace HRm' := Lib.hid (HRm'.out.below b)
    replace HRo := Lib.hid (HRo.out.below b)
    replace HRo' := Lib.hid (HRo'.out.below b)
    replace BXm := Lib.hid (BXm.out.below b); replace cm_0 := BXm.out.cell0; replace cm_1 := BXm.out.cell1
    replace HB := Lib.hid (HB.out.trans (b.mono hs)); replace hs := HB.out.size
    clear b
    have co_0 := BXo.out.cell0; have co_1 := BXo.out.cell1
    go_wp2_with fail
    refine (same_map_yes w5 Am Am' Ao Ao' np np cm cm' np np co co' (corL ps) ps (corL ps) ps HRm.out HRm'.out HRo.out HRo'.out (by omega) (by omega) (by omega) (by omega) (rfl) (rfl)).mono ?_
    rintro e w6 ⟨rfl, b⟩
    replace HRp := Lib.hid (HRp.out.below b)
    replace HRm := Lib.hid (HRm.out.below b)
    replace HRm' := Lib.hid (HRm'.out.below b)
    replace HRo := Lib.hid (HRo.out.below b)
    replace HRo' := Lib.hid (HRo'.out.below b)
    replace BXm := Lib.hid (BXm.out.below b); replace cm_0 := BXm.out.cell0; replace cm_1 := BXm.out.cell1
    replace BXo := Lib.hid (BXo.out.below b); replace co_0 := BXo.out.cell0; replace co_1 := BXo.out.cell1
    replace HB := Lib.hid (HB.out.trans (b.mono hs)); replace hs := HB.out.size
    clear b
    clear co_0 co_1
    clear HRo
    clear HRo'
    have hwl : (Lit.int .i64 (((0 : Nat) : Int))).wf = true := by decide
    go_wp2_with fail
    refine (impl_gofR w6 Am Am' np np cm cm' (corL ps) ps HRm.out HRm'.out (by omega) (by omega) ((0 : Nat) : Int) hwl (ok := true) (ys := ps) (read0 HI.out)).mono ?_
    rintro e w7 ⟨v, rfl, o, b⟩
    have hl : (ps : List Int).length = np := HNp.out
    obtain ⟨Ax, cx, rfl, -, -⟩ := o.form' hl
    have HRx := Lib.hid (o.rd hl); clear o hl hwl
    replace HRp := Lib.hid (HRp.out.below b)
    replace HRm := Lib.hid (HRm.out.below b)
    replace HRm' := Lib.hid (HRm'.out.below b)
    replace BXm := Lib.hid (BXm.out.below b); replace cm_0 := BXm.out.cell0; replace cm_1 := BXm.out.cell1
    replace HB := Lib.hid (HB.out.trans (b.mono hs)); replace hs := HB.out.size
    clear b
    have hwl : (Lit.int .i64 (((1 : Nat) : Int))).wf = true := by decide
    go_wp2_with fail
    refine (impl_gofR w7 Am Am' np np cm cm' (corL ps) ps HRm.out HRm'.out (by omega) (by omega) ((1 : Nat) : Int) hwl (ok := true) (ys := unG ps) (read1 HI.out)).mono ?_
    rintro e w8 ⟨v, rfl, o, b⟩
    have hl : (unG ps : List Int).length = np := (unG_len _).trans HNp.out
    obtain ⟨Ay, cy, rfl, -, -⟩ := o.form' hl
    have HRy := Lib.hid (o.rd hl); clear o hl hwl
    replace HRp := Lib.hid (HRp.out.below b)
    replace HRm := Lib.hid (HRm.out.below b)
    replace HRm' := Lib.hid (HRm'.out.below b)
    replace HRx := Lib.hid (HRx.out.below b)
    replace BXm := Lib.hid (BXm.out.below b); replace cm_0 := BXm.out.cell0; replace cm_1 := BXm.out.cell1
    replace HB := Lib.hid (HB.out.trans (b.mono hs)); replace hs := HB.out.size
    clear b
    go_wp2_with fail
    refine (impl_gtuR w8 Ay cy np (unG ps) HRy.out (by omega) (ok := true) (ys := ps) (by rw [gtuR, if_pos HU.out, turn_un HI.out])).mono ?_
    rintro e w9 ⟨v, rfl, o, b⟩
    have hl : (ps : List Int).length = np := HNp.out
    obtain ⟨Az, cz, rfl, -, -⟩ := o.form' hl
    have HRz := Lib.hid (o.rd hl); clear o hl
    replace HRp := Lib.hid (HRp.out.below b)
    replace HRm := Lib.hid (HRm.out.below b)
    replace HRm' := Lib.hid (HRm'.out.below b)
    replace HRx := Lib.hid (HRx.out.below b)
    replace HRy := Lib.hid (HRy.out.below b)
    replace BXm := Lib.hid (BXm.out.below b); replace cm_0 := BXm.out.cell0; replace cm_1 := BXm.out.cell1
    replace HB := Lib.hid (HB.out.trans (b.mono hs)); replace hs := HB.out.size
    clear b
    go_wp2_with fail
    refine (impl_countsR w9 Am Am' np np cm cm' (corL ps) ps HRm.out HRm'.out (by omega) (by omega) (ok := true) (ys := [(V : Int), (E : Int), (1 : Int)]) (by rw [countsR, if_pos (mapV_iff.2 HI.out.isMap), HV.out, HE.out, gmap_cntF HI.out]; rfl)).mono ?_
    rintro e w10 ⟨v, rfl, o, b⟩
    have hl : ([(V : Int), (E : Int), (1 : Int)] : List Int).length = 3 := rfl
    obtain ⟨Ak, ck, rfl, -, -⟩ := o.form' hl
    obtain ⟨gk, rfl, -, -, -⟩ := o.cellAt hl (k := 0) (by omega)
    have HRk := Lib.hid (o.rd hl); clear o hl
    replace HRp := Lib.hid (HRp.out.below b)
    replace HRm := Lib.hid (HRm.out.below b)
    replace HRm' := Lib.hid (HRm'.out.below b)
    replace HRx := Lib.hid (HRx.out.below b)
    replace HRy := Lib.hid (HRy.out.below b)
    replace HRz := Lib.hid (HRz.out.below b)
    replace BXm := Lib.hid (BXm.out.below b); replace cm_0 := BXm.out.cell0; replace cm_1 := BXm.out.cell1
    replace HB := Lib.hid (HB.out.trans (b.mono hs)); replace hs := HB.out.size
    clear b
    have qk2 : w10.cell? ⟨gk, 2, none⟩ = some (.int .i64 (1 : Int)) := HRk.out.getg (j := 2) (by omega)
    go_wp2_with fail
    refine (same_yes w10 Ax Ap np np cx cp ps ps HRx.out HRp.out (by omega) (by omega) (rfl)).mono ?_
    rintro e w11 ⟨rfl, b⟩
    replace HRp := Lib.hid (HRp.out.below b)
    replace HRm := Lib.hid (HRm.out.below b)
    replace HRm' := Lib.hid (HRm'.out.below b)
    replace HRx := Lib.hid (HRx.out.below b)
    replace HRy := Lib.hid (HRy.out.below b)
    replace HRz := Lib.hid (HRz.out.below b)
    replace HRk := Lib.hid (HRk.out.below b)
    replace BXm := Lib.hid (BXm.out.below b); replace cm_0 := BXm.out.cell0; replace cm_1 := BXm.out.cell1
    replace HB := Lib.hid (HB.out.trans (b.mono hs)); replace hs := HB.out.size
    clear b
    go_wp2_with fail
    refine (same_yes w11 Az Ap np np cz cp ps ps HRz.out HRp.out (by omega) (by omega) (rfl)).mono ?_
    rintro e w12 ⟨rfl, b⟩
    replace HRp := Lib.hid (HRp.out.below b)
    replace HRm := Lib.hid (HRm.out.below b)
    replace HRm' := Lib.hid (HRm'.out.below b)
    replace HRx := Lib.hid (HRx.out.below b)
    replace HRy := Lib.hid (HRy.out.below b)
    replace HRz := Lib.hid (HRz.out.below b)
    replace HRk := Lib.hid (HRk.out.below b)
    replace BXm := Lib.hid (BXm.out.below b); replace cm_0 := BXm.out.cell0; replace cm_1 := BXm.out.cell1
    replace HB := Lib.hid (HB.out.trans (b.mono hs)); replace hs := HB.out.size
    clear b
    go_wp2_with fail
    go_ret
    exact ⟨rfl, HB.out⟩
  · have HV := Lib.hid hg; clear hg
    go_wp2_with fail
    refine (impl_gmapR w1 Ap cp np ps HRp.out (by omega) (ok := false) (yt := []) (yf := []) (by rw [gmapR, if_neg HV.out])).mono ?_
    rintro e w2 ⟨u, u', rfl, o, b⟩
    have hl : ([] : List Int).length = 0 := rfl
    have hl' : ([] : List Int).length = 0 := rfl
    obtain ⟨Am, cm, Am', cm', rfl, rfl, r1, r2⟩ := o.form hl hl'
    have HRm := Lib.hid r1; have HRm' := Lib.hid r2; clear o hl hl' r1 r2
    replace HRp := Lib.hid (HRp.out.below b)
    replace HB := Lib.hid (HB.out.trans (b.mono hs)); replace hs := HB.out.size
    clear b
    obtain ⟨w3, hWw3, hx, b, hz⟩ := Box.local_ w2 36 (.slice Am 0 cm) (.slice Am' 0 cm')
    have BXm := Lib.hid hx; clear hx hz
    replace HRp := Lib.hid (HRp.out.below b)
    replace HRm := Lib.hid (HRm.out.below b)
    replace HRm' := Lib.hid (HRm'.out.below b)
    replace HB := Lib.hid (HB.out.trans (b.mono hs)); replace hs := HB.out.size
    clear b
    have cm_0 := BXm.out.cell0; have cm_1 := BXm.out.cell1
    go_wp2_with fail
    refine (spec_gmapR w3 Ap cp np ps HRp.out (by omega) (ok := false) (yt := []) (yf := []) (by rw [gmapR, if_neg HV.out])).mono ?_
    rintro e w4 ⟨u, u', rfl, o, b⟩
    have hl : ([] : List Int).length = 0 := rfl
    have hl' : ([] : List Int).length = 0 := rfl
    obtain ⟨Ao, co, Ao', co', rfl, rfl, r1, r2⟩ := o.form hl hl'
    have HRo := Lib.hid r1; have HRo' := Lib.hid r2; clear o hl hl' r1 r2
    replace HRp := Lib.hid (HRp.out.below b)
    replace HRm := Lib.hid (HRm.out.below b)
    replace HRm' := Lib.hid (HRm'.out.below b)
    replace BXm := Lib.hid (BXm.out.below b); replace cm_0 := BXm.out.cell0; replace cm_1 := BXm.out.cell1
    replace HB := Lib.hid (HB.out.trans (b.mono hs)); replace hs := HB.out.size
    clear b
    obtain ⟨w5, hWw5, hx, b, hz⟩ := Box.local_ w4 36 (.slice Ao 0 co) (.slice Ao' 0 co')
    have BXo := Lib.hid hx; clear hx hz
    replace HRp := Lib.hid (HRp.out.below b)
    replace HRm := Lib.hid (HRm.out.below b)
    replace HRm' := Lib.hid (HRm'.out.below b)
    replace HRo := Lib.hid (HRo.out.below b)
    replace HRo' := Lib.hid (HRo'.out.below b)
    replace BXm := Lib.hid (BXm.out.below b); replace cm_0 := BXm.out.cell0; replace cm_1 := BXm.out.cell1
    replace HB := Lib.hid (HB.out.trans (b.mono hs)); replace hs := HB.out.size
    clear b
    have co_0 := BXo.out.cell0; have co_1 := BXo.out.cell1
    go_wp2_with fail
    refine (same_map_yes w5 Am Am' Ao Ao' 0 0 cm cm' 0 0 co co' [] [] [] [] HRm.out HRm'.out HRo.out HRo'.out (by omega) (by omega) (by omega) (by omega) (rfl) (rfl)).mono ?_
    rintro e w6 ⟨rfl, b⟩
    replace HRp := Lib.hid (HRp.out.below b)
    replace HRm := Lib.hid (HRm.out.below b)
    replace HRm' := Lib.hid (HRm'.out.below b)
    replace HRo := Lib.hid (HRo.out.below b)
    replace HRo' := Lib.hid (HRo'.out.below b)
    replace BXm := Lib.hid (BXm.out.below b); replace cm_0 := BXm.out.cell0; replace cm_1 := BXm.out.cell1
    replace BXo := Lib.hid (BXo.out.below b); replace co_0 := BXo.out.cell0; replace co_1 := BXo.out.cell1
    replace HB := Lib.hid (HB.out.trans (b.mono hs)); replace hs := HB.out.size
    clear b
    go_wp2_with fail
    refine (same_map_yes w6 Am Am' Ao Ao' 0 0 cm cm' 0 0 co co' [] [] [] [] HRm.out HRm'.out HRo.out HRo'.out (by omega) (by omega) (by omega) (by omega) (rfl) (rfl)).mono ?_
    rintro e w7 ⟨rfl, b⟩
    replace HRp := Lib.hid (HRp.out.below b)
    replace HRm := Lib.hid (HRm.out.below b)
    replace HRm' := Lib.hid (HRm'.out.below b)
    replace HRo := Lib.hid (HRo.out.below b)
    replace HRo' := Lib.hid (HRo'.out.below b)
    replace BXm := Lib.hid (BXm.out.below b); replace cm_0 := BXm.out.cell0; replace cm_1 := BXm.out.cell1
    replace BXo := Lib.hid (BXo.out.below b); replace co_0 := BXo.out.cell0; replace co_1 := BXo.out.cell1
    replace HB := Lib.hid (HB.out.trans (b.mono hs)); replace hs := HB.out.size
    clear b
    go_wp2_with fail
    go_ret
    exact ⟨rfl, HB.out⟩

end Go.Proofs.Ytfcgfeopmnjfjaa
