/-
  FnGluingTurn: the walk of the law.
-/
import Derived.Test.YtfcgfeopmnjfjaaLawMap
import Derived.Test.YtfcgfeopmnjfjaaGlB
import Derived.Test.YtfcgfeopmnjfjaaGlT
import Derived.Test.YtfcgfeopmnjfjaaGluM
import Derived.Test.YtfcgfeopmnjfjaaGluD
import Derived.Test.YtfcgfeopmnjfjaaGlM
import Derived.Test.YtfcgfeopmnjfjaaSame
import Derived.Test.YtfcgfeopmnjfjaaDrawN
namespace Go.Proofs.Ytfcgfeopmnjfjaa
open Go.RowKit

set_option maxRecDepth 100000 in
set_option maxHeartbeats 6400000 in
theorem walk_FnGluingTurn (A0 : Option Addr) (n0 c0 : Nat) (bs0 : List Int) (w : World) (h0 : RdB w A0 n0 bs0) (hm0 : n0 ≤ maxLen ∧ n0 ≤ c0) :
    Calls Try.prog 13 #[.slice A0 n0 c0] w fun e w' => e = .returned (.bool true) ∧ Below w.heap.size w w' := by
  have HB0_0 := Lib.hid h0; have hc0 := hm0.2; have hml0 := hm0.1; clear h0 hm0; unfold maxLen at hml0
  by_cases hbig0 : 1048576 < n0
  · have hd : decide ((1048576 : Int) < n0) = true := by simp; omega
    go_enter Try.func13, Try.ntmps13
    go_wp2
    go_ret
    exact ⟨rfl, Below.refl _ _⟩
  have hd0 : decide ((1048576 : Int) < n0) = false := by simp; omega
  have hnb0 : n0 ≤ 1048576 := by omega
  clear hbig0
  go_enter Try.func13, Try.ntmps13
  go_wp2_with fail
  refine (dDrawGluingTurn_any w A0 n0 c0 bs0 HB0_0.out hnb0 hc0).mono ?_
  rintro e w1 ⟨v, ps, rfl, o, hlp, b⟩
  obtain ⟨np, hn⟩ : ∃ n, ps.length = n := ⟨_, rfl⟩
  rw [hn] at hlp
  obtain ⟨Ap, cp, rfl, -, -⟩ := o.form' hn
  have HRp := Lib.hid (o.rd hn); have HNp := Lib.hid hn; clear o hn
  have HB := Lib.hid b; have hs := b.size; clear b
  by_cases hg : glu ps = true
  · have HG := Lib.hid hg; have HI := Lib.hid (glu_iff.1 hg); clear hg
    have hn10 : np ≤ 10 := by have := HI.out.2.1; rw [HNp.out] at this; exact this
    have hn2 : 2 ≤ np := by have := HI.out.1; rw [HNp.out] at this; exact this
    obtain ⟨g, hgg⟩ : ∃ g, ggen ps = g := ⟨_, rfl⟩
    obtain ⟨ch, hch⟩ : ∃ c, chord ps = c := ⟨_, rfl⟩
    have HQ : Hid (ggenR ps = g) := by rw [Hid, ggenR, if_pos HG.out, hgg]
    have HC : Hid (gchR ps = (ch : Int)) := by rw [Hid, gchR, if_pos HG.out, hch]
    have HGT : Hid (glu (turnG ps) = true) := glu_true (turnG_isG HI.out)
    have HQT : Hid (ggenR (turnG ps) = g) := by rw [Hid, ggenR, if_pos HGT.out, HI.out.turned.2.2, hgg]
    have HCT : Hid (gchR (turnG ps) = (ch : Int)) := by rw [Hid, gchR, if_pos HGT.out, HI.out.turned.2.1, hch]
    have HSM := Lib.hid (turn_same HI.out)
    have HPW : Hid (powG ps np = ps) := by rw [Hid, ← HNp.out]; exact powG_all HI.out
    have hq3 : ((ch : Int) == (ch : Int)) = true := by simp
    have hq4 : (g == g) = true := by simp
    clear hgg hch
    go_wp2_with fail
    refine (impl_gtuR w1 Ap cp np ps HRp.out (by omega) (ok := true) (ys := turnG ps) (by rw [gtuR, if_pos HG.out])).mono ?_
    rintro e w2 ⟨v, rfl, o, b⟩
    have hl : (turnG ps : List Int).length = np := turnG_len.trans HNp.out
    obtain ⟨Au, cu, rfl, -, -⟩ := o.form' hl
    have HRu := Lib.hid (o.rd hl); clear o hl
    replace HRp := Lib.hid (HRp.out.below b)
    replace HB := Lib.hid (HB.out.trans (b.mono hs)); replace hs := HB.out.size
    clear b
    go_wp2_with fail
    refine (spec_gtuR w2 Ap cp np ps HRp.out (by omega) (ok := true) (ys := turnG ps) (by rw [gtuR, if_pos HG.out])).mono ?_
    rintro e w3 ⟨v, rfl, o, b⟩
    have hl : (turnG ps : List Int).length = np := turnG_len.trans HNp.out
    obtain ⟨Av, cv, rfl, -, -⟩ := o.form' hl
    have HRv := Lib.hid (o.rd hl); clear o hl
    replace HRp := Lib.hid (HRp.out.below b)
    replace HRu := Lib.hid (HRu.out.below b)
    replace HB := Lib.hid (HB.out.trans (b.mono hs)); replace hs := HB.out.size
    clear b
    go_wp2_with fail
    refine (same_yes w3 Au Av np np cu cv (turnG ps) (turnG ps) HRu.out HRv.out (by omega) (by omega) (rfl)).mono ?_
    rintro e w4 ⟨rfl, b⟩
    replace HRp := Lib.hid (HRp.out.below b)
    replace HRu := Lib.hid (HRu.out.below b)
    replace HRv := Lib.hid (HRv.out.below b)
    replace HB := Lib.hid (HB.out.trans (b.mono hs)); replace hs := HB.out.size
    clear b
    clear HRv
    go_wp2_with fail
    go_loopw [8, 9, 10] (fun xv qv iv wr => ∃ (i : Nat) (A : Option Addr) (c : Nat), i ≤ np ∧ iv = .int .i64 i ∧ qv = .bool true ∧ xv = .slice A np c ∧ Hid (Rd wr A np (powG ps i)) ∧ Hid (Below w4.heap.size w4 wr)) (fun _ _ iv _ => np - (intOf iv).toNat)
    case atStart => exact ⟨0, _, _, Nat.zero_le _, rfl, rfl, rfl, HRp, Below.refl _ _⟩
    case round =>
      obtain ⟨i, Ax, cx, hi, rfl, rfl, rfl, hx, hb⟩ := hrel
      by_cases hlt : i < np
      · have hG := powG_isG HI.out i
        have HTX : Hid (gtuR (powG ps i) = (true, powG ps (i + 1))) := by rw [Hid, gtuR, if_pos (glu_true hG.1)]; rfl
        have hlen : (powG ps (i + 1)).length = np := (powG_isG HI.out (i + 1)).2.trans HNp.out
        have HLN := Lib.hid hlen
        clear hG hlen
        go_wp2_with fail
        refine (impl_gtuR wr Ax cx np (powG ps i) hx.out (by omega) HTX.out).mono ?_
        rintro e w9 ⟨v, rfl, o, b⟩
        obtain ⟨A9, c9, rfl, r9, -⟩ := o.form' HLN.out
        have HR9 := Lib.hid r9; have HB9 := Lib.hid (hb.out.trans (b.mono hb.out.size)); clear o b r9
        go_wp2_with fail
        go_roundw
        case rel => exact ⟨i + 1, _, _, by omega, by go_num, rfl, rfl, HR9, HB9⟩
        case measure => simp [intOf]; omega
      · have hin : i = np := by omega
        rw [hin, HPW.out] at hx
        rw [hin]
        clear hin hi hlt
        have HRx := hx; clear hx
        replace HRp := Lib.hid (HRp.out.below hb.out)
        replace HRu := Lib.hid (HRu.out.below hb.out)
        replace HB := Lib.hid (HB.out.trans (hb.out.mono hs)); replace hs := HB.out.size
        have HW := hb; clear hb
        go_wp2_with fail
        refine (impl_gmapR wr Ap cp np ps HRp.out (by omega) (ok := true) (yt := corL ps) (yf := ps) (by rw [gmapR, if_pos HG.out])).mono ?_
        rintro e w5 ⟨u, u', rfl, o, b⟩
        have hl : (corL ps : List Int).length = np := (corL_len _).trans HNp.out
        have hl' : (ps : List Int).length = np := HNp.out
        obtain ⟨Aa, ca, Aa', ca', rfl, rfl, r1, r2⟩ := o.form hl hl'
        have HRa := Lib.hid r1; have HRa' := Lib.hid r2; clear o hl hl' r1 r2
        replace HRp := Lib.hid (HRp.out.below b)
        replace HRu := Lib.hid (HRu.out.below b)
        replace HRx := Lib.hid (HRx.out.below b)
        replace HB := Lib.hid (HB.out.trans (b.mono hs)); replace hs := HB.out.size
        replace HW := Lib.hid (HW.out.trans (b.mono HW.out.size))
        clear b
        obtain ⟨w6, hWw6, hx, b, hz⟩ := Box.local_ w5 36 (.slice Aa np ca) (.slice Aa' np ca')
        have BXa := Lib.hid hx; clear hx hz
        replace HRp := Lib.hid (HRp.out.below b)
        replace HRu := Lib.hid (HRu.out.below b)
        replace HRx := Lib.hid (HRx.out.below b)
        replace HRa := Lib.hid (HRa.out.below b)
        replace HRa' := Lib.hid (HRa'.out.below b)
        replace HB := Lib.hid (HB.out.trans (b.mono hs)); replace hs := HB.out.size
        replace HW := Lib.hid (HW.out.trans (b.mono HW.out.size))
        clear b
        have ca_0 := BXa.out.cell0; have ca_1 := BXa.out.cell1
        go_wp2_with fail
        refine (impl_gmapR w6 Au cu np (turnG ps) HRu.out (by omega) (ok := true) (yt := corL (turnG ps)) (yf := turnG ps) (by rw [gmapR, if_pos HGT.out])).mono ?_
        rintro e w7 ⟨u, u', rfl, o, b⟩
        have hl : (corL (turnG ps) : List Int).length = np := (corL_len _).trans (turnG_len.trans HNp.out)
        have hl' : (turnG ps : List Int).length = np := turnG_len.trans HNp.out
        obtain ⟨Ab, cb, Ab', cb', rfl, rfl, r1, r2⟩ := o.form hl hl'
        have HRb := Lib.hid r1; have HRb' := Lib.hid r2; clear o hl hl' r1 r2
        replace HRp := Lib.hid (HRp.out.below b)
        replace HRu := Lib.hid (HRu.out.below b)
        replace HRx := Lib.hid (HRx.out.below b)
        replace HRa := Lib.hid (HRa.out.below b)
        replace HRa' := Lib.hid (HRa'.out.below b)
        replace BXa := Lib.hid (BXa.out.below b); replace ca_0 := BXa.out.cell0; replace ca_1 := BXa.out.cell1
        replace HB := Lib.hid (HB.out.trans (b.mono hs)); replace hs := HB.out.size
        replace HW := Lib.hid (HW.out.trans (b.mono HW.out.size))
        clear b
        obtain ⟨w8, hWw8, hx, b, hz⟩ := Box.local_ w7 36 (.slice Ab np cb) (.slice Ab' np cb')
        have BXb := Lib.hid hx; clear hx hz
        replace HRp := Lib.hid (HRp.out.below b)
        replace HRu := Lib.hid (HRu.out.below b)
        replace HRx := Lib.hid (HRx.out.below b)
        replace HRa := Lib.hid (HRa.out.below b)
        replace HRa' := Lib.hid (HRa'.out.below b)
        replace HRb := Lib.hid (HRb.out.below b)
        replace HRb' := Lib.hid (HRb'.out.below b)
        replace BXa := Lib.hid (BXa.out.below b); replace ca_0 := BXa.out.cell0; replace ca_1 := BXa.out.cell1
        replace HB := Lib.hid (HB.out.trans (b.mono hs)); replace hs := HB.out.size
        replace HW := Lib.hid (HW.out.trans (b.mono HW.out.size))
        clear b
        have cb_0 := BXb.out.cell0; have cb_1 := BXb.out.cell1
        go_wp2_with fail
        refine (same_yes w8 Ax Ap np np cx cp ps ps HRx.out HRp.out (by omega) (by omega) (rfl)).mono ?_
        rintro e w9 ⟨rfl, b⟩
        replace HRp := Lib.hid (HRp.out.below b)
        replace HRu := Lib.hid (HRu.out.below b)
        replace HRx := Lib.hid (HRx.out.below b)
        replace HRa := Lib.hid (HRa.out.below b)
        replace HRa' := Lib.hid (HRa'.out.below b)
        replace HRb := Lib.hid (HRb.out.below b)
        replace HRb' := Lib.hid (HRb'.out.below b)
        replace BXa := Lib.hid (BXa.out.below b); replace ca_0 := BXa.out.cell0; replace ca_1 := BXa.out.cell1
        replace BXb := Lib.hid (BXb.out.below b); replace cb_0 := BXb.out.cell0; replace cb_1 := BXb.out.cell1
        replace HB := Lib.hid (HB.out.trans (b.mono hs)); replace hs := HB.out.size
        replace HW := Lib.hid (HW.out.trans (b.mono HW.out.size))
        clear b
        go_wp2_with fail
        refine (impl_ggenR w9 Au cu np (turnG ps) HRu.out (by omega) HQT.out).mono ?_
        rintro e w10 ⟨rfl, b⟩
        replace HRp := Lib.hid (HRp.out.below b)
        replace HRu := Lib.hid (HRu.out.below b)
        replace HRx := Lib.hid (HRx.out.below b)
        replace HRa := Lib.hid (HRa.out.below b)
        replace HRa' := Lib.hid (HRa'.out.below b)
        replace HRb := Lib.hid (HRb.out.below b)
        replace HRb' := Lib.hid (HRb'.out.below b)
        replace BXa := Lib.hid (BXa.out.below b); replace ca_0 := BXa.out.cell0; replace ca_1 := BXa.out.cell1
        replace BXb := Lib.hid (BXb.out.below b); replace cb_0 := BXb.out.cell0; replace cb_1 := BXb.out.cell1
        replace HB := Lib.hid (HB.out.trans (b.mono hs)); replace hs := HB.out.size
        replace HW := Lib.hid (HW.out.trans (b.mono HW.out.size))
        clear b
        go_wp2_with fail
        refine (impl_ggenR w10 Ap cp np ps HRp.out (by omega) HQ.out).mono ?_
        rintro e w11 ⟨rfl, b⟩
        replace HRp := Lib.hid (HRp.out.below b)
        replace HRu := Lib.hid (HRu.out.below b)
        replace HRx := Lib.hid (HRx.out.below b)
        replace HRa := Lib.hid (HRa.out.below b)
        replace HRa' := Lib.hid (HRa'.out.below b)
        replace HRb := Lib.hid (HRb.out.below b)
        replace HRb' := Lib.hid (HRb'.out.below b)
        replace BXa := Lib.hid (BXa.out.below b); replace ca_0 := BXa.out.cell0; replace ca_1 := BXa.out.cell1
        replace BXb := Lib.hid (BXb.out.below b); replace cb_0 := BXb.out.cell0; replace cb_1 := BXb.out.cell1
        replace HB := Lib.hid (HB.out.trans (b.mono hs)); replace hs := HB.out.size
        replace HW := Lib.hid (HW.out.trans (b.mono HW.out.size))
        clear b
        go_wp2_with fail
        refine (impl_gchR w11 Au cu np (turnG ps) HRu.out (by omega) HCT.out).mono ?_
        rintro e w12 ⟨rfl, b⟩
        replace HRp := Lib.hid (HRp.out.below b)
        replace HRu := Lib.hid (HRu.out.below b)
        replace HRx := Lib.hid (HRx.out.below b)
        replace HRa := Lib.hid (HRa.out.below b)
        replace HRa' := Lib.hid (HRa'.out.below b)
        replace HRb := Lib.hid (HRb.out.below b)
        replace HRb' := Lib.hid (HRb'.out.below b)
        replace BXa := Lib.hid (BXa.out.below b); replace ca_0 := BXa.out.cell0; replace ca_1 := BXa.out.cell1
        replace BXb := Lib.hid (BXb.out.below b); replace cb_0 := BXb.out.cell0; replace cb_1 := BXb.out.cell1
        replace HB := Lib.hid (HB.out.trans (b.mono hs)); replace hs := HB.out.size
        replace HW := Lib.hid (HW.out.trans (b.mono HW.out.size))
        clear b
        go_wp2_with fail
        refine (impl_gchR w12 Ap cp np ps HRp.out (by omega) HC.out).mono ?_
        rintro e w13 ⟨rfl, b⟩
        replace HRp := Lib.hid (HRp.out.below b)
        replace HRu := Lib.hid (HRu.out.below b)
        replace HRx := Lib.hid (HRx.out.below b)
        replace HRa := Lib.hid (HRa.out.below b)
        replace HRa' := Lib.hid (HRa'.out.below b)
        replace HRb := Lib.hid (HRb.out.below b)
        replace HRb' := Lib.hid (HRb'.out.below b)
        replace BXa := Lib.hid (BXa.out.below b); replace ca_0 := BXa.out.cell0; replace ca_1 := BXa.out.cell1
        replace BXb := Lib.hid (BXb.out.below b); replace cb_0 := BXb.out.cell0; replace cb_1 := BXb.out.cell1
        replace HB := Lib.hid (HB.out.trans (b.mono hs)); replace hs := HB.out.size
        replace HW := Lib.hid (HW.out.trans (b.mono HW.out.size))
        clear b
        go_wp2_with fail
        refine (impl_sameR w13 Aa Aa' np np ca ca' (corL ps) ps HRa.out HRa'.out (by omega) (by omega) Ab Ab' np np cb cb' (corL (turnG ps)) (turnG ps) HRb.out HRb'.out (by omega) (by omega) HSM.out).mono ?_
        rintro e w14 ⟨rfl, b⟩
        replace HRp := Lib.hid (HRp.out.below b)
        replace HRu := Lib.hid (HRu.out.below b)
        replace HRx := Lib.hid (HRx.out.below b)
        replace HRa := Lib.hid (HRa.out.below b)
        replace HRa' := Lib.hid (HRa'.out.below b)
        replace HRb := Lib.hid (HRb.out.below b)
        replace HRb' := Lib.hid (HRb'.out.below b)
        replace BXa := Lib.hid (BXa.out.below b); replace ca_0 := BXa.out.cell0; replace ca_1 := BXa.out.cell1
        replace BXb := Lib.hid (BXb.out.below b); replace cb_0 := BXb.out.cell0; replace cb_1 := BXb.out.cell1
        replace HB := Lib.hid (HB.out.trans (b.mono hs)); replace hs := HB.out.size
        replace HW := Lib.hid (HW.out.trans (b.mono HW.out.size))
        clear b
        go_wp2_with fail
        go_ret
        exact ⟨rfl, HB.out⟩
  · have HV := Lib.hid hg; clear hg
    go_wp2_with fail
    refine (impl_gtuR w1 Ap cp np ps HRp.out (by omega) (ok := false) (ys := []) (by rw [gtuR, if_neg HV.out])).mono ?_
    rintro e w2 ⟨v, rfl, o, b⟩
    have hl : ([] : List Int).length = 0 := rfl
    obtain ⟨Au, cu, rfl, -, -⟩ := o.form' hl
    have HRu := Lib.hid (o.rd hl); clear o hl
    replace HRp := Lib.hid (HRp.out.below b)
    replace HB := Lib.hid (HB.out.trans (b.mono hs)); replace hs := HB.out.size
    clear b
    go_wp2_with fail
    refine (spec_gtuR w2 Ap cp np ps HRp.out (by omega) (ok := false) (ys := []) (by rw [gtuR, if_neg HV.out])).mono ?_
    rintro e w3 ⟨v, rfl, o, b⟩
    have hl : ([] : List Int).length = 0 := rfl
    obtain ⟨Av, cv, rfl, -, -⟩ := o.form' hl
    have HRv := Lib.hid (o.rd hl); clear o hl
    replace HRp := Lib.hid (HRp.out.below b)
    replace HRu := Lib.hid (HRu.out.below b)
    replace HB := Lib.hid (HB.out.trans (b.mono hs)); replace hs := HB.out.size
    clear b
    go_wp2_with fail
    refine (same_yes w3 Au Av 0 0 cu cv [] [] HRu.out HRv.out (by omega) (by omega) (rfl)).mono ?_
    rintro e w4 ⟨rfl, b⟩
    replace HRp := Lib.hid (HRp.out.below b)
    replace HRu := Lib.hid (HRu.out.below b)
    replace HRv := Lib.hid (HRv.out.below b)
    replace HB := Lib.hid (HB.out.trans (b.mono hs)); replace hs := HB.out.size
    clear b
    go_wp2_with fail
    refine (same_yes w4 Au Av 0 0 cu cv [] [] HRu.out HRv.out (by omega) (by omega) (rfl)).mono ?_
    rintro e w5 ⟨rfl, b⟩
    replace HRp := Lib.hid (HRp.out.below b)
    replace HRu := Lib.hid (HRu.out.below b)
    replace HRv := Lib.hid (HRv.out.below b)
    replace HB := Lib.hid (HB.out.trans (b.mono hs)); replace hs := HB.out.size
    clear b
    go_wp2_with fail
    go_ret
    exact ⟨rfl, HB.out⟩

end Go.Proofs.Ytfcgfeopmnjfjaa
