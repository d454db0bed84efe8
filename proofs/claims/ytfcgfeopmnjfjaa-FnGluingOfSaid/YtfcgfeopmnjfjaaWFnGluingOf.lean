/-
  The gluing of a map with one face: its map is the map, renamed by the sides.
  FnGluingOf: the walk of the law.
-/
import Derived.Test.YtfcgfeopmnjfjaaGlP
import Derived.Test.YtfcgfeopmnjfjaaPar6
import Derived.Test.YtfcgfeopmnjfjaaLawMap
import Derived.Test.YtfcgfeopmnjfjaaDrawO
import Derived.Test.YtfcgfeopmnjfjaaGluOI
import Derived.Test.YtfcgfeopmnjfjaaGluM
import Derived.Test.YtfcgfeopmnjfjaaFormR
import Derived.Test.YtfcgfeopmnjfjaaSame
namespace Go.Proofs.Ytfcgfeopmnjfjaa

section
variable {t f : List Int} {d : Nat}
theorem isOf_parts (h : isOf t f (d : Int) = true) : IsMap t f ∧ d < t.length ∧ t.length ≤ 10 ∧ Vld (mulL f t) ∧ (mulL f t).length = t.length ∧ Prm (mulL f t).length (fun i => it (mulL f t) i d) ∧ Vld (sideL (mulL f t) d) ∧ (sideL (mulL f t) d).length = t.length := by
  obtain ⟨hm, h1, h2, h3⟩ := isOf_iff.1 h
  have hmu := hm.flip.mulL hm.turn hm.len.symm
  have hl : (mulL f t).length = t.length := (mulL_len f t).trans hm.len.symm
  have hp := one_ring hmu h3 (d := d) (by rw [hl]; omega)
  exact ⟨hm, by omega, h2, hmu, hl, hp, sideL_vld hmu hp, (sideL_len _ _).trans hl⟩

theorem of_face (h : isOf t f (d : Int) = true) : conjL (mulL f t) (sideL (mulL f t) d) = folL t.length := by
  obtain ⟨hm, hd, h10, hmu, hl, hp, hs, hsl⟩ := isOf_parts h
  refine (conjL_eq hs (by rw [folL_len, hsl]) (fun i hi => ?_)).symm
  rw [hsl] at hi
  obtain ⟨k, hk, rfl⟩ := hp.surj (show i < (mulL f t).length by rw [hl]; exact hi)
  have e1 : gn (sideL (mulL f t) d) (it (mulL f t) k d) = k := gn_of (sideL_at hp hk)
  show gi (folL t.length) (gn (sideL (mulL f t) d) (it (mulL f t) k d)) = _
  rw [e1, gi_folL (by rw [← hl]; exact hk)]
  show _ = gi (sideL (mulL f t) d) (it (mulL f t) (k + 1) d)
  rw [hl] at hk
  rcases Nat.lt_or_ge (k + 1) t.length with c | c
  · rw [Nat.mod_eq_of_lt c, sideL_at hp (by rw [hl]; exact c)]
  · have hk1 : k + 1 = t.length := by omega
    have hback : it (mulL f t) (k + 1) d = d := by
      have hlt : it (mulL f t) (k + 1) d < (mulL f t).length := it_lt hmu (k + 1) (by rw [hl]; exact hd)
      obtain ⟨j, hj, e⟩ := hp.surj hlt
      have e : it (mulL f t) j d = it (mulL f t) (k + 1) d := e
      rw [hl] at hj
      rcases Nat.eq_zero_or_pos j with h0 | h0
      · subst h0; exact e.symm
      · exfalso
        obtain ⟨j', rfl⟩ : ∃ j', j = j' + 1 := ⟨j - 1, by omega⟩
        have e2 : it (mulL f t) j' d = it (mulL f t) k d := by
          have a1 : gn (mulL f t) (it (mulL f t) j' d) = gn (mulL f t) (it (mulL f t) k d) := e
          exact hmu.inj (it_lt hmu j' (by rw [hl]; exact hd)) (it_lt hmu k (by rw [hl]; exact hd)) a1
        have := hp.inj j' k (by rw [hl]; omega) (by rw [hl]; omega) e2
        omega
    rw [hback, hk1, Nat.mod_self]
    have := sideL_at hp (i := 0) (by rw [hl]; omega)
    exact this.symm

theorem flip_flip (hm : IsMap t f) : mulL f (mulL f t) = t := by
  refine eq_of_gi (by rw [mulL_len]; exact hm.len.symm) (fun i hi => ?_)
  rw [mulL_len] at hi
  have h1 := hm.paired i hi
  have h2 := hm.flip.gn_lt hi
  rw [gi_mulL hi, gi_mulL h2, h1.2]

theorem of_cor (h : isOf t f (d : Int) = true) : corL (conjL f (sideL (mulL f t) d)) = conjL t (sideL (mulL f t) d) := by
  obtain ⟨hm, hd, h10, hmu, hl, hp, hs, hsl⟩ := isOf_parts h
  unfold corL
  rw [conjL_len, hsl, ← of_face h, conj_mul hm.flip hs (by rw [← hm.len, hsl]), flip_flip hm]
theorem of_isG (h : isOf t f (d : Int) = true) : IsG (conjL f (sideL (mulL f t) d)) := by
  obtain ⟨hm, hd, h10, hmu, hl, hp, hs, hsl⟩ := isOf_parts h
  have hr := hm.ren hs hsl
  have h2 : 2 ≤ t.length := by
    have h1 := hm.paired 0 (by rw [← hm.len]; omega)
    have h3 := hm.flip.gn_lt (j := 0) (by rw [← hm.len]; omega)
    rw [← hm.len] at h3
    omega
  exact isG_of hr.flip hr.paired (by rw [conjL_len, hsl]; exact h2) (by rw [conjL_len, hsl]; exact h10)
theorem of_zero (h : isOf t f (d : Int) = true) : gn (sideL (mulL f t) d) d = 0 := by
  obtain ⟨hm, hd, h10, hmu, hl, hp, hs, hsl⟩ := isOf_parts h
  exact gn_of (sideL_at hp (i := 0) (by rw [hl]; omega))
theorem of_form (h : isOf t f (d : Int) = true) : formT (conjL t (sideL (mulL f t) d)) (conjL f (sideL (mulL f t) d)) 0 = formT t f d ∧ formF (conjL t (sideL (mulL f t) d)) (conjL f (sideL (mulL f t) d)) 0 = formF t f d := by
  obtain ⟨hm, hd, h10, hmu, hl, hp, hs, hsl⟩ := isOf_parts h
  have := form_ren hs hsl hm hd
  rwa [of_zero h] at this
theorem of_same (h : isOf t f (d : Int) = true) : sameR (conjL t (sideL (mulL f t) d)) (conjL f (sideL (mulL f t) d)) t f = true := by
  obtain ⟨hm, hd, h10, hmu, hl, hp, hs, hsl⟩ := isOf_parts h
  have hr := hm.ren hs hsl
  have h1 := (ren_alike (t := conjL t (sideL (mulL f t) d)) (f := conjL f (sideL (mulL f t) d)) (b := backL (sideL (mulL f t) d)) (backL_vld hs) (by rw [backL_len, conjL_len])).same hr
  rwa [conj_back hm.turn hs hsl.symm, conj_back hm.flip hs (by rw [← hm.len, hsl])] at h1
end

end Go.Proofs.Ytfcgfeopmnjfjaa

namespace Go.Proofs.Ytfcgfeopmnjfjaa
open Go.RowKit

set_option maxRecDepth 100000 in
set_option maxHeartbeats 6400000 in
theorem walk_FnGluingOf (A0 : Option Addr) (n0 c0 : Nat) (bs0 : List Int) (w : World) (h0 : RdB w A0 n0 bs0) (hm0 : n0 ≤ maxLen ∧ n0 ≤ c0) :
    Calls Try.prog 15 #[.slice A0 n0 c0] w fun e w' => e = .returned (.bool true) ∧ Below w.heap.size w w' := by
  have HB0_0 := Lib.hid h0; have hc0 := hm0.2; have hml0 := hm0.1; clear h0 hm0; unfold maxLen at hml0
  by_cases hbig0 : 1048576 < n0
  · have hd : decide ((1048576 : Int) < n0) = true := by simp; omega
    go_enter Try.func15, Try.ntmps15
    go_wp2
    go_ret
    exact ⟨rfl, Below.refl _ _⟩
  have hd0 : decide ((1048576 : Int) < n0) = false := by simp; omega
  have hnb0 : n0 ≤ 1048576 := by omega
  clear hbig0
  go_enter Try.func15, Try.ntmps15
  go_wp2_with fail
  refine (drawGluingOf_any w A0 n0 c0 bs0 HB0_0.out hnb0 hc0).mono ?_
  rintro e w1 ⟨Am, Am', nm, nm', cm, cm', t, f, r, rfl, r1, r2, hlm, hlm', ⟨hr1, hr2⟩, b⟩
  have HNm := Lib.hid r1.1; have HNm' := Lib.hid r2.1; have HRm := Lib.hid r1; have HRm' := Lib.hid r2; clear r1 r2
  have HB := Lib.hid b; have hs := b.size; clear b
  obtain ⟨w2, hWw2, hx, b, hz⟩ := Box.local_ w1 36 (.slice Am nm cm) (.slice Am' nm' cm')
  have BXm := Lib.hid hx; clear hx hz
  replace HRm := Lib.hid (HRm.out.below b)
  replace HRm' := Lib.hid (HRm'.out.below b)
  replace HB := Lib.hid (HB.out.trans (b.mono hs)); replace hs := HB.out.size
  clear b
  have cm_0 := BXm.out.cell0; have cm_1 := BXm.out.cell1
  have hwr : (Lit.int .i64 r).wf = true := by simp [Lit.wf, IntKind.min, IntKind.max, IntKind.bits, IntKind.signed]; omega
  have HW := Lib.hid hwr; clear hwr
  by_cases hv : isOf t f r = true
  · have hio := isOf_iff.1 hv
    have HM := Lib.hid hio.1
    obtain rfl : nm = nm' := by have := HM.out.len; rw [HNm.out, HNm'.out] at this; exact this
    obtain ⟨R, rfl⟩ : ∃ R : Nat, r = R := ⟨r.toNat, by have := hio.2.1; omega⟩
    have hRn : R < nm := by have := hio.2.1.2; rw [HNm.out] at this; omega
    have HV := Lib.hid hv; clear hv hio
    have hn1 : 1 ≤ nm := by omega
    have hRt : R < t.length := by rw [HNm.out]; exact hRn
    have HGOF : Hid (gofR t f (R : Int) = (true, conjL f (sideL (mulL f t) R))) := by rw [Hid, gofR, if_pos HV.out, Int.toNat_natCast]
    have HSG := Lib.hid (of_isG HV.out); have HCOR := Lib.hid (of_cor HV.out); have HFO := Lib.hid (of_form HV.out); have HSM := Lib.hid (of_same HV.out); have HPT := Lib.hid (isOf_parts HV.out)
    have HRM : Hid (IsMap (conjL t (sideL (mulL f t) R)) (conjL f (sideL (mulL f t) R))) := HM.out.ren HPT.out.2.2.2.2.2.2.1 HPT.out.2.2.2.2.2.2.2
    have HLS : Hid ((conjL f (sideL (mulL f t) R)).length = nm) := (conjL_len _ _).trans (HPT.out.2.2.2.2.2.2.2.trans HNm.out)
    have HLT : Hid ((conjL t (sideL (mulL f t) R)).length = nm) := (conjL_len _ _).trans (HPT.out.2.2.2.2.2.2.2.trans HNm.out)
    obtain ⟨so, hso⟩ : ∃ so, conjL f (sideL (mulL f t) R) = so := ⟨_, rfl⟩
    obtain ⟨st, hst⟩ : ∃ st, conjL t (sideL (mulL f t) R) = st := ⟨_, rfl⟩
    rw [hso] at HGOF HSG HCOR HFO HSM HRM HLS
    rw [hst] at HCOR HFO HSM HRM HLT
    clear hso hst HPT
    obtain ⟨fa, hfa⟩ : ∃ fa, formT t f R = fa := ⟨_, rfl⟩
    obtain ⟨fb, hfb⟩ : ∃ fb, formF t f R = fb := ⟨_, rfl⟩
    have HL1 : Hid (fa.length = nm) := by rw [Hid, ← hfa]; exact (formT_len HM.out hRt).trans HNm.out
    have HL2 : Hid (fb.length = nm) := by rw [Hid, ← hfb]; exact (formF_len HM.out hRt).trans HNm.out
    have HE2 : Hid (formR t f (R : Int) = (true, fa, fb)) := by rw [Hid, formR, if_pos ⟨mapV_iff.2 HM.out, by simp [dartB]; exact hRt⟩, ← hfa, ← hfb]; rfl
    have HE1 : Hid (formR st so 0 = (true, fa, fb)) := by
      rw [Hid, formR, if_pos ⟨mapV_iff.2 HRM.out, by simp [dartB]; have := HLT.out; omega⟩]
      exact congrArg (Prod.mk true) (by rw [show Int.toNat 0 = 0 from rfl, HFO.out.1, HFO.out.2, hfa, hfb])
    clear hfa hfb hRt
    go_wp2_with fail
    refine (impl_gofR w2 Am Am' nm nm cm cm' t f HRm.out HRm'.out (by omega) (by omega) (R : Int) (HW.out) (ok := true) (ys := so) (HGOF.out)).mono ?_
    rintro e w3 ⟨v, rfl, o, b⟩
    have hl : (so : List Int).length = nm := HLS.out
    obtain ⟨Ao, co, rfl, -, -⟩ := o.form' hl
    have HRo := Lib.hid (o.rd hl); clear o hl
    replace HRm := Lib.hid (HRm.out.below b)
    replace HRm' := Lib.hid (HRm'.out.below b)
    replace BXm := Lib.hid (BXm.out.below b); replace cm_0 := BXm.out.cell0; replace cm_1 := BXm.out.cell1
    replace HB := Lib.hid (HB.out.trans (b.mono hs)); replace hs := HB.out.size
    clear b
    go_wp2_with fail
    refine (spec_gofR w3 Am Am' nm nm cm cm' t f HRm.out HRm'.out (by omega) (by omega) (R : Int) (HW.out) (ok := true) (ys := so) (HGOF.out)).mono ?_
    rintro e w4 ⟨v, rfl, o, b⟩
    have hl : (so : List Int).length = nm := HLS.out
    obtain ⟨Ap, cp, rfl, -, -⟩ := o.form' hl
    have HRp := Lib.hid (o.rd hl); clear o hl
    replace HRm := Lib.hid (HRm.out.below b)
    replace HRm' := Lib.hid (HRm'.out.below b)
    replace HRo := Lib.hid (HRo.out.below b)
    replace BXm := Lib.hid (BXm.out.below b); replace cm_0 := BXm.out.cell0; replace cm_1 := BXm.out.cell1
    replace HB := Lib.hid (HB.out.trans (b.mono hs)); replace hs := HB.out.size
    clear b
    go_wp2_with fail
    refine (same_yes w4 Ao Ap nm nm co cp so so HRo.out HRp.out (by omega) (by omega) (rfl)).mono ?_
    rintro e w5 ⟨rfl, b⟩
    replace HRm := Lib.hid (HRm.out.below b)
    replace HRm' := Lib.hid (HRm'.out.below b)
    replace HRo := Lib.hid (HRo.out.below b)
    replace HRp := Lib.hid (HRp.out.below b)
    replace BXm := Lib.hid (BXm.out.below b); replace cm_0 := BXm.out.cell0; replace cm_1 := BXm.out.cell1
    replace HB := Lib.hid (HB.out.trans (b.mono hs)); replace hs := HB.out.size
    clear b
    clear HRp
    go_wp2_with fail
    refine (impl_gmapR w5 Ao co nm so HRo.out (by omega) (ok := true) (yt := st) (yf := so) (by rw [gmapR, if_pos (glu_true HSG.out), HCOR.out])).mono ?_
    rintro e w6 ⟨u, u', rfl, o, b⟩
    have hl : (st : List Int).length = nm := HLT.out
    have hl' : (so : List Int).length = nm := HLS.out
    obtain ⟨Ax, cx, Ax', cx', rfl, rfl, r1, r2⟩ := o.form hl hl'
    have HRx := Lib.hid r1; have HRx' := Lib.hid r2; clear o hl hl' r1 r2
    replace HRm := Lib.hid (HRm.out.below b)
    replace HRm' := Lib.hid (HRm'.out.below b)
    replace HRo := Lib.hid (HRo.out.below b)
    replace BXm := Lib.hid (BXm.out.below b); replace cm_0 := BXm.out.cell0; replace cm_1 := BXm.out.cell1
    replace HB := Lib.hid (HB.out.trans (b.mono hs)); replace hs := HB.out.size
    clear b
    obtain ⟨w7, hWw7, hx, b, hz⟩ := Box.local_ w6 36 (.slice Ax nm cx) (.slice Ax' nm cx')
    have BXx := Lib.hid hx; clear hx hz
    replace HRm := Lib.hid (HRm.out.below b)
    replace HRm' := Lib.hid (HRm'.out.below b)
    replace HRo := Lib.hid (HRo.out.below b)
    replace HRx := Lib.hid (HRx.out.below b)
    replace HRx' := Lib.hid (HRx'.out.below b)
    replace BXm := Lib.hid (BXm.out.below b); replace cm_0 := BXm.out.cell0; replace cm_1 := BXm.out.cell1
    replace HB := Lib.hid (HB.out.trans (b.mono hs)); replace hs := HB.out.size
    clear b
    have cx_0 := BXx.out.cell0; have cx_1 := BXx.out.cell1
    go_wp2_with fail
    refine (impl_formR w7 Ax Ax' nm nm cx cx' st so HRx.out HRx'.out (by omega) (by omega) (0 : Int) (rfl) (ok := true) (yt := fa) (yf := fb) (HE1.out)).mono ?_
    rintro e w8 ⟨u, u', rfl, o, b⟩
    have hl : (fa : List Int).length = nm := HL1.out
    have hl' : (fb : List Int).length = nm := HL2.out
    obtain ⟨Aa, ca, Aa', ca', rfl, rfl, r1, r2⟩ := o.form hl hl'
    have HRa := Lib.hid r1; have HRa' := Lib.hid r2; clear o hl hl' r1 r2
    replace HRm := Lib.hid (HRm.out.below b)
    replace HRm' := Lib.hid (HRm'.out.below b)
    replace HRo := Lib.hid (HRo.out.below b)
    replace HRx := Lib.hid (HRx.out.below b)
    replace HRx' := Lib.hid (HRx'.out.below b)
    replace BXm := Lib.hid (BXm.out.below b); replace cm_0 := BXm.out.cell0; replace cm_1 := BXm.out.cell1
    replace BXx := Lib.hid (BXx.out.below b); replace cx_0 := BXx.out.cell0; replace cx_1 := BXx.out.cell1
    replace HB := Lib.hid (HB.out.trans (b.mono hs)); replace hs := HB.out.size
    clear b
    obtain ⟨w9, hWw9, hx, b, hz⟩ := Box.local_ w8 36 (.slice Aa nm ca) (.slice Aa' nm ca')
    have BXa := Lib.hid hx; clear hx hz
    replace HRm := Lib.hid (HRm.out.below b)
    replace HRm' := Lib.hid (HRm'.out.below b)
    replace HRo := Lib.hid (HRo.out.below b)
    replace HRx := Lib.hid (HRx.out.below b)
    replace HRx' := Lib.hid (HRx'.out.below b)
    replace HRa := Lib.hid (HRa.out.below b)
    replace HRa' := Lib.hid (HRa'.out.below b)
    replace BXm := Lib.hid (BXm.out.below b); replace cm_0 := BXm.out.cell0; replace cm_1 := BXm.out.cell1
    replace BXx := Lib.hid (BXx.out.below b); replace cx_0 := BXx.out.cell0; replace cx_1 := BXx.out.cell1
    replace HB := Lib.hid (HB.out.trans (b.mono hs)); replace hs := HB.out.size
    clear b
    have ca_0 := BXa.out.cell0; have ca_1 := BXa.out.cell1
    go_wp2_with fail
    refine (impl_formR w9 Am Am' nm nm cm cm' t f HRm.out HRm'.out (by omega) (by omega) (R : Int) (HW.out) (ok := true) (yt := fa) (yf := fb) (HE2.out)).mono ?_
    rintro e w10 ⟨u, u', rfl, o, b⟩
    have hl : (fa : List Int).length = nm := HL1.out
    have hl' : (fb : List Int).length = nm := HL2.out
    obtain ⟨Ab, cb, Ab', cb', rfl, rfl, r1, r2⟩ := o.form hl hl'
    have HRb := Lib.hid r1; have HRb' := Lib.hid r2; clear o hl hl' r1 r2
    replace HRm := Lib.hid (HRm.out.below b)
    replace HRm' := Lib.hid (HRm'.out.below b)
    replace HRo := Lib.hid (HRo.out.below b)
    replace HRx := Lib.hid (HRx.out.below b)
    replace HRx' := Lib.hid (HRx'.out.below b)
    replace HRa := Lib.hid (HRa.out.below b)
    replace HRa' := Lib.hid (HRa'.out.below b)
    replace BXm := Lib.hid (BXm.out.below b); replace cm_0 := BXm.out.cell0; replace cm_1 := BXm.out.cell1
    replace BXx := Lib.hid (BXx.out.below b); replace cx_0 := BXx.out.cell0; replace cx_1 := BXx.out.cell1
    replace BXa := Lib.hid (BXa.out.below b); replace ca_0 := BXa.out.cell0; replace ca_1 := BXa.out.cell1
    replace HB := Lib.hid (HB.out.trans (b.mono hs)); replace hs := HB.out.size
    clear b
    obtain ⟨w11, hWw11, hx, b, hz⟩ := Box.local_ w10 36 (.slice Ab nm cb) (.slice Ab' nm cb')
    have BXb := Lib.hid hx; clear hx hz
    replace HRm := Lib.hid (HRm.out.below b)
    replace HRm' := Lib.hid (HRm'.out.below b)
    replace HRo := Lib.hid (HRo.out.below b)
    replace HRx := Lib.hid (HRx.out.below b)
    replace HRx' := Lib.hid (HRx'.out.below b)
    replace HRa := Lib.hid (HRa.out.below b)
    replace HRa' := Lib.hid (HRa'.out.below b)
    replace HRb := Lib.hid (HRb.out.below b)
    replace HRb' := Lib.hid (HRb'.out.below b)
    replace BXm := Lib.hid (BXm.out.below b); replace cm_0 := BXm.out.cell0; replace cm_1 := BXm.out.cell1
    replace BXx := Lib.hid (BXx.out.below b); replace cx_0 := BXx.out.cell0; replace cx_1 := BXx.out.cell1
    replace BXa := Lib.hid (BXa.out.below b); replace ca_0 := BXa.out.cell0; replace ca_1 := BXa.out.cell1
    replace HB := Lib.hid (HB.out.trans (b.mono hs)); replace hs := HB.out.size
    clear b
    have cb_0 := BXb.out.cell0; have cb_1 := BXb.out.cell1
    go_wp2_with fail
    refine (same_map_yes w11 Aa Aa' Ab Ab' nm nm ca ca' nm nm cb cb' fa fb fa fb HRa.out HRa'.out HRb.out HRb'.out (by omega) (by omega) (by omega) (by omega) (rfl) (rfl)).mono ?_
    rintro e w12 ⟨rfl, b⟩
    replace HRm := Lib.hid (HRm.out.below b)
    replace HRm' := Lib.hid (HRm'.out.below b)
    replace HRo := Lib.hid (HRo.out.below b)
    replace HRx := Lib.hid (HRx.out.below b)
    replace HRx' := Lib.hid (HRx'.out.below b)
    replace HRa := Lib.hid (HRa.out.below b)
    replace HRa' := Lib.hid (HRa'.out.below b)
    replace HRb := Lib.hid (HRb.out.below b)
    replace HRb' := Lib.hid (HRb'.out.below b)
    replace BXm := Lib.hid (BXm.out.below b); replace cm_0 := BXm.out.cell0; replace cm_1 := BXm.out.cell1
    replace BXx := Lib.hid (BXx.out.below b); replace cx_0 := BXx.out.cell0; replace cx_1 := BXx.out.cell1
    replace BXa := Lib.hid (BXa.out.below b); replace ca_0 := BXa.out.cell0; replace ca_1 := BXa.out.cell1
    replace BXb := Lib.hid (BXb.out.below b); replace cb_0 := BXb.out.cell0; replace cb_1 := BXb.out.cell1
    replace HB := Lib.hid (HB.out.trans (b.mono hs)); replace hs := HB.out.size
    clear b
    go_wp2_with fail
    refine (impl_sameR w12 Ax Ax' nm nm cx cx' st so HRx.out HRx'.out (by omega) (by omega) Am Am' nm nm cm cm' t f HRm.out HRm'.out (by omega) (by omega) HSM.out).mono ?_
    rintro e w13 ⟨rfl, b⟩
    replace HRm := Lib.hid (HRm.out.below b)
    replace HRm' := Lib.hid (HRm'.out.below b)
    replace HRo := Lib.hid (HRo.out.below b)
    replace HRx := Lib.hid (HRx.out.below b)
    replace HRx' := Lib.hid (HRx'.out.below b)
    replace HRa := Lib.hid (HRa.out.below b)
    replace HRa' := Lib.hid (HRa'.out.below b)
    replace HRb := Lib.hid (HRb.out.below b)
    replace HRb' := Lib.hid (HRb'.out.below b)
    replace BXm := Lib.hid (BXm.out.below b); replace cm_0 := BXm.out.cell0; replace cm_1 := BXm.out.cell1
    replace BXx := Lib.hid (BXx.out.below b); replace cx_0 := BXx.out.cell0; replace cx_1 := BXx.out.cell1
    replace BXa := Lib.hid (BXa.out.below b); replace ca_0 := BXa.out.cell0; replace ca_1 := BXa.out.cell1
    replace BXb := Lib.hid (BXb.out.below b); replace cb_0 := BXb.out.cell0; replace cb_1 := BXb.out.cell1
    replace HB := Lib.hid (HB.out.trans (b.mono hs)); replace hs := HB.out.size
    clear b
    go_wp2_with fail
    go_ret
    exact ⟨rfl, HB.out⟩
  · have HV := Lib.hid hv
    go_wp2_with fail
    refine (impl_gofR w2 Am Am' nm nm' cm cm' t f HRm.out HRm'.out (by omega) (by omega) (r) (HW.out) (ok := false) (ys := []) (by rw [gofR, if_neg HV.out])).mono ?_
    rintro e w3 ⟨v, rfl, o, b⟩
    have hl : ([] : List Int).length = 0 := rfl
    obtain ⟨Ao, co, rfl, -, -⟩ := o.form' hl
    have HRo := Lib.hid (o.rd hl); clear o hl
    replace HRm := Lib.hid (HRm.out.below b)
    replace HRm' := Lib.hid (HRm'.out.below b)
    replace BXm := Lib.hid (BXm.out.below b); replace cm_0 := BXm.out.cell0; replace cm_1 := BXm.out.cell1
    replace HB := Lib.hid (HB.out.trans (b.mono hs)); replace hs := HB.out.size
    clear b
    go_wp2_with fail
    refine (spec_gofR w3 Am Am' nm nm' cm cm' t f HRm.out HRm'.out (by omega) (by omega) (r) (HW.out) (ok := false) (ys := []) (by rw [gofR, if_neg HV.out])).mono ?_
    rintro e w4 ⟨v, rfl, o, b⟩
    have hl : ([] : List Int).length = 0 := rfl
    obtain ⟨Ap, cp, rfl, -, -⟩ := o.form' hl
    have HRp := Lib.hid (o.rd hl); clear o hl
    replace HRm := Lib.hid (HRm.out.below b)
    replace HRm' := Lib.hid (HRm'.out.below b)
    replace HRo := Lib.hid (HRo.out.below b)
    replace BXm := Lib.hid (BXm.out.below b); replace cm_0 := BXm.out.cell0; replace cm_1 := BXm.out.cell1
    replace HB := Lib.hid (HB.out.trans (b.mono hs)); replace hs := HB.out.size
    clear b
    go_wp2_with fail
    refine (same_yes w4 Ao Ap 0 0 co cp [] [] HRo.out HRp.out (by omega) (by omega) (rfl)).mono ?_
    rintro e w5 ⟨rfl, b⟩
    replace HRm := Lib.hid (HRm.out.below b)
    replace HRm' := Lib.hid (HRm'.out.below b)
    replace HRo := Lib.hid (HRo.out.below b)
    replace HRp := Lib.hid (HRp.out.below b)
    replace BXm := Lib.hid (BXm.out.below b); replace cm_0 := BXm.out.cell0; replace cm_1 := BXm.out.cell1
    replace HB := Lib.hid (HB.out.trans (b.mono hs)); replace hs := HB.out.size
    clear b
    go_wp2_with fail
    refine (same_yes w5 Ao Ap 0 0 co cp [] [] HRo.out HRp.out (by omega) (by omega) (rfl)).mono ?_
    rintro e w6 ⟨rfl, b⟩
    replace HRm := Lib.hid (HRm.out.below b)
    replace HRm' := Lib.hid (HRm'.out.below b)
    replace HRo := Lib.hid (HRo.out.below b)
    replace HRp := Lib.hid (HRp.out.below b)
    replace BXm := Lib.hid (BXm.out.below b); replace cm_0 := BXm.out.cell0; replace cm_1 := BXm.out.cell1
    replace HB := Lib.hid (HB.out.trans (b.mono hs)); replace hs := HB.out.size
    clear b
    go_wp2_with fail
    go_ret
    exact ⟨rfl, HB.out⟩

end Go.Proofs.Ytfcgfeopmnjfjaa
