/-
  FnRename: the walk of the law.
-/
import Derived.Test.YteajaikgeephmaaLawMap
import Derived.Test.YteajaikgeephmaaDrawR
import Derived.Test.YteajaikgeephmaaPar6
import Derived.Test.YteajaikgeephmaaRename
import Derived.Test.YteajaikgeephmaaFormR
import Derived.Test.YteajaikgeephmaaBack
import Derived.Test.YteajaikgeephmaaSame
namespace Go.Proofs.Yteajaikgeephmaa
open Go.RowKit

set_option maxRecDepth 100000 in
set_option maxHeartbeats 3200000 in
theorem walk_FnRename (A0 : Option Addr) (n0 c0 : Nat) (bs0 : List Int) (A1 : Option Addr) (n1 c1 : Nat) (bs1 : List Int) (w : World) (h0 : RdB w A0 n0 bs0) (hm0 : n0 ≤ maxLen ∧ n0 ≤ c0) (h1 : RdB w A1 n1 bs1) (hm1 : n1 ≤ maxLen ∧ n1 ≤ c1) :
    Calls Try.prog 8 #[.slice A0 n0 c0, .slice A1 n1 c1] w fun e w' => e = .returned (.bool true) ∧ Below w.heap.size w w' := by
  have HB0_0 := Lib.hid h0; have hc0 := hm0.2; have hml0 := hm0.1; clear h0 hm0; unfold maxLen at hml0
  have HB0_1 := Lib.hid h1; have hc1 := hm1.2; have hml1 := hm1.1; clear h1 hm1; unfold maxLen at hml1
  by_cases hbig0 : 1048576 < n0
  · have hd : decide ((1048576 : Int) < n0) = true := by simp; omega
    go_enter Try.func8, Try.ntmps8
    go_wp2
    go_ret
    exact ⟨rfl, Below.refl _ _⟩
  have hd0 : decide ((1048576 : Int) < n0) = false := by simp; omega
  have hnb0 : n0 ≤ 1048576 := by omega
  clear hbig0
  by_cases hbig1 : 1048576 < n1
  · have hd : decide ((1048576 : Int) < n1) = true := by simp; omega
    go_enter Try.func8, Try.ntmps8
    go_wp2
    go_ret
    exact ⟨rfl, Below.refl _ _⟩
  have hd1 : decide ((1048576 : Int) < n1) = false := by simp; omega
  have hnb1 : n1 ≤ 1048576 := by omega
  clear hbig1
  go_enter Try.func8, Try.ntmps8
  go_wp2_with fail
  refine (drawMapRename_any w A0 n0 c0 bs0 HB0_0.out hnb0 hc0).mono ?_
  rintro e w1 ⟨Am, Am', nm, nm', cm, cm', t, f, Ag, ng, cg, g, rfl, r1, r2, hlm, hlm', ⟨rg, hlg⟩, b⟩
  have HNm := Lib.hid r1.1; have HNm' := Lib.hid r2.1; have HRm := Lib.hid r1; have HRm' := Lib.hid r2; clear r1 r2
  have HB := Lib.hid b; have hs := b.size; clear b
  have HRg := Lib.hid rg; have HNg := Lib.hid rg.1; clear rg
  obtain ⟨w2, hWw2, hx, b, hz⟩ := Box.local_ w1 35 (.slice Am nm cm) (.slice Am' nm' cm')
  have BXm := Lib.hid hx; clear hx hz
  replace HRm := Lib.hid (HRm.out.below b)
  replace HRm' := Lib.hid (HRm'.out.below b)
  replace HRg := Lib.hid (HRg.out.below b)
  replace HB := Lib.hid (HB.out.trans (b.mono hs)); replace hs := HB.out.size
  clear b
  have cm_0 := BXm.out.cell0; have cm_1 := BXm.out.cell1
  by_cases hv : mapV t f = true ∧ both t g = true
  · have HM := Lib.hid (mapV_iff.1 hv.1)
    have HG := Lib.hid (both_iff.1 hv.2).2.1
    have HGL := Lib.hid (both_iff.1 hv.2).2.2
    have HVV := Lib.hid hv; clear hv
    obtain rfl : nm = nm' := by have := HM.out.len; rw [HNm.out, HNm'.out] at this; exact this
    obtain rfl : nm = ng := by have := HGL.out; rw [HNm.out, HNg.out] at this; exact this
    have hn1 : 1 ≤ nm := by have := HM.out.turn.1; rw [HNm.out] at this; exact this
    have HLF : Hid (f.length = g.length) := by rw [Hid, HNm'.out, HNg.out]
    have HRM : Hid (IsMap (conjL t g) (conjL f g)) := HM.out.ren HG.out HGL.out.symm
    have HC1 : Hid ((conjL t g).length = nm) := (conjL_len _ _).trans HNg.out
    have HC2 : Hid ((conjL f g).length = nm) := (conjL_len _ _).trans HNg.out
    have HSM : Hid (sameR t f (conjL t g) (conjL f g) = true) := (ren_alike HG.out HGL.out.symm).same HM.out
    have hroot : ((n1 : Nat) : Int).tmod (nm : Int) = ((n1 % nm : Nat) : Int) := rfl
    obtain ⟨R, hR⟩ : ∃ R, n1 % nm = R := ⟨_, rfl⟩
    have hRn : R < nm := by rw [← hR]; exact Nat.mod_lt _ (by omega)
    rw [hR] at hroot
    have hz1 : ¬ ((nm : Int) = 0) := by omega
    have hz2 : ((nm : Int) == 0) = false := by simp; omega
    clear hR
    have hRt : Hid (R < t.length) := by rw [Hid, HNm.out]; exact hRn
    obtain ⟨S, hS⟩ : ∃ S, gn g R = S := ⟨_, rfl⟩
    have hSn : S < nm := by rw [← hS, ← HNg.out]; exact HG.out.gn_lt (by rw [HNg.out]; exact hRn)
    have HFR : Hid (formT (conjL t g) (conjL f g) S = formT t f R ∧ formF (conjL t g) (conjL f g) S = formF t f R) := by rw [Hid, ← hS]; exact form_ren HG.out HGL.out.symm HM.out hRt.out
    have hgS : gi g R = (S : Int) := by rw [HG.out.gi_gn (by rw [HNg.out]; exact hRn), hS]
    have HGS := Lib.hid hgS; clear hgS hS
    have HF1 : Hid (formR t f (R : Int) = (true, formT t f R, formF t f R)) := by rw [Hid, formR, if_pos ⟨mapV_iff.2 HM.out, by simp [dartB]; exact hRt.out⟩]; rfl
    have HF2 : Hid (formR (conjL t g) (conjL f g) (S : Int) = (true, formT t f R, formF t f R)) := by
      rw [Hid, formR, if_pos ⟨mapV_iff.2 HRM.out, by simp [dartB]; rw [HC1.out]; exact hSn⟩]
      exact congrArg (Prod.mk true) (by rw [show Int.toNat (S : Int) = S from rfl, HFR.out.1, HFR.out.2])
    have hwR : Hid ((Lit.int .i64 (R : Int)).wf = true) := by simp [Hid, Lit.wf, IntKind.min, IntKind.max, IntKind.bits, IntKind.signed]; omega
    have hwS : Hid ((Lit.int .i64 (S : Int)).wf = true) := by simp [Hid, Lit.wf, IntKind.min, IntKind.max, IntKind.bits, IntKind.signed]; omega
    have HT1 : Hid ((formT t f R).length = nm) := (formT_len HM.out hRt.out).trans HNm.out
    have HT2 : Hid ((formF t f R).length = nm) := (formF_len HM.out hRt.out).trans HNm.out
    go_wp2_with fail
    refine (impl_renameR w2 Am Am' nm nm cm cm' t f HRm.out HRm'.out (by omega) (by omega) Ag cg nm g HRg.out (by omega) (ok := true) (yt := conjL t g) (yf := conjL f g) (by rw [renameR, if_pos HVV.out])).mono ?_
    rintro e w3 ⟨u, u', rfl, o, b⟩
    have hl : (conjL t g : List Int).length = nm := HC1.out
    have hl' : (conjL f g : List Int).length = nm := HC2.out
    obtain ⟨Ad, cd, Ad', cd', rfl, rfl, r1, r2⟩ := o.form hl hl'
    have HRd := Lib.hid r1; have HRd' := Lib.hid r2; clear o hl hl' r1 r2
    replace HRm := Lib.hid (HRm.out.below b)
    replace HRm' := Lib.hid (HRm'.out.below b)
    replace HRg := Lib.hid (HRg.out.below b)
    replace BXm := Lib.hid (BXm.out.below b); replace cm_0 := BXm.out.cell0; replace cm_1 := BXm.out.cell1
    replace HB := Lib.hid (HB.out.trans (b.mono hs)); replace hs := HB.out.size
    clear b
    obtain ⟨w4, hWw4, hx, b, hz⟩ := Box.local_ w3 35 (.slice Ad nm cd) (.slice Ad' nm cd')
    have BXd := Lib.hid hx; clear hx hz
    replace HRm := Lib.hid (HRm.out.below b)
    replace HRm' := Lib.hid (HRm'.out.below b)
    replace HRg := Lib.hid (HRg.out.below b)
    replace HRd := Lib.hid (HRd.out.below b)
    replace HRd' := Lib.hid (HRd'.out.below b)
    replace BXm := Lib.hid (BXm.out.below b); replace cm_0 := BXm.out.cell0; replace cm_1 := BXm.out.cell1
    replace HB := Lib.hid (HB.out.trans (b.mono hs)); replace hs := HB.out.size
    clear b
    have cd_0 := BXd.out.cell0; have cd_1 := BXd.out.cell1
    go_wp2_with fail
    refine (spec_renameR w4 Am Am' nm nm cm cm' t f HRm.out HRm'.out (by omega) (by omega) Ag cg nm g HRg.out (by omega) (ok := true) (yt := conjL t g) (yf := conjL f g) (by rw [renameR, if_pos HVV.out])).mono ?_
    rintro e w5 ⟨u, u', rfl, o, b⟩
    have hl : (conjL t g : List Int).length = nm := HC1.out
    have hl' : (conjL f g : List Int).length = nm := HC2.out
    obtain ⟨Ae, ce, Ae', ce', rfl, rfl, r1, r2⟩ := o.form hl hl'
    have HRe := Lib.hid r1; have HRe' := Lib.hid r2; clear o hl hl' r1 r2
    replace HRm := Lib.hid (HRm.out.below b)
    replace HRm' := Lib.hid (HRm'.out.below b)
    replace HRg := Lib.hid (HRg.out.below b)
    replace HRd := Lib.hid (HRd.out.below b)
    replace HRd' := Lib.hid (HRd'.out.below b)
    replace BXm := Lib.hid (BXm.out.below b); replace cm_0 := BXm.out.cell0; replace cm_1 := BXm.out.cell1
    replace BXd := Lib.hid (BXd.out.below b); replace cd_0 := BXd.out.cell0; replace cd_1 := BXd.out.cell1
    replace HB := Lib.hid (HB.out.trans (b.mono hs)); replace hs := HB.out.size
    clear b
    obtain ⟨w6, hWw6, hx, b, hz⟩ := Box.local_ w5 35 (.slice Ae nm ce) (.slice Ae' nm ce')
    have BXe := Lib.hid hx; clear hx hz
    replace HRm := Lib.hid (HRm.out.below b)
    replace HRm' := Lib.hid (HRm'.out.below b)
    replace HRg := Lib.hid (HRg.out.below b)
    replace HRd := Lib.hid (HRd.out.below b)
    replace HRd' := Lib.hid (HRd'.out.below b)
    replace HRe := Lib.hid (HRe.out.below b)
    replace HRe' := Lib.hid (HRe'.out.below b)
    replace BXm := Lib.hid (BXm.out.below b); replace cm_0 := BXm.out.cell0; replace cm_1 := BXm.out.cell1
    replace BXd := Lib.hid (BXd.out.below b); replace cd_0 := BXd.out.cell0; replace cd_1 := BXd.out.cell1
    replace HB := Lib.hid (HB.out.trans (b.mono hs)); replace hs := HB.out.size
    clear b
    have ce_0 := BXe.out.cell0; have ce_1 := BXe.out.cell1
    go_wp2_with fail
    refine (same_map_yes w6 Ad Ad' Ae Ae' nm nm cd cd' nm nm ce ce' (conjL t g) (conjL f g) (conjL t g) (conjL f g) HRd.out HRd'.out HRe.out HRe'.out (by omega) (by omega) (by omega) (by omega) (rfl) (rfl)).mono ?_
    rintro e w7 ⟨rfl, b⟩
    replace HRm := Lib.hid (HRm.out.below b)
    replace HRm' := Lib.hid (HRm'.out.below b)
    replace HRg := Lib.hid (HRg.out.below b)
    replace HRd := Lib.hid (HRd.out.below b)
    replace HRd' := Lib.hid (HRd'.out.below b)
    replace HRe := Lib.hid (HRe.out.below b)
    replace HRe' := Lib.hid (HRe'.out.below b)
    replace BXm := Lib.hid (BXm.out.below b); replace cm_0 := BXm.out.cell0; replace cm_1 := BXm.out.cell1
    replace BXd := Lib.hid (BXd.out.below b); replace cd_0 := BXd.out.cell0; replace cd_1 := BXd.out.cell1
    replace BXe := Lib.hid (BXe.out.below b); replace ce_0 := BXe.out.cell0; replace ce_1 := BXe.out.cell1
    replace HB := Lib.hid (HB.out.trans (b.mono hs)); replace hs := HB.out.size
    clear b
    clear ce_0 ce_1
    clear HRe
    clear HRe'
    go_wp2_with fail
    refine (impl_backR w7 Ag cg nm g HRg.out (by omega) (ok := true) (ys := backL g) (by rw [backR, if_pos (vld_true HG.out)])).mono ?_
    rintro e w8 ⟨v, rfl, o, b⟩
    have hl : (backL g : List Int).length = nm := (backL_len _).trans HNg.out
    obtain ⟨Ak, ck, rfl, -, -⟩ := o.form' hl
    have HRk := Lib.hid (o.rd hl); clear o hl
    replace HRm := Lib.hid (HRm.out.below b)
    replace HRm' := Lib.hid (HRm'.out.below b)
    replace HRg := Lib.hid (HRg.out.below b)
    replace HRd := Lib.hid (HRd.out.below b)
    replace HRd' := Lib.hid (HRd'.out.below b)
    replace BXm := Lib.hid (BXm.out.below b); replace cm_0 := BXm.out.cell0; replace cm_1 := BXm.out.cell1
    replace BXd := Lib.hid (BXd.out.below b); replace cd_0 := BXd.out.cell0; replace cd_1 := BXd.out.cell1
    replace HB := Lib.hid (HB.out.trans (b.mono hs)); replace hs := HB.out.size
    clear b
    go_wp2_with fail
    refine (impl_renameR w8 Ad Ad' nm nm cd cd' (conjL t g) (conjL f g) HRd.out HRd'.out (by omega) (by omega) Ak ck nm (backL g) HRk.out (by omega) (ok := true) (yt := t) (yf := f) (by rw [renameR, if_pos ⟨mapV_iff.2 HRM.out, both_iff.2 ⟨HRM.out.turn, backL_vld HG.out, HC1.out.trans ((backL_len _).trans HNg.out).symm⟩⟩, conj_back HM.out.turn HG.out HGL.out, conj_back HM.out.flip HG.out HLF.out])).mono ?_
    rintro e w9 ⟨u, u', rfl, o, b⟩
    have hl : (t : List Int).length = nm := HNm.out
    have hl' : (f : List Int).length = nm := HNm'.out
    obtain ⟨Ax, cx, Ax', cx', rfl, rfl, r1, r2⟩ := o.form hl hl'
    have HRx := Lib.hid r1; have HRx' := Lib.hid r2; clear o hl hl' r1 r2
    replace HRm := Lib.hid (HRm.out.below b)
    replace HRm' := Lib.hid (HRm'.out.below b)
    replace HRg := Lib.hid (HRg.out.below b)
    replace HRd := Lib.hid (HRd.out.below b)
    replace HRd' := Lib.hid (HRd'.out.below b)
    replace HRk := Lib.hid (HRk.out.below b)
    replace BXm := Lib.hid (BXm.out.below b); replace cm_0 := BXm.out.cell0; replace cm_1 := BXm.out.cell1
    replace BXd := Lib.hid (BXd.out.below b); replace cd_0 := BXd.out.cell0; replace cd_1 := BXd.out.cell1
    replace HB := Lib.hid (HB.out.trans (b.mono hs)); replace hs := HB.out.size
    clear b
    obtain ⟨w10, hWw10, hx, b, hz⟩ := Box.local_ w9 35 (.slice Ax nm cx) (.slice Ax' nm cx')
    have BXx := Lib.hid hx; clear hx hz
    replace HRm := Lib.hid (HRm.out.below b)
    replace HRm' := Lib.hid (HRm'.out.below b)
    replace HRg := Lib.hid (HRg.out.below b)
    replace HRd := Lib.hid (HRd.out.below b)
    replace HRd' := Lib.hid (HRd'.out.below b)
    replace HRk := Lib.hid (HRk.out.below b)
    replace HRx := Lib.hid (HRx.out.below b)
    replace HRx' := Lib.hid (HRx'.out.below b)
    replace BXm := Lib.hid (BXm.out.below b); replace cm_0 := BXm.out.cell0; replace cm_1 := BXm.out.cell1
    replace BXd := Lib.hid (BXd.out.below b); replace cd_0 := BXd.out.cell0; replace cd_1 := BXd.out.cell1
    replace HB := Lib.hid (HB.out.trans (b.mono hs)); replace hs := HB.out.size
    clear b
    have cx_0 := BXx.out.cell0; have cx_1 := BXx.out.cell1
    go_wp2_with fail
    refine (impl_formR w10 Am Am' nm nm cm cm' t f HRm.out HRm'.out (by omega) (by omega) (R : Int) (hwR.out) (ok := true) (yt := formT t f R) (yf := formF t f R) (HF1.out)).mono ?_
    rintro e w11 ⟨u, u', rfl, o, b⟩
    have hl : (formT t f R : List Int).length = nm := HT1.out
    have hl' : (formF t f R : List Int).length = nm := HT2.out
    obtain ⟨Aa, ca, Aa', ca', rfl, rfl, r1, r2⟩ := o.form hl hl'
    have HRa := Lib.hid r1; have HRa' := Lib.hid r2; clear o hl hl' r1 r2
    replace HRm := Lib.hid (HRm.out.below b)
    replace HRm' := Lib.hid (HRm'.out.below b)
    replace HRg := Lib.hid (HRg.out.below b)
    replace HRd := Lib.hid (HRd.out.below b)
    replace HRd' := Lib.hid (HRd'.out.below b)
    replace HRk := Lib.hid (HRk.out.below b)
    replace HRx := Lib.hid (HRx.out.below b)
    replace HRx' := Lib.hid (HRx'.out.below b)
    replace BXm := Lib.hid (BXm.out.below b); replace cm_0 := BXm.out.cell0; replace cm_1 := BXm.out.cell1
    replace BXd := Lib.hid (BXd.out.below b); replace cd_0 := BXd.out.cell0; replace cd_1 := BXd.out.cell1
    replace BXx := Lib.hid (BXx.out.below b); replace cx_0 := BXx.out.cell0; replace cx_1 := BXx.out.cell1
    replace HB := Lib.hid (HB.out.trans (b.mono hs)); replace hs := HB.out.size
    clear b
    obtain ⟨w12, hWw12, hx, b, hz⟩ := Box.local_ w11 35 (.slice Aa nm ca) (.slice Aa' nm ca')
    have BXa := Lib.hid hx; clear hx hz
    replace HRm := Lib.hid (HRm.out.below b)
    replace HRm' := Lib.hid (HRm'.out.below b)
    replace HRg := Lib.hid (HRg.out.below b)
    replace HRd := Lib.hid (HRd.out.below b)
    replace HRd' := Lib.hid (HRd'.out.below b)
    replace HRk := Lib.hid (HRk.out.below b)
    replace HRx := Lib.hid (HRx.out.below b)
    replace HRx' := Lib.hid (HRx'.out.below b)
    replace HRa := Lib.hid (HRa.out.below b)
    replace HRa' := Lib.hid (HRa'.out.below b)
    replace BXm := Lib.hid (BXm.out.below b); replace cm_0 := BXm.out.cell0; replace cm_1 := BXm.out.cell1
    replace BXd := Lib.hid (BXd.out.below b); replace cd_0 := BXd.out.cell0; replace cd_1 := BXd.out.cell1
    replace BXx := Lib.hid (BXx.out.below b); replace cx_0 := BXx.out.cell0; replace cx_1 := BXx.out.cell1
    replace HB := Lib.hid (HB.out.trans (b.mono hs)); replace hs := HB.out.size
    clear b
    have ca_0 := BXa.out.cell0; have ca_1 := BXa.out.cell1
    obtain ⟨ag, rfl, hgc⟩ := HRg.out.at_ hRn
    rw [HGS.out] at hgc
    go_wp2_with fail
    have hgn : (w12.alloc (.cells #[.slice none 0 0, .slice none 0 0] 35)).cell? (ag.add R) = some (.int .i64 (S : Int)) := by have := (HRg.out.alloc (.cells #[.slice none 0 0, .slice none 0 0] 35)).get hRn; rwa [HGS.out] at this
    have hdn0 := (BXd.out.below ((Below.refl _ _).alloc (Nat.le_refl _) (.cells #[.slice none 0 0, .slice none 0 0] 35))).cell0; have hdn1 := (BXd.out.below ((Below.refl _ _).alloc (Nat.le_refl _) (.cells #[.slice none 0 0, .slice none 0 0] 35))).cell1
    first | (go_region_with (first
      | (go_at_call 44; refine (impl_formR _ Ad Ad' nm nm cd cd' (conjL t g) (conjL f g) (HRd.out.drewN _) (HRd'.out.drewN _) (by omega) (by omega) (S : Int) hwS.out (ok := true) (yt := formT t f R) (yf := formF t f R) (HF2.out)).mono ?_; rintro e w13 ⟨u, u', rfl, o, b⟩; obtain ⟨Ab, cb, Ab', cb', rfl, rfl, r1, r2⟩ := o.form HT1.out HT2.out; obtain ⟨wb, hWb, hx, bb, hz⟩ := Box.local_ w13 35 (.slice Ab nm cb) (.slice Ab' nm cb'); have BALL : Hid (Below w12.heap.size w12 wb) := (Below.of_drewN b).trans (bb.mono (Below.of_drewN b).size); have RB1 := Lib.hid (r1.below bb); have RB2 := Lib.hid (r2.below bb); have cb_0 := hx.cell0; have cb_1 := hx.cell1; have BXb := Lib.hid hx; clear o b r1 r2 hx hz bb)
      | (go_at_call 44; refine (impl_formR _ Ad Ad' nm nm cd cd' (conjL t g) (conjL f g) ((HRd.out.alloc _).drewN _) ((HRd'.out.alloc _).drewN _) (by omega) (by omega) (S : Int) hwS.out (ok := true) (yt := formT t f R) (yf := formF t f R) (HF2.out)).mono ?_; rintro e w13 ⟨u, u', rfl, o, b⟩; obtain ⟨Ab, cb, Ab', cb', rfl, rfl, r1, r2⟩ := o.form HT1.out HT2.out; have hal := o.above (x := w12.heap.size) HT1.out HT2.out hn1 hn1 (by show w12.heap.size < (w12.alloc _).heap.size; simp); have hb0 : Below w12.heap.size w12 w13 := ((Below.refl _ _).alloc (Nat.le_refl _) _).trans ((Below.of_drewN b).mono (by simp)); have hbx := (Box.new w12 35 (.slice none 0 0) (.slice none 0 0)).below (Below.of_drewN b); have e0 := hbx.cell0; have e1 := hbx.cell1; have e2 := hbx.frozen 0; have e3 := hbx.frozen 1; obtain ⟨hq1, hq2⟩ := hbx.store2 (.slice Ab nm cb) (.slice Ab' nm cb'); obtain ⟨wb, hWb⟩ : ∃ wb, (w13.setCell ⟨w12.heap.size, 0, none⟩ (.slice Ab nm cb)).setCell ⟨w12.heap.size, 1, none⟩ (.slice Ab' nm cb') = wb := ⟨_, rfl⟩; rw [hWb] at hq1 hq2; have BALL : Hid (Below w12.heap.size w12 wb) := hb0.grown hq2 hb0.size (fun k hk => by cases hk; exact Nat.le_refl _); have RB1 := Lib.hid (r1.gr hq2 (fun ad e _ => by have := hal.1 ad e; omega)); have RB2 := Lib.hid (r2.gr hq2 (fun ad e _ => by have := hal.2 ad e; omega)); have cb_0 := hq1.cell0; have cb_1 := hq1.cell1; have BXb := Lib.hid hq1; clear o b r1 r2 hal hb0 hbx hq1 hq2))) | fail
    all_goals
      have b := BALL.out
      replace HRm := Lib.hid (HRm.out.below b)
      replace HRm' := Lib.hid (HRm'.out.below b)
      replace HRg := Lib.hid (HRg.out.below b)
      replace HRd := Lib.hid (HRd.out.below b)
      replace HRd' := Lib.hid (HRd'.out.below b)
      replace HRk := Lib.hid (HRk.out.below b)
      replace HRx := Lib.hid (HRx.out.below b)
      replace HRx' := Lib.hid (HRx'.out.below b)
      replace HRa := Lib.hid (HRa.out.below b)
      replace HRa' := Lib.hid (HRa'.out.below b)
      replace BXm := Lib.hid (BXm.out.below b); replace cm_0 := BXm.out.cell0; replace cm_1 := BXm.out.cell1
      replace BXd := Lib.hid (BXd.out.below b); replace cd_0 := BXd.out.cell0; replace cd_1 := BXd.out.cell1
      replace BXx := Lib.hid (BXx.out.below b); replace cx_0 := BXx.out.cell0; replace cx_1 := BXx.out.cell1
      replace BXa := Lib.hid (BXa.out.below b); replace ca_0 := BXa.out.cell0; replace ca_1 := BXa.out.cell1
      replace HB := Lib.hid (HB.out.trans (b.mono hs)); replace hs := HB.out.size
      clear b
      have HRb := RB1; have HRb' := RB2
      go_wp2_with fail
      refine (same_map_yes wb Ax Ax' Am Am' nm nm cx cx' nm nm cm cm' t f t f HRx.out HRx'.out HRm.out HRm'.out (by omega) (by omega) (by omega) (by omega) (rfl) (rfl)).mono ?_
      rintro e w14 ⟨rfl, b⟩
      replace HRm := Lib.hid (HRm.out.below b)
      replace HRm' := Lib.hid (HRm'.out.below b)
      replace HRg := Lib.hid (HRg.out.below b)
      replace HRd := Lib.hid (HRd.out.below b)
      replace HRd' := Lib.hid (HRd'.out.below b)
      replace HRk := Lib.hid (HRk.out.below b)
      replace HRx := Lib.hid (HRx.out.below b)
      replace HRx' := Lib.hid (HRx'.out.below b)
      replace HRa := Lib.hid (HRa.out.below b)
      replace HRa' := Lib.hid (HRa'.out.below b)
      replace HRb := Lib.hid (HRb.out.below b)
      replace HRb' := Lib.hid (HRb'.out.below b)
      replace BXm := Lib.hid (BXm.out.below b); replace cm_0 := BXm.out.cell0; replace cm_1 := BXm.out.cell1
      replace BXd := Lib.hid (BXd.out.below b); replace cd_0 := BXd.out.cell0; replace cd_1 := BXd.out.cell1
      replace BXx := Lib.hid (BXx.out.below b); replace cx_0 := BXx.out.cell0; replace cx_1 := BXx.out.cell1
      replace BXa := Lib.hid (BXa.out.below b); replace ca_0 := BXa.out.cell0; replace ca_1 := BXa.out.cell1
      replace BXb := Lib.hid (BXb.out.below b); replace cb_0 := BXb.out.cell0; replace cb_1 := BXb.out.cell1
      replace HB := Lib.hid (HB.out.trans (b.mono hs)); replace hs := HB.out.size
      clear b
      go_wp2_with fail
      refine (same_map_yes w14 Aa Aa' Ab Ab' nm nm ca ca' nm nm cb cb' (formT t f R) (formF t f R) (formT t f R) (formF t f R) HRa.out HRa'.out HRb.out HRb'.out (by omega) (by omega) (by omega) (by omega) (rfl) (rfl)).mono ?_
      rintro e w15 ⟨rfl, b⟩
      replace HRm := Lib.hid (HRm.out.below b)
      replace HRm' := Lib.hid (HRm'.out.below b)
      replace HRg := Lib.hid (HRg.out.below b)
      replace HRd := Lib.hid (HRd.out.below b)
      replace HRd' := Lib.hid (HRd'.out.below b)
      replace HRk := Lib.hid (HRk.out.below b)
      replace HRx := Lib.hid (HRx.out.below b)
      replace HRx' := Lib.hid (HRx'.out.below b)
      replace HRa := Lib.hid (HRa.out.below b)
      replace HRa' := Lib.hid (HRa'.out.below b)
      replace HRb := Lib.hid (HRb.out.below b)
      replace HRb' := Lib.hid (HRb'.out.below b)
      replace BXm := Lib.hid (BXm.out.below b); replace cm_0 := BXm.out.cell0; replace cm_1 := BXm.out.cell1
      replace BXd := Lib.hid (BXd.out.below b); replace cd_0 := BXd.out.cell0; replace cd_1 := BXd.out.cell1
      replace BXx := Lib.hid (BXx.out.below b); replace cx_0 := BXx.out.cell0; replace cx_1 := BXx.out.cell1
      replace BXa := Lib.hid (BXa.out.below b); replace ca_0 := BXa.out.cell0; replace ca_1 := BXa.out.cell1
      replace BXb := Lib.hid (BXb.out.below b); replace cb_0 := BXb.out.cell0; replace cb_1 := BXb.out.cell1
      replace HB := Lib.hid (HB.out.trans (b.mono hs)); replace hs := HB.out.size
      clear b
      go_wp2_with fail
      refine (impl_sameR w15 Am Am' nm nm cm cm' t f HRm.out HRm'.out (by omega) (by omega) Ad Ad' nm nm cd cd' (conjL t g) (conjL f g) HRd.out HRd'.out (by omega) (by omega) HSM.out).mono ?_
      rintro e w16 ⟨rfl, b⟩
      replace HRm := Lib.hid (HRm.out.below b)
      replace HRm' := Lib.hid (HRm'.out.below b)
      replace HRg := Lib.hid (HRg.out.below b)
      replace HRd := Lib.hid (HRd.out.below b)
      replace HRd' := Lib.hid (HRd'.out.below b)
      replace HRk := Lib.hid (HRk.out.below b)
      replace HRx := Lib.hid (HRx.out.below b)
      replace HRx' := Lib.hid (HRx'.out.below b)
      replace HRa := Lib.hid (HRa.out.below b)
      replace HRa' := Lib.hid (HRa'.out.below b)
      replace HRb := Lib.hid (HRb.out.below b)
      replace HRb' := Lib.hid (HRb'.out.below b)
      replace BXm := Lib.hid (BXm.out.below b); replace cm_0 := BXm.out.cell0; replace cm_1 := BXm.out.cell1
      replace BXd := Lib.hid (BXd.out.below b); replace cd_0 := BXd.out.cell0; replace cd_1 := BXd.out.cell1
      replace BXx := Lib.hid (BXx.out.below b); replace cx_0 := BXx.out.cell0; replace cx_1 := BXx.out.cell1
      replace BXa := Lib.hid (BXa.out.below b); replace ca_0 := BXa.out.cell0; replace ca_1 := BXa.out.cell1
      replace BXb := Lib.hid (BXb.out.below b); replace cb_0 := BXb.out.cell0; replace cb_1 := BXb.out.cell1
      replace HB := Lib.hid (HB.out.trans (b.mono hs)); replace hs := HB.out.size
      clear b
      go_wp2_with fail
      go_ret
      exact ⟨rfl, HB.out⟩
  · have HV := Lib.hid hv
    go_wp2_with fail
    refine (impl_renameR w2 Am Am' nm nm' cm cm' t f HRm.out HRm'.out (by omega) (by omega) Ag cg ng g HRg.out (by omega) (ok := false) (yt := []) (yf := []) (by rw [renameR, if_neg HV.out])).mono ?_
    rintro e w3 ⟨u, u', rfl, o, b⟩
    have hl : ([] : List Int).length = 0 := rfl
    have hl' : ([] : List Int).length = 0 := rfl
    obtain ⟨Ad, cd, Ad', cd', rfl, rfl, r1, r2⟩ := o.form hl hl'
    have HRd := Lib.hid r1; have HRd' := Lib.hid r2; clear o hl hl' r1 r2
    replace HRm := Lib.hid (HRm.out.below b)
    replace HRm' := Lib.hid (HRm'.out.below b)
    replace HRg := Lib.hid (HRg.out.below b)
    replace BXm := Lib.hid (BXm.out.below b); replace cm_0 := BXm.out.cell0; replace cm_1 := BXm.out.cell1
    replace HB := Lib.hid (HB.out.trans (b.mono hs)); replace hs := HB.out.size
    clear b
    obtain ⟨w4, hWw4, hx, b, hz⟩ := Box.local_ w3 35 (.slice Ad 0 cd) (.slice Ad' 0 cd')
    have BXd := Lib.hid hx; clear hx hz
    replace HRm := Lib.hid (HRm.out.below b)
    replace HRm' := Lib.hid (HRm'.out.below b)
    replace HRg := Lib.hid (HRg.out.below b)
    replace HRd := Lib.hid (HRd.out.below b)
    replace HRd' := Lib.hid (HRd'.out.below b)
    replace BXm := Lib.hid (BXm.out.below b); replace cm_0 := BXm.out.cell0; replace cm_1 := BXm.out.cell1
    replace HB := Lib.hid (HB.out.trans (b.mono hs)); replace hs := HB.out.size
    clear b
    have cd_0 := BXd.out.cell0; have cd_1 := BXd.out.cell1
    go_wp2_with fail
    refine (spec_renameR w4 Am Am' nm nm' cm cm' t f HRm.out HRm'.out (by omega) (by omega) Ag cg ng g HRg.out (by omega) (ok := false) (yt := []) (yf := []) (by rw [renameR, if_neg HV.out])).mono ?_
    rintro e w5 ⟨u, u', rfl, o, b⟩
    have hl : ([] : List Int).length = 0 := rfl
    have hl' : ([] : List Int).length = 0 := rfl
    obtain ⟨Ae, ce, Ae', ce', rfl, rfl, r1, r2⟩ := o.form hl hl'
    have HRe := Lib.hid r1; have HRe' := Lib.hid r2; clear o hl hl' r1 r2
    replace HRm := Lib.hid (HRm.out.below b)
    replace HRm' := Lib.hid (HRm'.out.below b)
    replace HRg := Lib.hid (HRg.out.below b)
    replace HRd := Lib.hid (HRd.out.below b)
    replace HRd' := Lib.hid (HRd'.out.below b)
    replace BXm := Lib.hid (BXm.out.below b); replace cm_0 := BXm.out.cell0; replace cm_1 := BXm.out.cell1
    replace BXd := Lib.hid (BXd.out.below b); replace cd_0 := BXd.out.cell0; replace cd_1 := BXd.out.cell1
    replace HB := Lib.hid (HB.out.trans (b.mono hs)); replace hs := HB.out.size
    clear b
    obtain ⟨w6, hWw6, hx, b, hz⟩ := Box.local_ w5 35 (.slice Ae 0 ce) (.slice Ae' 0 ce')
    have BXe := Lib.hid hx; clear hx hz
    replace HRm := Lib.hid (HRm.out.below b)
    replace HRm' := Lib.hid (HRm'.out.below b)
    replace HRg := Lib.hid (HRg.out.below b)
    replace HRd := Lib.hid (HRd.out.below b)
    replace HRd' := Lib.hid (HRd'.out.below b)
    replace HRe := Lib.hid (HRe.out.below b)
    replace HRe' := Lib.hid (HRe'.out.below b)
    replace BXm := Lib.hid (BXm.out.below b); replace cm_0 := BXm.out.cell0; replace cm_1 := BXm.out.cell1
    replace BXd := Lib.hid (BXd.out.below b); replace cd_0 := BXd.out.cell0; replace cd_1 := BXd.out.cell1
    replace HB := Lib.hid (HB.out.trans (b.mono hs)); replace hs := HB.out.size
    clear b
    have ce_0 := BXe.out.cell0; have ce_1 := BXe.out.cell1
    go_wp2_with fail
    refine (same_map_yes w6 Ad Ad' Ae Ae' 0 0 cd cd' 0 0 ce ce' [] [] [] [] HRd.out HRd'.out HRe.out HRe'.out (by omega) (by omega) (by omega) (by omega) (rfl) (rfl)).mono ?_
    rintro e w7 ⟨rfl, b⟩
    replace HRm := Lib.hid (HRm.out.below b)
    replace HRm' := Lib.hid (HRm'.out.below b)
    replace HRg := Lib.hid (HRg.out.below b)
    replace HRd := Lib.hid (HRd.out.below b)
    replace HRd' := Lib.hid (HRd'.out.below b)
    replace HRe := Lib.hid (HRe.out.below b)
    replace HRe' := Lib.hid (HRe'.out.below b)
    replace BXm := Lib.hid (BXm.out.below b); replace cm_0 := BXm.out.cell0; replace cm_1 := BXm.out.cell1
    replace BXd := Lib.hid (BXd.out.below b); replace cd_0 := BXd.out.cell0; replace cd_1 := BXd.out.cell1
    replace BXe := Lib.hid (BXe.out.below b); replace ce_0 := BXe.out.cell0; replace ce_1 := BXe.out.cell1
    replace HB := Lib.hid (HB.out.trans (b.mono hs)); replace hs := HB.out.size
    clear b
    go_wp2_with fail
    refine (same_map_yes w7 Ad Ad' Ae Ae' 0 0 cd cd' 0 0 ce ce' [] [] [] [] HRd.out HRd'.out HRe.out HRe'.out (by omega) (by omega) (by omega) (by omega) (rfl) (rfl)).mono ?_
    rintro e w8 ⟨rfl, b⟩
    replace HRm := Lib.hid (HRm.out.below b)
    replace HRm' := Lib.hid (HRm'.out.below b)
    replace HRg := Lib.hid (HRg.out.below b)
    replace HRd := Lib.hid (HRd.out.below b)
    replace HRd' := Lib.hid (HRd'.out.below b)
    replace HRe := Lib.hid (HRe.out.below b)
    replace HRe' := Lib.hid (HRe'.out.below b)
    replace BXm := Lib.hid (BXm.out.below b); replace cm_0 := BXm.out.cell0; replace cm_1 := BXm.out.cell1
    replace BXd := Lib.hid (BXd.out.below b); replace cd_0 := BXd.out.cell0; replace cd_1 := BXd.out.cell1
    replace BXe := Lib.hid (BXe.out.below b); replace ce_0 := BXe.out.cell0; replace ce_1 := BXe.out.cell1
    replace HB := Lib.hid (HB.out.trans (b.mono hs)); replace hs := HB.out.size
    clear b
    go_wp2_with fail
    go_ret
    exact ⟨rfl, HB.out⟩

end Go.Proofs.Yteajaikgeephmaa
