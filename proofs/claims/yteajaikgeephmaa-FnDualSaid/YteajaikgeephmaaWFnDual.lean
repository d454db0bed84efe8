/-
  FnDual: the walk of the law.
-/
import Derived.Test.YteajaikgeephmaaLawMap
import Derived.Test.YteajaikgeephmaaDrawMs
import Derived.Test.YteajaikgeephmaaPar3
import Derived.Test.YteajaikgeephmaaDual
import Derived.Test.YteajaikgeephmaaRename
import Derived.Test.YteajaikgeephmaaCounts
namespace Go.Proofs.Yteajaikgeephmaa
open Go.RowKit

set_option maxRecDepth 100000 in
set_option maxHeartbeats 3200000 in
theorem walk_FnDual (A0 : Option Addr) (n0 c0 : Nat) (bs0 : List Int) (A1 : Option Addr) (n1 c1 : Nat) (bs1 : List Int) (w : World) (h0 : RdB w A0 n0 bs0) (hm0 : n0 ≤ maxLen ∧ n0 ≤ c0) (h1 : RdB w A1 n1 bs1) (hm1 : n1 ≤ maxLen ∧ n1 ≤ c1) :
    Calls Try.prog 6 #[.slice A0 n0 c0, .slice A1 n1 c1] w fun e w' => e = .returned (.bool true) ∧ Below w.heap.size w w' := by
  have HB0_0 := Lib.hid h0; have hc0 := hm0.2; have hml0 := hm0.1; clear h0 hm0; unfold maxLen at hml0
  have HB0_1 := Lib.hid h1; have hc1 := hm1.2; have hml1 := hm1.1; clear h1 hm1; unfold maxLen at hml1
  by_cases hbig0 : 1048576 < n0
  · have hd : decide ((1048576 : Int) < n0) = true := by simp; omega
    go_enter Try.func6, Try.ntmps6
    go_wp2
    go_ret
    exact ⟨rfl, Below.refl _ _⟩
  have hd0 : decide ((1048576 : Int) < n0) = false := by simp; omega
  have hnb0 : n0 ≤ 1048576 := by omega
  clear hbig0
  by_cases hbig1 : 1048576 < n1
  · have hd : decide ((1048576 : Int) < n1) = true := by simp; omega
    go_enter Try.func6, Try.ntmps6
    go_wp2
    go_ret
    exact ⟨rfl, Below.refl _ _⟩
  have hd1 : decide ((1048576 : Int) < n1) = false := by simp; omega
  have hnb1 : n1 ≤ 1048576 := by omega
  clear hbig1
  go_enter Try.func6, Try.ntmps6
  go_wp2_with fail
  refine (drawMapDual_any w A0 n0 c0 bs0 HB0_0.out hnb0 hc0).mono ?_
  rintro e w1 ⟨Am, Am', nm, nm', cm, cm', t, f, rfl, r1, r2, hlm, hlm', b⟩
  have HNm := Lib.hid r1.1; have HNm' := Lib.hid r2.1; have HRm := Lib.hid r1; have HRm' := Lib.hid r2; clear r1 r2
  have HB := Lib.hid b; have hs := b.size; clear b
  obtain ⟨w2, hWw2, hx, b, hz⟩ := Box.local_ w1 35 (.slice Am nm cm) (.slice Am' nm' cm')
  have BXm := Lib.hid hx; clear hx hz
  replace HRm := Lib.hid (HRm.out.below b)
  replace HRm' := Lib.hid (HRm'.out.below b)
  replace HB := Lib.hid (HB.out.trans (b.mono hs)); replace hs := HB.out.size
  clear b
  have cm_0 := BXm.out.cell0; have cm_1 := BXm.out.cell1
  by_cases hv : mapV t f = true
  · have HM := Lib.hid (mapV_iff.1 hv)
    obtain rfl : nm = nm' := by have := HM.out.len; rw [HNm.out, HNm'.out] at this; exact this
    have hn1 : 1 ≤ nm := by have := HM.out.turn.1; rw [HNm.out] at this; exact this
    have HD : Hid (IsMap (mulL f t) f) := HM.out.dual
    have HDD : Hid (mulL f (mulL f t) = t) := dual_dual HM.out
    obtain ⟨V, hV⟩ : ∃ V, cntV t = V := ⟨_, rfl⟩
    obtain ⟨E, hE⟩ : ∃ E, cntE f = E := ⟨_, rfl⟩
    obtain ⟨F, hF⟩ : ∃ F, cntF t f = F := ⟨_, rfl⟩
    have HV := Lib.hid hV; have HE := Lib.hid hE; have HF := Lib.hid hF; clear hV hE hF
    have HVd : Hid (cntV (mulL f t) = F) := HF.out
    have HFd : Hid (cntF (mulL f t) f = V) := by rw [Hid, cntF, HDD.out]; exact HV.out
    have ht5 : ((n1 : Nat) : Int).tmod 5 = ((n1 % 5 : Nat) : Int) := rfl
    obtain ⟨j, hj⟩ : ∃ j, n1 % 5 = j := ⟨_, rfl⟩
    have hj5 : j < 5 := by omega
    rw [hj] at ht5
    clear hj
    go_wp2_with fail
    refine (impl_dualR w2 Am Am' nm nm cm cm' t f HRm.out HRm'.out (by omega) (by omega) (ok := true) (yt := mulL f t) (yf := f) (by rw [dualR, if_pos (mapV_iff.2 HM.out)])).mono ?_
    rintro e w3 ⟨u, u', rfl, o, b⟩
    have hl : (mulL f t : List Int).length = nm := (mulL_len _ _).trans HNm'.out
    have hl' : (f : List Int).length = nm := HNm'.out
    obtain ⟨Ad, cd, Ad', cd', rfl, rfl, r1, r2⟩ := o.form hl hl'
    have HRd := Lib.hid r1; have HRd' := Lib.hid r2; clear o hl hl' r1 r2
    replace HRm := Lib.hid (HRm.out.below b)
    replace HRm' := Lib.hid (HRm'.out.below b)
    replace BXm := Lib.hid (BXm.out.below b); replace cm_0 := BXm.out.cell0; replace cm_1 := BXm.out.cell1
    replace HB := Lib.hid (HB.out.trans (b.mono hs)); replace hs := HB.out.size
    clear b
    obtain ⟨w4, hWw4, hx, b, hz⟩ := Box.local_ w3 35 (.slice Ad nm cd) (.slice Ad' nm cd')
    have BXd := Lib.hid hx; clear hx hz
    replace HRm := Lib.hid (HRm.out.below b)
    replace HRm' := Lib.hid (HRm'.out.below b)
    replace HRd := Lib.hid (HRd.out.below b)
    replace HRd' := Lib.hid (HRd'.out.below b)
    replace BXm := Lib.hid (BXm.out.below b); replace cm_0 := BXm.out.cell0; replace cm_1 := BXm.out.cell1
    replace HB := Lib.hid (HB.out.trans (b.mono hs)); replace hs := HB.out.size
    clear b
    have cd_0 := BXd.out.cell0; have cd_1 := BXd.out.cell1
    go_wp2_with fail
    refine (spec_dualR w4 Am Am' nm nm cm cm' t f HRm.out HRm'.out (by omega) (by omega) (ok := true) (yt := mulL f t) (yf := f) (by rw [dualR, if_pos (mapV_iff.2 HM.out)])).mono ?_
    rintro e w5 ⟨u, u', rfl, o, b⟩
    have hl : (mulL f t : List Int).length = nm := (mulL_len _ _).trans HNm'.out
    have hl' : (f : List Int).length = nm := HNm'.out
    obtain ⟨Ae, ce, Ae', ce', rfl, rfl, r1, r2⟩ := o.form hl hl'
    have HRe := Lib.hid r1; have HRe' := Lib.hid r2; clear o hl hl' r1 r2
    replace HRm := Lib.hid (HRm.out.below b)
    replace HRm' := Lib.hid (HRm'.out.below b)
    replace HRd := Lib.hid (HRd.out.below b)
    replace HRd' := Lib.hid (HRd'.out.below b)
    replace BXm := Lib.hid (BXm.out.below b); replace cm_0 := BXm.out.cell0; replace cm_1 := BXm.out.cell1
    replace BXd := Lib.hid (BXd.out.below b); replace cd_0 := BXd.out.cell0; replace cd_1 := BXd.out.cell1
    replace HB := Lib.hid (HB.out.trans (b.mono hs)); replace hs := HB.out.size
    clear b
    obtain ⟨w6, hWw6, hx, b, hz⟩ := Box.local_ w5 35 (.slice Ae nm ce) (.slice Ae' nm ce')
    have BXe := Lib.hid hx; clear hx hz
    replace HRm := Lib.hid (HRm.out.below b)
    replace HRm' := Lib.hid (HRm'.out.below b)
    replace HRd := Lib.hid (HRd.out.below b)
    replace HRd' := Lib.hid (HRd'.out.below b)
    replace HRe := Lib.hid (HRe.out.below b)
    replace HRe' := Lib.hid (HRe'.out.below b)
    replace BXm := Lib.hid (BXm.out.below b); replace cm_0 := BXm.out.cell0; replace cm_1 := BXm.out.cell1
    replace BXd := Lib.hid (BXd.out.below b); replace cd_0 := BXd.out.cell0; replace cd_1 := BXd.out.cell1
    replace HB := Lib.hid (HB.out.trans (b.mono hs)); replace hs := HB.out.size
    clear b
    have ce_0 := BXe.out.cell0; have ce_1 := BXe.out.cell1
    go_wp2_with fail
    refine (same_map_yes w6 Ad Ad' Ae Ae' nm nm cd cd' nm nm ce ce' (mulL f t) f (mulL f t) f HRd.out HRd'.out HRe.out HRe'.out (by omega) (by omega) (by omega) (by omega) (rfl) (rfl)).mono ?_
    rintro e w7 ⟨rfl, b⟩
    replace HRm := Lib.hid (HRm.out.below b)
    replace HRm' := Lib.hid (HRm'.out.below b)
    replace HRd := Lib.hid (HRd.out.below b)
    replace HRd' := Lib.hid (HRd'.out.below b)
    replace HRe := Lib.hid (HRe.out.below b)
    replace HRe' := Lib.hid (HRe'.out.below b)
    replace BXm := Lib.hid (BXm.out.below b); replace cm_0 := BXm.out.cell0; replace cm_1 := BXm.out.cell1
    replace BXd := Lib.hid (BXd.out.below b); replace cd_0 := BXd.out.cell0; replace cd_1 := BXd.out.cell1
    replace BXe := Lib.hid (BXe.out.below b); replace ce_0 := BXe.out.cell0; replace ce_1 := BXe.out.cell1
    replace HB := Lib.hid (HB.out.trans (b.mono hs)); replace hs := HB.out.size
    clear b
    clear ce_0 ce_1
    clear HRe
    clear HRe'
    go_wp2_with fail
    refine (impl_dualR w7 Ad Ad' nm nm cd cd' (mulL f t) f HRd.out HRd'.out (by omega) (by omega) (ok := true) (yt := t) (yf := f) (by rw [dualR, if_pos (mapV_iff.2 HD.out), HDD.out])).mono ?_
    rintro e w8 ⟨u, u', rfl, o, b⟩
    have hl : (t : List Int).length = nm := HNm.out
    have hl' : (f : List Int).length = nm := HNm'.out
    obtain ⟨Ax, cx, Ax', cx', rfl, rfl, r1, r2⟩ := o.form hl hl'
    have HRx := Lib.hid r1; have HRx' := Lib.hid r2; clear o hl hl' r1 r2
    replace HRm := Lib.hid (HRm.out.below b)
    replace HRm' := Lib.hid (HRm'.out.below b)
    replace HRd := Lib.hid (HRd.out.below b)
    replace HRd' := Lib.hid (HRd'.out.below b)
    replace BXm := Lib.hid (BXm.out.below b); replace cm_0 := BXm.out.cell0; replace cm_1 := BXm.out.cell1
    replace BXd := Lib.hid (BXd.out.below b); replace cd_0 := BXd.out.cell0; replace cd_1 := BXd.out.cell1
    replace HB := Lib.hid (HB.out.trans (b.mono hs)); replace hs := HB.out.size
    clear b
    obtain ⟨w9, hWw9, hx, b, hz⟩ := Box.local_ w8 35 (.slice Ax nm cx) (.slice Ax' nm cx')
    have BXx := Lib.hid hx; clear hx hz
    replace HRm := Lib.hid (HRm.out.below b)
    replace HRm' := Lib.hid (HRm'.out.below b)
    replace HRd := Lib.hid (HRd.out.below b)
    replace HRd' := Lib.hid (HRd'.out.below b)
    replace HRx := Lib.hid (HRx.out.below b)
    replace HRx' := Lib.hid (HRx'.out.below b)
    replace BXm := Lib.hid (BXm.out.below b); replace cm_0 := BXm.out.cell0; replace cm_1 := BXm.out.cell1
    replace BXd := Lib.hid (BXd.out.below b); replace cd_0 := BXd.out.cell0; replace cd_1 := BXd.out.cell1
    replace HB := Lib.hid (HB.out.trans (b.mono hs)); replace hs := HB.out.size
    clear b
    have cx_0 := BXx.out.cell0; have cx_1 := BXx.out.cell1
    go_wp2_with fail
    refine (impl_countsR w9 Am Am' nm nm cm cm' t f HRm.out HRm'.out (by omega) (by omega) (ok := true) (ys := [(V : Int), (E : Int), (F : Int)]) (by rw [countsR, if_pos (mapV_iff.2 HM.out), HV.out, HE.out, HF.out])).mono ?_
    rintro e w10 ⟨v, rfl, o, b⟩
    have hl : ([(V : Int), (E : Int), (F : Int)] : List Int).length = 3 := rfl
    obtain ⟨Aa, ca, rfl, -, -⟩ := o.form' hl
    obtain ⟨ga, rfl, -, -, -⟩ := o.cellAt hl (k := 0) (by omega)
    have HRa := Lib.hid (o.rd hl); clear o hl
    replace HRm := Lib.hid (HRm.out.below b)
    replace HRm' := Lib.hid (HRm'.out.below b)
    replace HRd := Lib.hid (HRd.out.below b)
    replace HRd' := Lib.hid (HRd'.out.below b)
    replace HRx := Lib.hid (HRx.out.below b)
    replace HRx' := Lib.hid (HRx'.out.below b)
    replace BXm := Lib.hid (BXm.out.below b); replace cm_0 := BXm.out.cell0; replace cm_1 := BXm.out.cell1
    replace BXd := Lib.hid (BXd.out.below b); replace cd_0 := BXd.out.cell0; replace cd_1 := BXd.out.cell1
    replace BXx := Lib.hid (BXx.out.below b); replace cx_0 := BXx.out.cell0; replace cx_1 := BXx.out.cell1
    replace HB := Lib.hid (HB.out.trans (b.mono hs)); replace hs := HB.out.size
    clear b
    go_wp2_with fail
    refine (impl_countsR w10 Ad Ad' nm nm cd cd' (mulL f t) f HRd.out HRd'.out (by omega) (by omega) (ok := true) (ys := [(F : Int), (E : Int), (V : Int)]) (by rw [countsR, if_pos (mapV_iff.2 HD.out), HVd.out, HE.out, HFd.out])).mono ?_
    rintro e w11 ⟨v, rfl, o, b⟩
    have hl : ([(F : Int), (E : Int), (V : Int)] : List Int).length = 3 := rfl
    obtain ⟨Ab, cb, rfl, -, -⟩ := o.form' hl
    obtain ⟨gb, rfl, -, -, -⟩ := o.cellAt hl (k := 0) (by omega)
    have HRb := Lib.hid (o.rd hl); clear o hl
    replace HRm := Lib.hid (HRm.out.below b)
    replace HRm' := Lib.hid (HRm'.out.below b)
    replace HRd := Lib.hid (HRd.out.below b)
    replace HRd' := Lib.hid (HRd'.out.below b)
    replace HRx := Lib.hid (HRx.out.below b)
    replace HRx' := Lib.hid (HRx'.out.below b)
    replace HRa := Lib.hid (HRa.out.below b)
    replace BXm := Lib.hid (BXm.out.below b); replace cm_0 := BXm.out.cell0; replace cm_1 := BXm.out.cell1
    replace BXd := Lib.hid (BXd.out.below b); replace cd_0 := BXd.out.cell0; replace cd_1 := BXd.out.cell1
    replace BXx := Lib.hid (BXx.out.below b); replace cx_0 := BXx.out.cell0; replace cx_1 := BXx.out.cell1
    replace HB := Lib.hid (HB.out.trans (b.mono hs)); replace hs := HB.out.size
    clear b
    go_wp2_with fail
    rw [show (1 : Int) + (j : Int) = ((j + 1 : Nat) : Int) from by omega]
    refine (mixC_any w11 (nm) (j + 1) (hn1) (by omega) (by omega)).mono ?_
    rintro e w12 ⟨v, rfl, o, b⟩
    have hl : (mixL nm (j + 1) : List Int).length = nm := mixL_len _ _
    obtain ⟨Ag, cg, rfl, -, -⟩ := o.form' hl
    have HRg := Lib.hid (o.rd hl); clear o hl
    replace HRm := Lib.hid (HRm.out.below b)
    replace HRm' := Lib.hid (HRm'.out.below b)
    replace HRd := Lib.hid (HRd.out.below b)
    replace HRd' := Lib.hid (HRd'.out.below b)
    replace HRx := Lib.hid (HRx.out.below b)
    replace HRx' := Lib.hid (HRx'.out.below b)
    replace HRa := Lib.hid (HRa.out.below b)
    replace HRb := Lib.hid (HRb.out.below b)
    replace BXm := Lib.hid (BXm.out.below b); replace cm_0 := BXm.out.cell0; replace cm_1 := BXm.out.cell1
    replace BXd := Lib.hid (BXd.out.below b); replace cd_0 := BXd.out.cell0; replace cd_1 := BXd.out.cell1
    replace BXx := Lib.hid (BXx.out.below b); replace cx_0 := BXx.out.cell0; replace cx_1 := BXx.out.cell1
    replace HB := Lib.hid (HB.out.trans (b.mono hs)); replace hs := HB.out.size
    clear b
    have HG : Hid (Vld (mixL nm (j + 1))) := mixL_vld hn1 (by omega)
    have HGL : Hid ((mixL nm (j + 1)).length = nm) := mixL_len _ _
    obtain ⟨g, hg⟩ : ∃ g, mixL nm (j + 1) = g := ⟨_, rfl⟩
    rw [hg] at HG HGL HRg
    clear hg
    go_wp2_with fail
    refine (impl_renameR w12 Ad Ad' nm nm cd cd' (mulL f t) f HRd.out HRd'.out (by omega) (by omega) Ag cg nm g HRg.out (by omega) (ok := true) (yt := conjL (mulL f t) g) (yf := conjL f g) (by rw [renameR, if_pos ⟨mapV_iff.2 HD.out, both_iff.2 ⟨HD.out.turn, HG.out, ((mulL_len _ _).trans HNm'.out).trans HGL.out.symm⟩⟩])).mono ?_
    rintro e w13 ⟨u, u', rfl, o, b⟩
    have hl : (conjL (mulL f t) g : List Int).length = nm := (conjL_len _ _).trans HGL.out
    have hl' : (conjL f g : List Int).length = nm := (conjL_len _ _).trans HGL.out
    obtain ⟨Ay, cy, Ay', cy', rfl, rfl, r1, r2⟩ := o.form hl hl'
    have HRy := Lib.hid r1; have HRy' := Lib.hid r2; clear o hl hl' r1 r2
    replace HRm := Lib.hid (HRm.out.below b)
    replace HRm' := Lib.hid (HRm'.out.below b)
    replace HRd := Lib.hid (HRd.out.below b)
    replace HRd' := Lib.hid (HRd'.out.below b)
    replace HRx := Lib.hid (HRx.out.below b)
    replace HRx' := Lib.hid (HRx'.out.below b)
    replace HRa := Lib.hid (HRa.out.below b)
    replace HRb := Lib.hid (HRb.out.below b)
    replace HRg := Lib.hid (HRg.out.below b)
    replace BXm := Lib.hid (BXm.out.below b); replace cm_0 := BXm.out.cell0; replace cm_1 := BXm.out.cell1
    replace BXd := Lib.hid (BXd.out.below b); replace cd_0 := BXd.out.cell0; replace cd_1 := BXd.out.cell1
    replace BXx := Lib.hid (BXx.out.below b); replace cx_0 := BXx.out.cell0; replace cx_1 := BXx.out.cell1
    replace HB := Lib.hid (HB.out.trans (b.mono hs)); replace hs := HB.out.size
    clear b
    obtain ⟨w14, hWw14, hx, b, hz⟩ := Box.local_ w13 35 (.slice Ay nm cy) (.slice Ay' nm cy')
    have BXy := Lib.hid hx; clear hx hz
    replace HRm := Lib.hid (HRm.out.below b)
    replace HRm' := Lib.hid (HRm'.out.below b)
    replace HRd := Lib.hid (HRd.out.below b)
    replace HRd' := Lib.hid (HRd'.out.below b)
    replace HRx := Lib.hid (HRx.out.below b)
    replace HRx' := Lib.hid (HRx'.out.below b)
    replace HRa := Lib.hid (HRa.out.below b)
    replace HRb := Lib.hid (HRb.out.below b)
    replace HRg := Lib.hid (HRg.out.below b)
    replace HRy := Lib.hid (HRy.out.below b)
    replace HRy' := Lib.hid (HRy'.out.below b)
    replace BXm := Lib.hid (BXm.out.below b); replace cm_0 := BXm.out.cell0; replace cm_1 := BXm.out.cell1
    replace BXd := Lib.hid (BXd.out.below b); replace cd_0 := BXd.out.cell0; replace cd_1 := BXd.out.cell1
    replace BXx := Lib.hid (BXx.out.below b); replace cx_0 := BXx.out.cell0; replace cx_1 := BXx.out.cell1
    replace HB := Lib.hid (HB.out.trans (b.mono hs)); replace hs := HB.out.size
    clear b
    have cy_0 := BXy.out.cell0; have cy_1 := BXy.out.cell1
    go_wp2_with fail
    refine (impl_renameR w14 Am Am' nm nm cm cm' t f HRm.out HRm'.out (by omega) (by omega) Ag cg nm g HRg.out (by omega) (ok := true) (yt := conjL t g) (yf := conjL f g) (by rw [renameR, if_pos ⟨mapV_iff.2 HM.out, both_iff.2 ⟨HM.out.turn, HG.out, (HNm.out).trans HGL.out.symm⟩⟩])).mono ?_
    rintro e w15 ⟨u, u', rfl, o, b⟩
    have hl : (conjL t g : List Int).length = nm := (conjL_len _ _).trans HGL.out
    have hl' : (conjL f g : List Int).length = nm := (conjL_len _ _).trans HGL.out
    obtain ⟨Az, cz, Az', cz', rfl, rfl, r1, r2⟩ := o.form hl hl'
    have HRz := Lib.hid r1; have HRz' := Lib.hid r2; clear o hl hl' r1 r2
    replace HRm := Lib.hid (HRm.out.below b)
    replace HRm' := Lib.hid (HRm'.out.below b)
    replace HRd := Lib.hid (HRd.out.below b)
    replace HRd' := Lib.hid (HRd'.out.below b)
    replace HRx := Lib.hid (HRx.out.below b)
    replace HRx' := Lib.hid (HRx'.out.below b)
    replace HRa := Lib.hid (HRa.out.below b)
    replace HRb := Lib.hid (HRb.out.below b)
    replace HRg := Lib.hid (HRg.out.below b)
    replace HRy := Lib.hid (HRy.out.below b)
    replace HRy' := Lib.hid (HRy'.out.below b)
    replace BXm := Lib.hid (BXm.out.below b); replace cm_0 := BXm.out.cell0; replace cm_1 := BXm.out.cell1
    replace BXd := Lib.hid (BXd.out.below b); replace cd_0 := BXd.out.cell0; replace cd_1 := BXd.out.cell1
    replace BXx := Lib.hid (BXx.out.below b); replace cx_0 := BXx.out.cell0; replace cx_1 := BXx.out.cell1
    replace BXy := Lib.hid (BXy.out.below b); replace cy_0 := BXy.out.cell0; replace cy_1 := BXy.out.cell1
    replace HB := Lib.hid (HB.out.trans (b.mono hs)); replace hs := HB.out.size
    clear b
    obtain ⟨w16, hWw16, hx, b, hz⟩ := Box.local_ w15 35 (.slice Az nm cz) (.slice Az' nm cz')
    have BXz := Lib.hid hx; clear hx hz
    replace HRm := Lib.hid (HRm.out.below b)
    replace HRm' := Lib.hid (HRm'.out.below b)
    replace HRd := Lib.hid (HRd.out.below b)
    replace HRd' := Lib.hid (HRd'.out.below b)
    replace HRx := Lib.hid (HRx.out.below b)
    replace HRx' := Lib.hid (HRx'.out.below b)
    replace HRa := Lib.hid (HRa.out.below b)
    replace HRb := Lib.hid (HRb.out.below b)
    replace HRg := Lib.hid (HRg.out.below b)
    replace HRy := Lib.hid (HRy.out.below b)
    replace HRy' := Lib.hid (HRy'.out.below b)
    replace HRz := Lib.hid (HRz.out.below b)
    replace HRz' := Lib.hid (HRz'.out.below b)
    replace BXm := Lib.hid (BXm.out.below b); replace cm_0 := BXm.out.cell0; replace cm_1 := BXm.out.cell1
    replace BXd := Lib.hid (BXd.out.below b); replace cd_0 := BXd.out.cell0; replace cd_1 := BXd.out.cell1
    replace BXx := Lib.hid (BXx.out.below b); replace cx_0 := BXx.out.cell0; replace cx_1 := BXx.out.cell1
    replace BXy := Lib.hid (BXy.out.below b); replace cy_0 := BXy.out.cell0; replace cy_1 := BXy.out.cell1
    replace HB := Lib.hid (HB.out.trans (b.mono hs)); replace hs := HB.out.size
    clear b
    have cz_0 := BXz.out.cell0; have cz_1 := BXz.out.cell1
    have HZ : Hid (IsMap (conjL t g) (conjL f g)) := HM.out.ren HG.out (HGL.out.trans HNm.out.symm)
    go_wp2_with fail
    refine (impl_dualR w16 Az Az' nm nm cz cz' (conjL t g) (conjL f g) HRz.out HRz'.out (by omega) (by omega) (ok := true) (yt := mulL (conjL f g) (conjL t g)) (yf := conjL f g) (by rw [dualR, if_pos (mapV_iff.2 HZ.out)])).mono ?_
    rintro e w17 ⟨u, u', rfl, o, b⟩
    have hl : (mulL (conjL f g) (conjL t g) : List Int).length = nm := (mulL_len _ _).trans ((conjL_len _ _).trans HGL.out)
    have hl' : (conjL f g : List Int).length = nm := (conjL_len _ _).trans HGL.out
    obtain ⟨Av, cv, Av', cv', rfl, rfl, r1, r2⟩ := o.form hl hl'
    have HRv := Lib.hid r1; have HRv' := Lib.hid r2; clear o hl hl' r1 r2
    replace HRm := Lib.hid (HRm.out.below b)
    replace HRm' := Lib.hid (HRm'.out.below b)
    replace HRd := Lib.hid (HRd.out.below b)
    replace HRd' := Lib.hid (HRd'.out.below b)
    replace HRx := Lib.hid (HRx.out.below b)
    replace HRx' := Lib.hid (HRx'.out.below b)
    replace HRa := Lib.hid (HRa.out.below b)
    replace HRb := Lib.hid (HRb.out.below b)
    replace HRg := Lib.hid (HRg.out.below b)
    replace HRy := Lib.hid (HRy.out.below b)
    replace HRy' := Lib.hid (HRy'.out.below b)
    replace HRz := Lib.hid (HRz.out.below b)
    replace HRz' := Lib.hid (HRz'.out.below b)
    replace BXm := Lib.hid (BXm.out.below b); replace cm_0 := BXm.out.cell0; replace cm_1 := BXm.out.cell1
    replace BXd := Lib.hid (BXd.out.below b); replace cd_0 := BXd.out.cell0; replace cd_1 := BXd.out.cell1
    replace BXx := Lib.hid (BXx.out.below b); replace cx_0 := BXx.out.cell0; replace cx_1 := BXx.out.cell1
    replace BXy := Lib.hid (BXy.out.below b); replace cy_0 := BXy.out.cell0; replace cy_1 := BXy.out.cell1
    replace BXz := Lib.hid (BXz.out.below b); replace cz_0 := BXz.out.cell0; replace cz_1 := BXz.out.cell1
    replace HB := Lib.hid (HB.out.trans (b.mono hs)); replace hs := HB.out.size
    clear b
    obtain ⟨w18, hWw18, hx, b, hz⟩ := Box.local_ w17 35 (.slice Av nm cv) (.slice Av' nm cv')
    have BXv := Lib.hid hx; clear hx hz
    replace HRm := Lib.hid (HRm.out.below b)
    replace HRm' := Lib.hid (HRm'.out.below b)
    replace HRd := Lib.hid (HRd.out.below b)
    replace HRd' := Lib.hid (HRd'.out.below b)
    replace HRx := Lib.hid (HRx.out.below b)
    replace HRx' := Lib.hid (HRx'.out.below b)
    replace HRa := Lib.hid (HRa.out.below b)
    replace HRb := Lib.hid (HRb.out.below b)
    replace HRg := Lib.hid (HRg.out.below b)
    replace HRy := Lib.hid (HRy.out.below b)
    replace HRy' := Lib.hid (HRy'.out.below b)
    replace HRz := Lib.hid (HRz.out.below b)
    replace HRz' := Lib.hid (HRz'.out.below b)
    replace HRv := Lib.hid (HRv.out.below b)
    replace HRv' := Lib.hid (HRv'.out.below b)
    replace BXm := Lib.hid (BXm.out.below b); replace cm_0 := BXm.out.cell0; replace cm_1 := BXm.out.cell1
    replace BXd := Lib.hid (BXd.out.below b); replace cd_0 := BXd.out.cell0; replace cd_1 := BXd.out.cell1
    replace BXx := Lib.hid (BXx.out.below b); replace cx_0 := BXx.out.cell0; replace cx_1 := BXx.out.cell1
    replace BXy := Lib.hid (BXy.out.below b); replace cy_0 := BXy.out.cell0; replace cy_1 := BXy.out.cell1
    replace BXz := Lib.hid (BXz.out.below b); replace cz_0 := BXz.out.cell0; replace cz_1 := BXz.out.cell1
    replace HB := Lib.hid (HB.out.trans (b.mono hs)); replace hs := HB.out.size
    clear b
    have cv_0 := BXv.out.cell0; have cv_1 := BXv.out.cell1
    have qa0 : w18.cell? ⟨ga, 0, none⟩ = some (.int .i64 (V : Int)) := HRa.out.getg (j := 0) (by omega)
    have qa1 : w18.cell? ⟨ga, 1, none⟩ = some (.int .i64 (E : Int)) := HRa.out.getg (j := 1) (by omega)
    have qa2 : w18.cell? ⟨ga, 2, none⟩ = some (.int .i64 (F : Int)) := HRa.out.getg (j := 2) (by omega)
    have qb0 : w18.cell? ⟨gb, 0, none⟩ = some (.int .i64 (F : Int)) := HRb.out.getg (j := 0) (by omega)
    have qb1 : w18.cell? ⟨gb, 1, none⟩ = some (.int .i64 (E : Int)) := HRb.out.getg (j := 1) (by omega)
    have qb2 : w18.cell? ⟨gb, 2, none⟩ = some (.int .i64 (V : Int)) := HRb.out.getg (j := 2) (by omega)
    have hVV : ((V : Int) == (V : Int)) = true := by simp
    have hEE : ((E : Int) == (E : Int)) = true := by simp
    have hFF : ((F : Int) == (F : Int)) = true := by simp
    go_wp2_with fail
    go_region_held3 (fun w' => w'.cell? ⟨w8.heap.size, 0, none⟩ = some (.slice Ax nm cx) ∧ w'.cell? ⟨w8.heap.size, 1, none⟩ = some (.slice Ax' nm cx') ∧ w'.cell? ⟨w1.heap.size, 0, none⟩ = some (.slice Am nm cm) ∧ w'.cell? ⟨w1.heap.size, 1, none⟩ = some (.slice Am' nm cm') ∧ w'.cell? ⟨w13.heap.size, 0, none⟩ = some (.slice Ay nm cy) ∧ w'.cell? ⟨w13.heap.size, 1, none⟩ = some (.slice Ay' nm cy') ∧ w'.cell? ⟨w17.heap.size, 0, none⟩ = some (.slice Av nm cv) ∧ w'.cell? ⟨w17.heap.size, 1, none⟩ = some (.slice Av' nm cv') ∧ w'.cell? ⟨ga, 0, none⟩ = some (.int .i64 (V : Int)) ∧ w'.cell? ⟨ga, 1, none⟩ = some (.int .i64 (E : Int)) ∧ w'.cell? ⟨ga, 2, none⟩ = some (.int .i64 (F : Int)) ∧ w'.cell? ⟨gb, 0, none⟩ = some (.int .i64 (F : Int)) ∧ w'.cell? ⟨gb, 1, none⟩ = some (.int .i64 (E : Int)) ∧ w'.cell? ⟨gb, 2, none⟩ = some (.int .i64 (V : Int))) (first | go_keep | exact ⟨(BXx.out.below BS1.out).cell0, (BXx.out.below BS1.out).cell1, (BXm.out.below BS1.out).cell0, (BXm.out.below BS1.out).cell1, (BXy.out.below BS1.out).cell0, (BXy.out.below BS1.out).cell1, (BXv.out.below BS1.out).cell0, (BXv.out.below BS1.out).cell1, (HRa.out.below BS1.out).getg (j := 0) (by omega), (HRa.out.below BS1.out).getg (j := 1) (by omega), (HRa.out.below BS1.out).getg (j := 2) (by omega), (HRb.out.below BS1.out).getg (j := 0) (by omega), (HRb.out.below BS1.out).getg (j := 1) (by omega), (HRb.out.below BS1.out).getg (j := 2) (by omega)⟩ | exact ⟨(BXx.out.below BS0.out).cell0, (BXx.out.below BS0.out).cell1, (BXm.out.below BS0.out).cell0, (BXm.out.below BS0.out).cell1, (BXy.out.below BS0.out).cell0, (BXy.out.below BS0.out).cell1, (BXv.out.below BS0.out).cell0, (BXv.out.below BS0.out).cell1, (HRa.out.below BS0.out).getg (j := 0) (by omega), (HRa.out.below BS0.out).getg (j := 1) (by omega), (HRa.out.below BS0.out).getg (j := 2) (by omega), (HRb.out.below BS0.out).getg (j := 0) (by omega), (HRb.out.below BS0.out).getg (j := 1) (by omega), (HRb.out.below BS0.out).getg (j := 2) (by omega)⟩) (first
      | (have hchk := BS0.out; clear hchk; go_at_call 35; refine (same_map_yes _ Ay Ay' Av Av' nm nm cy cy' nm nm cv cv' (conjL (mulL f t) g) (conjL f g) (mulL (conjL f g) (conjL t g)) (conjL f g) (HRy.out.below BS0.out) (HRy'.out.below BS0.out) (HRv.out.below BS0.out) (HRv'.out.below BS0.out) (by omega) (by omega) (by omega) (by omega) ((conj_mul HM.out.flip HG.out (HNm'.out.trans HGL.out.symm)).symm) (rfl)).mono ?_; rintro e w20 ⟨rfl, b⟩; have BS1 : Hid (Below w18.heap.size w18 w20) := BS0.out.trans (b.mono BS0.out.size); clear b)
      | (go_at_call 35; refine (same_map_yes _ Ax Ax' Am Am' nm nm cx cx' nm nm cm cm' t f t f (HRx.out.drewN _) (HRx'.out.drewN _) (HRm.out.drewN _) (HRm'.out.drewN _) (by omega) (by omega) (by omega) (by omega) (rfl) (rfl)).mono ?_; rintro e w19 ⟨rfl, b⟩; have BS0 : Hid (Below w18.heap.size w18 w19) := Below.of_drewN b; clear b))
    all_goals
      go_wp2
      go_ret
      exact ⟨rfl, HB.out.trans (BS1.out.mono hs)⟩
  · have HV := Lib.hid hv
    go_wp2_with fail
    refine (impl_dualR w2 Am Am' nm nm' cm cm' t f HRm.out HRm'.out (by omega) (by omega) (ok := false) (yt := []) (yf := []) (by rw [dualR, if_neg HV.out])).mono ?_
    rintro e w3 ⟨u, u', rfl, o, b⟩
    have hl : ([] : List Int).length = 0 := rfl
    have hl' : ([] : List Int).length = 0 := rfl
    obtain ⟨Ad, cd, Ad', cd', rfl, rfl, r1, r2⟩ := o.form hl hl'
    have HRd := Lib.hid r1; have HRd' := Lib.hid r2; clear o hl hl' r1 r2
    replace HRm := Lib.hid (HRm.out.below b)
    replace HRm' := Lib.hid (HRm'.out.below b)
    replace BXm := Lib.hid (BXm.out.below b); replace cm_0 := BXm.out.cell0; replace cm_1 := BXm.out.cell1
    replace HB := Lib.hid (HB.out.trans (b.mono hs)); replace hs := HB.out.size
    clear b
    obtain ⟨w4, hWw4, hx, b, hz⟩ := Box.local_ w3 35 (.slice Ad 0 cd) (.slice Ad' 0 cd')
    have BXd := Lib.hid hx; clear hx hz
    replace HRm := Lib.hid (HRm.out.below b)
    replace HRm' := Lib.hid (HRm'.out.below b)
    replace HRd := Lib.hid (HRd.out.below b)
    replace HRd' := Lib.hid (HRd'.out.below b)
    replace BXm := Lib.hid (BXm.out.below b); replace cm_0 := BXm.out.cell0; replace cm_1 := BXm.out.cell1
    replace HB := Lib.hid (HB.out.trans (b.mono hs)); replace hs := HB.out.size
    clear b
    have cd_0 := BXd.out.cell0; have cd_1 := BXd.out.cell1
    go_wp2_with fail
    refine (spec_dualR w4 Am Am' nm nm' cm cm' t f HRm.out HRm'.out (by omega) (by omega) (ok := false) (yt := []) (yf := []) (by rw [dualR, if_neg HV.out])).mono ?_
    rintro e w5 ⟨u, u', rfl, o, b⟩
    have hl : ([] : List Int).length = 0 := rfl
    have hl' : ([] : List Int).length = 0 := rfl
    obtain ⟨Ae, ce, Ae', ce', rfl, rfl, r1, r2⟩ := o.form hl hl'
    have HRe := Lib.hid r1; have HRe' := Lib.hid r2; clear o hl hl' r1 r2
    replace HRm := Lib.hid (HRm.out.below b)
    replace HRm' := Lib.hid (HRm'.out.below b)
    replace HRd := Lib.hid (HRd.out.below b)
    replace HRd' := Lib.hid (HRd'.out.below b)
    replace BXm := Lib.hid (BXm.out.below b); replace cm_0 := BXm.out.cell0; replace cm_1 := BXm.out.cell1
    replace BXd := Lib.hid (BXd.out.below b); replace cd_0 := BXd.out.cell0; replace cd_1 := BXd.out.cell1
    replace HB := Lib.hid (HB.out.trans (b.mono hs)); replace hs := HB.out.size
    clear b
    obtain ⟨w6, hWw6, hx, b, hz⟩ := Box.local_ w5 35 (.slice Ae 0 ce) (.slice Ae' 0 ce')
    have BXe := Lib.hid hx; clear hx hz
    replace HRm := Lib.hid (HRm.out.below b)
    replace HRm' := Lib.hid (HRm'.out.below b)
    replace HRd := Lib.hid (HRd.out.below b)
    replace HRd' := Lib.hid (HRd'.out.below b)
    replace HRe := Lib.hid (HRe.out.below b)
    replace HRe' := Lib.hid (HRe'.out.below b)
    replace BXm := Lib.hid (BXm.out.below b); replace cm_0 := BXm.out.cell0; replace cm_1 := BXm.out.cell1
    replace BXd := Lib.hid (BXd.out.below b); replace cd_0 := BXd.out.cell0; replace cd_1 := BXd.out.cell1
    replace HB := Lib.hid (HB.out.trans (b.mono hs)); replace hs := HB.out.size
    clear b
    have ce_0 := BXe.out.cell0; have ce_1 := BXe.out.cell1
    go_wp2_with fail
    refine (same_map_yes w6 Ad Ad' Ae Ae' 0 0 cd cd' 0 0 ce ce' [] [] [] [] HRd.out HRd'.out HRe.out HRe'.out (by omega) (by omega) (by omega) (by omega) (rfl) (rfl)).mono ?_
    rintro e w7 ⟨rfl, b⟩
    replace HRm := Lib.hid (HRm.out.below b)
    replace HRm' := Lib.hid (HRm'.out.below b)
    replace HRd := Lib.hid (HRd.out.below b)
    replace HRd' := Lib.hid (HRd'.out.below b)
    replace HRe := Lib.hid (HRe.out.below b)
    replace HRe' := Lib.hid (HRe'.out.below b)
    replace BXm := Lib.hid (BXm.out.below b); replace cm_0 := BXm.out.cell0; replace cm_1 := BXm.out.cell1
    replace BXd := Lib.hid (BXd.out.below b); replace cd_0 := BXd.out.cell0; replace cd_1 := BXd.out.cell1
    replace BXe := Lib.hid (BXe.out.below b); replace ce_0 := BXe.out.cell0; replace ce_1 := BXe.out.cell1
    replace HB := Lib.hid (HB.out.trans (b.mono hs)); replace hs := HB.out.size
    clear b
    go_wp2_with fail
    refine (same_map_yes w7 Ad Ad' Ae Ae' 0 0 cd cd' 0 0 ce ce' [] [] [] [] HRd.out HRd'.out HRe.out HRe'.out (by omega) (by omega) (by omega) (by omega) (rfl) (rfl)).mono ?_
    rintro e w8 ⟨rfl, b⟩
    replace HRm := Lib.hid (HRm.out.below b)
    replace HRm' := Lib.hid (HRm'.out.below b)
    replace HRd := Lib.hid (HRd.out.below b)
    replace HRd' := Lib.hid (HRd'.out.below b)
    replace HRe := Lib.hid (HRe.out.below b)
    replace HRe' := Lib.hid (HRe'.out.below b)
    replace BXm := Lib.hid (BXm.out.below b); replace cm_0 := BXm.out.cell0; replace cm_1 := BXm.out.cell1
    replace BXd := Lib.hid (BXd.out.below b); replace cd_0 := BXd.out.cell0; replace cd_1 := BXd.out.cell1
    replace BXe := Lib.hid (BXe.out.below b); replace ce_0 := BXe.out.cell0; replace ce_1 := BXe.out.cell1
    replace HB := Lib.hid (HB.out.trans (b.mono hs)); replace hs := HB.out.size
    clear b
    go_wp2_with fail
    go_ret
    exact ⟨rfl, HB.out⟩

end Go.Proofs.Yteajaikgeephmaa
