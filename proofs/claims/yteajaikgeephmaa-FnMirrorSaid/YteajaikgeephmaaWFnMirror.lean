/-
  FnMirror: the walk of the law.
-/
import Derived.Test.YteajaikgeephmaaLawMap
import Derived.Test.YteajaikgeephmaaDrawMs
import Derived.Test.YteajaikgeephmaaPar3
import Derived.Test.YteajaikgeephmaaMirror
import Derived.Test.YteajaikgeephmaaCounts
import Derived.Test.YteajaikgeephmaaDegrees
namespace Go.Proofs.Yteajaikgeephmaa
open Go.RowKit

set_option maxRecDepth 100000 in
set_option maxHeartbeats 3200000 in
theorem walk_FnMirror (A0 : Option Addr) (n0 c0 : Nat) (bs0 : List Int) (w : World) (h0 : RdB w A0 n0 bs0) (hm0 : n0 ≤ maxLen ∧ n0 ≤ c0) :
    Calls Try.prog 7 #[.slice A0 n0 c0] w fun e w' => e = .returned (.bool true) ∧ Below w.heap.size w w' := by
  have HB0_0 := Lib.hid h0; have hc0 := hm0.2; have hml0 := hm0.1; clear h0 hm0; unfold maxLen at hml0
  by_cases hbig0 : 1048576 < n0
  · have hd : decide ((1048576 : Int) < n0) = true := by simp; omega
    go_enter Try.func7, Try.ntmps7
    go_wp2
    go_ret
    exact ⟨rfl, Below.refl _ _⟩
  have hd0 : decide ((1048576 : Int) < n0) = false := by simp; omega
  have hnb0 : n0 ≤ 1048576 := by omega
  clear hbig0
  go_enter Try.func7, Try.ntmps7
  go_wp2_with fail
  refine (drawMapMirror_any w A0 n0 c0 bs0 HB0_0.out hnb0 hc0).mono ?_
  rintro e w1 ⟨Am, Am', nm, nm', cm, cm', t, f, rfl, r1, r2, hlm, hlm', b⟩
  have HNm := Lib.hid r1.1; have HNm' := Lib.hid r2.1; have HRm := Lib.hid r1; have HRm' := Lib.hid r2; clear r1 r2
  have HB := Lib.hid b; have hs := b.size; clear b
  obtain ⟨w2, hWw2, hx, b, hz⟩ := Box.local_ w1 35 (.slice Am nm cm) (.slice Am' nm' cm')
  have BXm := Lib.hid hx; clear hx hz
  replace HRm := Lib.hid (HRm.out.below b)
  replace HRm' := Lib.hid (HRm'.out.below b)
  replace HB := Lib.hid (HB.out.trans (b.mono hs)); replace hs := HB.out.size
  clear b
  have cm_0 := BXm.out.cell0; have cm_1 := BXm.out.cell1
  by_cases hv : mapV t f = true
  · have HM := Lib.hid (mapV_iff.1 hv)
    obtain rfl : nm = nm' := by have := HM.out.len; rw [HNm.out, HNm'.out] at this; exact this
    have HD : Hid (IsMap (backL t) f) := HM.out.mirror
    have HT : Hid (typeL t = typeL (backL t)) := back_type HM.out.turn
    obtain ⟨V, hV⟩ : ∃ V, cntV t = V := ⟨_, rfl⟩
    obtain ⟨E, hE⟩ : ∃ E, cntE f = E := ⟨_, rfl⟩
    obtain ⟨F, hF⟩ : ∃ F, cntF t f = F := ⟨_, rfl⟩
    have HV := Lib.hid hV; have HE := Lib.hid hE; have HF := Lib.hid hF; clear hV hE hF
    have HVd : Hid (cntV (backL t) = V) := (cycles_of_type HM.out.turn HD.out.turn HT.out).symm.trans HV.out
    have HFd : Hid (cntF (backL t) f = F) := (cycles_of_type HD.out.dual.turn HM.out.dual.turn (mirror_faces HM.out)).trans HF.out
    obtain ⟨M, hM⟩ : ∃ M, (typeL t).length = M := ⟨_, rfl⟩
    have hM12 : M ≤ 12 := by have h1 := typeL_len HM.out.turn; have h2 := cyclesL_len (p := t); rw [HNm.out] at h2; omega
    have HMM := Lib.hid hM; clear hM
    go_wp2_with fail
    refine (impl_mirrorR w2 Am Am' nm nm cm cm' t f HRm.out HRm'.out (by omega) (by omega) (ok := true) (yt := backL t) (yf := f) (by rw [mirrorR, if_pos (mapV_iff.2 HM.out)])).mono ?_
    rintro e w3 ⟨u, u', rfl, o, b⟩
    have hl : (backL t : List Int).length = nm := (backL_len _).trans HNm.out
    have hl' : (f : List Int).length = nm := HNm'.out
    obtain ⟨Ad, cd, Ad', cd', rfl, rfl, r1, r2⟩ := o.form hl hl'
    have HRd := Lib.hid r1; have HRd' := Lib.hid r2; clear o hl hl' r1 r2
    replace HRm := Lib.hid (HRm.out.below b)
    replace HRm' := Lib.hid (HRm'.out.below b)
    replace BXm := Lib.hid (BXm.out.below b); replace cm_0 := BXm.out.cell0; replace cm_1 := BXm.out.cell1
    replace HB := Lib.hid (HB.out.trans (b.mono hs)); replace hs := HB.out.size
    clear b
    obtain ⟨w4, hWw4, hx, b, hz⟩ := Box.local_ w3 35 (.slice Ad nm cd) (.slice Ad' nm cd')
    have BXd := Lib.hid hx; clear hx hz
    replace HRm := Lib.hid (HRm.out.below b)
    replace HRm' := Lib.hid (HRm'.out.below b)
    replace HRd := Lib.hid (HRd.out.below b)
    replace HRd' := Lib.hid (HRd'.out.below b)
    replace BXm := Lib.hid (BXm.out.below b); replace cm_0 := BXm.out.cell0; replace cm_1 := BXm.out.cell1
    replace HB := Lib.hid (HB.out.trans (b.mono hs)); replace hs := HB.out.size
    clear b
    have cd_0 := BXd.out.cell0; have cd_1 := BXd.out.cell1
    go_wp2_with fail
    refine (spec_mirrorR w4 Am Am' nm nm cm cm' t f HRm.out HRm'.out (by omega) (by omega) (ok := true) (yt := backL t) (yf := f) (by rw [mirrorR, if_pos (mapV_iff.2 HM.out)])).mono ?_
    rintro e w5 ⟨u, u', rfl, o, b⟩
    have hl : (backL t : List Int).length = nm := (backL_len _).trans HNm.out
    have hl' : (f : List Int).length = nm := HNm'.out
    obtain ⟨Ae, ce, Ae', ce', rfl, rfl, r1, r2⟩ := o.form hl hl'
    have HRe := Lib.hid r1; have HRe' := Lib.hid r2; clear o hl hl' r1 r2
    replace HRm := Lib.hid (HRm.out.below b)
    replace HRm' := Lib.hid (HRm'.out.below b)
    replace HRd := Lib.hid (HRd.out.below b)
    replace HRd' := Lib.hid (HRd'.out.below b)
    replace BXm := Lib.hid (BXm.out.below b); replace cm_0 := BXm.out.cell0; replace cm_1 := BXm.out.cell1
    replace BXd := Lib.hid (BXd.out.below b); replace cd_0 := BXd.out.cell0; replace cd_1 := BXd.out.cell1
    replace HB := Lib.hid (HB.out.trans (b.mono hs)); replace hs := HB.out.size
    clear b
    obtain ⟨w6, hWw6, hx, b, hz⟩ := Box.local_ w5 35 (.slice Ae nm ce) (.slice Ae' nm ce')
    have BXe := Lib.hid hx; clear hx hz
    replace HRm := Lib.hid (HRm.out.below b)
    replace HRm' := Lib.hid (HRm'.out.below b)
    replace HRd := Lib.hid (HRd.out.below b)
    replace HRd' := Lib.hid (HRd'.out.below b)
    replace HRe := Lib.hid (HRe.out.below b)
    replace HRe' := Lib.hid (HRe'.out.below b)
    replace BXm := Lib.hid (BXm.out.below b); replace cm_0 := BXm.out.cell0; replace cm_1 := BXm.out.cell1
    replace BXd := Lib.hid (BXd.out.below b); replace cd_0 := BXd.out.cell0; replace cd_1 := BXd.out.cell1
    replace HB := Lib.hid (HB.out.trans (b.mono hs)); replace hs := HB.out.size
    clear b
    have ce_0 := BXe.out.cell0; have ce_1 := BXe.out.cell1
    go_wp2_with fail
    refine (same_map_yes w6 Ad Ad' Ae Ae' nm nm cd cd' nm nm ce ce' (backL t) f (backL t) f HRd.out HRd'.out HRe.out HRe'.out (by omega) (by omega) (by omega) (by omega) (rfl) (rfl)).mono ?_
    rintro e w7 ⟨rfl, b⟩
    replace HRm := Lib.hid (HRm.out.below b)
    replace HRm' := Lib.hid (HRm'.out.below b)
    replace HRd := Lib.hid (HRd.out.below b)
    replace HRd' := Lib.hid (HRd'.out.below b)
    replace HRe := Lib.hid (HRe.out.below b)
    replace HRe' := Lib.hid (HRe'.out.below b)
    replace BXm := Lib.hid (BXm.out.below b); replace cm_0 := BXm.out.cell0; replace cm_1 := BXm.out.cell1
    replace BXd := Lib.hid (BXd.out.below b); replace cd_0 := BXd.out.cell0; replace cd_1 := BXd.out.cell1
    replace BXe := Lib.hid (BXe.out.below b); replace ce_0 := BXe.out.cell0; replace ce_1 := BXe.out.cell1
    replace HB := Lib.hid (HB.out.trans (b.mono hs)); replace hs := HB.out.size
    clear b
    clear ce_0 ce_1
    clear HRe
    clear HRe'
    go_wp2_with fail
    refine (impl_mirrorR w7 Ad Ad' nm nm cd cd' (backL t) f HRd.out HRd'.out (by omega) (by omega) (ok := true) (yt := t) (yf := f) (by rw [mirrorR, if_pos (mapV_iff.2 HD.out), back_back HM.out.turn])).mono ?_
    rintro e w8 ⟨u, u', rfl, o, b⟩
    have hl : (t : List Int).length = nm := HNm.out
    have hl' : (f : List Int).length = nm := HNm'.out
    obtain ⟨Ax, cx, Ax', cx', rfl, rfl, r1, r2⟩ := o.form hl hl'
    have HRx := Lib.hid r1; have HRx' := Lib.hid r2; clear o hl hl' r1 r2
    replace HRm := Lib.hid (HRm.out.below b)
    replace HRm' := Lib.hid (HRm'.out.below b)
    replace HRd := Lib.hid (HRd.out.below b)
    replace HRd' := Lib.hid (HRd'.out.below b)
    replace BXm := Lib.hid (BXm.out.below b); replace cm_0 := BXm.out.cell0; replace cm_1 := BXm.out.cell1
    replace BXd := Lib.hid (BXd.out.below b); replace cd_0 := BXd.out.cell0; replace cd_1 := BXd.out.cell1
    replace HB := Lib.hid (HB.out.trans (b.mono hs)); replace hs := HB.out.size
    clear b
    obtain ⟨w9, hWw9, hx, b, hz⟩ := Box.local_ w8 35 (.slice Ax nm cx) (.slice Ax' nm cx')
    have BXx := Lib.hid hx; clear hx hz
    replace HRm := Lib.hid (HRm.out.below b)
    replace HRm' := Lib.hid (HRm'.out.below b)
    replace HRd := Lib.hid (HRd.out.below b)
    replace HRd' := Lib.hid (HRd'.out.below b)
    replace HRx := Lib.hid (HRx.out.below b)
    replace HRx' := Lib.hid (HRx'.out.below b)
    replace BXm := Lib.hid (BXm.out.below b); replace cm_0 := BXm.out.cell0; replace cm_1 := BXm.out.cell1
    replace BXd := Lib.hid (BXd.out.below b); replace cd_0 := BXd.out.cell0; replace cd_1 := BXd.out.cell1
    replace HB := Lib.hid (HB.out.trans (b.mono hs)); replace hs := HB.out.size
    clear b
    have cx_0 := BXx.out.cell0; have cx_1 := BXx.out.cell1
    go_wp2_with fail
    refine (impl_countsR w9 Am Am' nm nm cm cm' t f HRm.out HRm'.out (by omega) (by omega) (ok := true) (ys := [(V : Int), (E : Int), (F : Int)]) (by rw [countsR, if_pos (mapV_iff.2 HM.out), HV.out, HE.out, HF.out])).mono ?_
    rintro e w10 ⟨v, rfl, o, b⟩
    have hl : ([(V : Int), (E : Int), (F : Int)] : List Int).length = 3 := rfl
    obtain ⟨Aa, ca, rfl, -, -⟩ := o.form' hl
    have HRa := Lib.hid (o.rd hl); clear o hl
    replace HRm := Lib.hid (HRm.out.below b)
    replace HRm' := Lib.hid (HRm'.out.below b)
    replace HRd := Lib.hid (HRd.out.below b)
    replace HRd' := Lib.hid (HRd'.out.below b)
    replace HRx := Lib.hid (HRx.out.below b)
    replace HRx' := Lib.hid (HRx'.out.below b)
    replace BXm := Lib.hid (BXm.out.below b); replace cm_0 := BXm.out.cell0; replace cm_1 := BXm.out.cell1
    replace BXd := Lib.hid (BXd.out.below b); replace cd_0 := BXd.out.cell0; replace cd_1 := BXd.out.cell1
    replace BXx := Lib.hid (BXx.out.below b); replace cx_0 := BXx.out.cell0; replace cx_1 := BXx.out.cell1
    replace HB := Lib.hid (HB.out.trans (b.mono hs)); replace hs := HB.out.size
    clear b
    go_wp2_with fail
    refine (impl_countsR w10 Ad Ad' nm nm cd cd' (backL t) f HRd.out HRd'.out (by omega) (by omega) (ok := true) (ys := [(V : Int), (E : Int), (F : Int)]) (by rw [countsR, if_pos (mapV_iff.2 HD.out), HVd.out, HE.out, HFd.out])).mono ?_
    rintro e w11 ⟨v, rfl, o, b⟩
    have hl : ([(V : Int), (E : Int), (F : Int)] : List Int).length = 3 := rfl
    obtain ⟨Ab, cb, rfl, -, -⟩ := o.form' hl
    have HRb := Lib.hid (o.rd hl); clear o hl
    replace HRm := Lib.hid (HRm.out.below b)
    replace HRm' := Lib.hid (HRm'.out.below b)
    replace HRd := Lib.hid (HRd.out.below b)
    replace HRd' := Lib.hid (HRd'.out.below b)
    replace HRx := Lib.hid (HRx.out.below b)
    replace HRx' := Lib.hid (HRx'.out.below b)
    replace HRa := Lib.hid (HRa.out.below b)
    replace BXm := Lib.hid (BXm.out.below b); replace cm_0 := BXm.out.cell0; replace cm_1 := BXm.out.cell1
    replace BXd := Lib.hid (BXd.out.below b); replace cd_0 := BXd.out.cell0; replace cd_1 := BXd.out.cell1
    replace BXx := Lib.hid (BXx.out.below b); replace cx_0 := BXx.out.cell0; replace cx_1 := BXx.out.cell1
    replace HB := Lib.hid (HB.out.trans (b.mono hs)); replace hs := HB.out.size
    clear b
    go_wp2_with fail
    refine (impl_degreesR w11 Am Am' nm nm cm cm' t f HRm.out HRm'.out (by omega) (by omega) (ok := true) (ys := typeL t) (by rw [degreesR, if_pos (mapV_iff.2 HM.out)])).mono ?_
    rintro e w12 ⟨v, rfl, o, b⟩
    have hl : (typeL t : List Int).length = M := HMM.out
    obtain ⟨Ak, ck, rfl, -, -⟩ := o.form' hl
    have HRk := Lib.hid (o.rd hl); clear o hl
    replace HRm := Lib.hid (HRm.out.below b)
    replace HRm' := Lib.hid (HRm'.out.below b)
    replace HRd := Lib.hid (HRd.out.below b)
    replace HRd' := Lib.hid (HRd'.out.below b)
    replace HRx := Lib.hid (HRx.out.below b)
    replace HRx' := Lib.hid (HRx'.out.below b)
    replace HRa := Lib.hid (HRa.out.below b)
    replace HRb := Lib.hid (HRb.out.below b)
    replace BXm := Lib.hid (BXm.out.below b); replace cm_0 := BXm.out.cell0; replace cm_1 := BXm.out.cell1
    replace BXd := Lib.hid (BXd.out.below b); replace cd_0 := BXd.out.cell0; replace cd_1 := BXd.out.cell1
    replace BXx := Lib.hid (BXx.out.below b); replace cx_0 := BXx.out.cell0; replace cx_1 := BXx.out.cell1
    replace HB := Lib.hid (HB.out.trans (b.mono hs)); replace hs := HB.out.size
    clear b
    go_wp2_with fail
    refine (impl_degreesR w12 Ad Ad' nm nm cd cd' (backL t) f HRd.out HRd'.out (by omega) (by omega) (ok := true) (ys := typeL t) (by rw [degreesR, if_pos (mapV_iff.2 HD.out), HT.out])).mono ?_
    rintro e w13 ⟨v, rfl, o, b⟩
    have hl : (typeL t : List Int).length = M := HMM.out
    obtain ⟨Al, cl, rfl, -, -⟩ := o.form' hl
    have HRl := Lib.hid (o.rd hl); clear o hl
    replace HRm := Lib.hid (HRm.out.below b)
    replace HRm' := Lib.hid (HRm'.out.below b)
    replace HRd := Lib.hid (HRd.out.below b)
    replace HRd' := Lib.hid (HRd'.out.below b)
    replace HRx := Lib.hid (HRx.out.below b)
    replace HRx' := Lib.hid (HRx'.out.below b)
    replace HRa := Lib.hid (HRa.out.below b)
    replace HRb := Lib.hid (HRb.out.below b)
    replace HRk := Lib.hid (HRk.out.below b)
    replace BXm := Lib.hid (BXm.out.below b); replace cm_0 := BXm.out.cell0; replace cm_1 := BXm.out.cell1
    replace BXd := Lib.hid (BXd.out.below b); replace cd_0 := BXd.out.cell0; replace cd_1 := BXd.out.cell1
    replace BXx := Lib.hid (BXx.out.below b); replace cx_0 := BXx.out.cell0; replace cx_1 := BXx.out.cell1
    replace HB := Lib.hid (HB.out.trans (b.mono hs)); replace hs := HB.out.size
    clear b
    go_wp2_with fail
    refine (same_map_yes w13 Ax Ax' Am Am' nm nm cx cx' nm nm cm cm' t f t f HRx.out HRx'.out HRm.out HRm'.out (by omega) (by omega) (by omega) (by omega) (rfl) (rfl)).mono ?_
    rintro e w14 ⟨rfl, b⟩
    replace HRm := Lib.hid (HRm.out.below b)
    replace HRm' := Lib.hid (HRm'.out.below b)
    replace HRd := Lib.hid (HRd.out.below b)
    replace HRd' := Lib.hid (HRd'.out.below b)
    replace HRx := Lib.hid (HRx.out.below b)
    replace HRx' := Lib.hid (HRx'.out.below b)
    replace HRa := Lib.hid (HRa.out.below b)
    replace HRb := Lib.hid (HRb.out.below b)
    replace HRk := Lib.hid (HRk.out.below b)
    replace HRl := Lib.hid (HRl.out.below b)
    replace BXm := Lib.hid (BXm.out.below b); replace cm_0 := BXm.out.cell0; replace cm_1 := BXm.out.cell1
    replace BXd := Lib.hid (BXd.out.below b); replace cd_0 := BXd.out.cell0; replace cd_1 := BXd.out.cell1
    replace BXx := Lib.hid (BXx.out.below b); replace cx_0 := BXx.out.cell0; replace cx_1 := BXx.out.cell1
    replace HB := Lib.hid (HB.out.trans (b.mono hs)); replace hs := HB.out.size
    clear b
    go_wp2_with fail
    refine (same_yes w14 Aa Ab 3 3 ca cb ([(V : Int), (E : Int), (F : Int)]) ([(V : Int), (E : Int), (F : Int)]) HRa.out HRb.out (by omega) (by omega) (rfl)).mono ?_
    rintro e w15 ⟨rfl, b⟩
    replace HRm := Lib.hid (HRm.out.below b)
    replace HRm' := Lib.hid (HRm'.out.below b)
    replace HRd := Lib.hid (HRd.out.below b)
    replace HRd' := Lib.hid (HRd'.out.below b)
    replace HRx := Lib.hid (HRx.out.below b)
    replace HRx' := Lib.hid (HRx'.out.below b)
    replace HRa := Lib.hid (HRa.out.below b)
    replace HRb := Lib.hid (HRb.out.below b)
    replace HRk := Lib.hid (HRk.out.below b)
    replace HRl := Lib.hid (HRl.out.below b)
    replace BXm := Lib.hid (BXm.out.below b); replace cm_0 := BXm.out.cell0; replace cm_1 := BXm.out.cell1
    replace BXd := Lib.hid (BXd.out.below b); replace cd_0 := BXd.out.cell0; replace cd_1 := BXd.out.cell1
    replace BXx := Lib.hid (BXx.out.below b); replace cx_0 := BXx.out.cell0; replace cx_1 := BXx.out.cell1
    replace HB := Lib.hid (HB.out.trans (b.mono hs)); replace hs := HB.out.size
    clear b
    go_wp2_with fail
    refine (same_yes w15 Ak Al M M ck cl (typeL t) (typeL t) HRk.out HRl.out (by omega) (by omega) (rfl)).mono ?_
    rintro e w16 ⟨rfl, b⟩
    replace HRm := Lib.hid (HRm.out.below b)
    replace HRm' := Lib.hid (HRm'.out.below b)
    replace HRd := Lib.hid (HRd.out.below b)
    replace HRd' := Lib.hid (HRd'.out.below b)
    replace HRx := Lib.hid (HRx.out.below b)
    replace HRx' := Lib.hid (HRx'.out.below b)
    replace HRa := Lib.hid (HRa.out.below b)
    replace HRb := Lib.hid (HRb.out.below b)
    replace HRk := Lib.hid (HRk.out.below b)
    replace HRl := Lib.hid (HRl.out.below b)
    replace BXm := Lib.hid (BXm.out.below b); replace cm_0 := BXm.out.cell0; replace cm_1 := BXm.out.cell1
    replace BXd := Lib.hid (BXd.out.below b); replace cd_0 := BXd.out.cell0; replace cd_1 := BXd.out.cell1
    replace BXx := Lib.hid (BXx.out.below b); replace cx_0 := BXx.out.cell0; replace cx_1 := BXx.out.cell1
    replace HB := Lib.hid (HB.out.trans (b.mono hs)); replace hs := HB.out.size
    clear b
    go_wp2_with fail
    go_ret
    exact ⟨rfl, HB.out⟩
  · have HV := Lib.hid hv
    go_wp2_with fail
    refine (impl_mirrorR w2 Am Am' nm nm' cm cm' t f HRm.out HRm'.out (by omega) (by omega) (ok := false) (yt := []) (yf := []) (by rw [mirrorR, if_neg HV.out])).mono ?_
    rintro e w3 ⟨u, u', rfl, o, b⟩
    have hl : ([] : List Int).length = 0 := rfl
    have hl' : ([] : List Int).length = 0 := rfl
    obtain ⟨Ad, cd, Ad', cd', rfl, rfl, r1, r2⟩ := o.form hl hl'
    have HRd := Lib.hid r1; have HRd' := Lib.hid r2; clear o hl hl' r1 r2
    replace HRm := Lib.hid (HRm.out.below b)
    replace HRm' := Lib.hid (HRm'.out.below b)
    replace BXm := Lib.hid (BXm.out.below b); replace cm_0 := BXm.out.cell0; replace cm_1 := BXm.out.cell1
    replace HB := Lib.hid (HB.out.trans (b.mono hs)); replace hs := HB.out.size
    clear b
    obtain ⟨w4, hWw4, hx, b, hz⟩ := Box.local_ w3 35 (.slice Ad 0 cd) (.slice Ad' 0 cd')
    have BXd := Lib.hid hx; clear hx hz
    replace HRm := Lib.hid (HRm.out.below b)
    replace HRm' := Lib.hid (HRm'.out.below b)
    replace HRd := Lib.hid (HRd.out.below b)
    replace HRd' := Lib.hid (HRd'.out.below b)
    replace BXm := Lib.hid (BXm.out.below b); replace cm_0 := BXm.out.cell0; replace cm_1 := BXm.out.cell1
    replace HB := Lib.hid (HB.out.trans (b.mono hs)); replace hs := HB.out.size
    clear b
    have cd_0 := BXd.out.cell0; have cd_1 := BXd.out.cell1
    go_wp2_with fail
    refine (spec_mirrorR w4 Am Am' nm nm' cm cm' t f HRm.out HRm'.out (by omega) (by omega) (ok := false) (yt := []) (yf := []) (by rw [mirrorR, if_neg HV.out])).mono ?_
    rintro e w5 ⟨u, u', rfl, o, b⟩
    have hl : ([] : List Int).length = 0 := rfl
    have hl' : ([] : List Int).length = 0 := rfl
    obtain ⟨Ae, ce, Ae', ce', rfl, rfl, r1, r2⟩ := o.form hl hl'
    have HRe := Lib.hid r1; have HRe' := Lib.hid r2; clear o hl hl' r1 r2
    replace HRm := Lib.hid (HRm.out.below b)
    replace HRm' := Lib.hid (HRm'.out.below b)
    replace HRd := Lib.hid (HRd.out.below b)
    replace HRd' := Lib.hid (HRd'.out.below b)
    replace BXm := Lib.hid (BXm.out.below b); replace cm_0 := BXm.out.cell0; replace cm_1 := BXm.out.cell1
    replace BXd := Lib.hid (BXd.out.below b); replace cd_0 := BXd.out.cell0; replace cd_1 := BXd.out.cell1
    replace HB := Lib.hid (HB.out.trans (b.mono hs)); replace hs := HB.out.size
    clear b
    obtain ⟨w6, hWw6, hx, b, hz⟩ := Box.local_ w5 35 (.slice Ae 0 ce) (.slice Ae' 0 ce')
    have BXe := Lib.hid hx; clear hx hz
    replace HRm := Lib.hid (HRm.out.below b)
    replace HRm' := Lib.hid (HRm'.out.below b)
    replace HRd := Lib.hid (HRd.out.below b)
    replace HRd' := Lib.hid (HRd'.out.below b)
    replace HRe := Lib.hid (HRe.out.below b)
    replace HRe' := Lib.hid (HRe'.out.below b)
    replace BXm := Lib.hid (BXm.out.below b); replace cm_0 := BXm.out.cell0; replace cm_1 := BXm.out.cell1
    replace BXd := Lib.hid (BXd.out.below b); replace cd_0 := BXd.out.cell0; replace cd_1 := BXd.out.cell1
    replace HB := Lib.hid (HB.out.trans (b.mono hs)); replace hs := HB.out.size
    clear b
    have ce_0 := BXe.out.cell0; have ce_1 := BXe.out.cell1
    go_wp2_with fail
    refine (same_map_yes w6 Ad Ad' Ae Ae' 0 0 cd cd' 0 0 ce ce' [] [] [] [] HRd.out HRd'.out HRe.out HRe'.out (by omega) (by omega) (by omega) (by omega) (rfl) (rfl)).mono ?_
    rintro e w7 ⟨rfl, b⟩
    replace HRm := Lib.hid (HRm.out.below b)
    replace HRm' := Lib.hid (HRm'.out.below b)
    replace HRd := Lib.hid (HRd.out.below b)
    replace HRd' := Lib.hid (HRd'.out.below b)
    replace HRe := Lib.hid (HRe.out.below b)
    replace HRe' := Lib.hid (HRe'.out.below b)
    replace BXm := Lib.hid (BXm.out.below b); replace cm_0 := BXm.out.cell0; replace cm_1 := BXm.out.cell1
    replace BXd := Lib.hid (BXd.out.below b); replace cd_0 := BXd.out.cell0; replace cd_1 := BXd.out.cell1
    replace BXe := Lib.hid (BXe.out.below b); replace ce_0 := BXe.out.cell0; replace ce_1 := BXe.out.cell1
    replace HB := Lib.hid (HB.out.trans (b.mono hs)); replace hs := HB.out.size
    clear b
    go_wp2_with fail
    refine (same_map_yes w7 Ad Ad' Ae Ae' 0 0 cd cd' 0 0 ce ce' [] [] [] [] HRd.out HRd'.out HRe.out HRe'.out (by omega) (by omega) (by omega) (by omega) (rfl) (rfl)).mono ?_
    rintro e w8 ⟨rfl, b⟩
    replace HRm := Lib.hid (HRm.out.below b)
    replace HRm' := Lib.hid (HRm'.out.below b)
    replace HRd := Lib.hid (HRd.out.below b)
    replace HRd' := Lib.hid (HRd'.out.below b)
    replace HRe := Lib.hid (HRe.out.below b)
    replace HRe' := Lib.hid (HRe'.out.below b)
    replace BXm := Lib.hid (BXm.out.below b); replace cm_0 := BXm.out.cell0; replace cm_1 := BXm.out.cell1
    replace BXd := Lib.hid (BXd.out.below b); replace cd_0 := BXd.out.cell0; replace cd_1 := BXd.out.cell1
    replace BXe := Lib.hid (BXe.out.below b); replace ce_0 := BXe.out.cell0; replace ce_1 := BXe.out.cell1
    replace HB := Lib.hid (HB.out.trans (b.mono hs)); replace hs := HB.out.size
    clear b
    go_wp2_with fail
    go_ret
    exact ⟨rfl, HB.out⟩

end Go.Proofs.Yteajaikgeephmaa
