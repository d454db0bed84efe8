/-
  FnChoiceQuasi: the walk of the law.
-/
import Derived.Test.YtimgpehibkjgkaaLawMap
import Derived.Test.YtimgpehibkjgkaaDrawCho
import Derived.Test.YtimgpehibkjgkaaQuaP
import Derived.Test.YtimgpehibkjgkaaGenus
import Derived.Test.YtimgpehibkjgkaaDual
import Derived.Test.YtimgpehibkjgkaaAbove
namespace Go.Proofs.Ytimgpehibkjgkaa
open Go.RowKit

set_option maxRecDepth 100000 in
set_option maxHeartbeats 6400000 in
theorem walk_FnChoiceQuasi (A0 : Option Addr) (n0 c0 : Nat) (bs0 : List Int) (w : World) (h0 : RdB w A0 n0 bs0) (hm0 : n0 ≤ maxLen ∧ n0 ≤ c0) :
    Calls Try.prog 3 #[.slice A0 n0 c0] w fun e w' => e = .returned (.bool true) ∧ Below w.heap.size w w' := by
  have HB0_0 := Lib.hid h0; have hc0 := hm0.2; have hml0 := hm0.1; clear h0 hm0; unfold maxLen at hml0
  by_cases hbig0 : 1048576 < n0
  · have hd : decide ((1048576 : Int) < n0) = true := by simp; omega
    go_enter Try.func3, Try.ntmps3
    go_wp2
    go_ret
    exact ⟨rfl, Below.refl _ _⟩
  have hd0 : decide ((1048576 : Int) < n0) = false := by simp; omega
  have hnb0 : n0 ≤ 1048576 := by omega
  clear hbig0
  go_enter Try.func3, Try.ntmps3
  go_wp2_with fail
  refine (drawChoiceQuasi_any w A0 n0 c0 bs0 HB0_0.out hnb0 hc0).mono ?_
  rintro e w1 ⟨Am, Am', nm, nm', cm, cm', t, f, v, xs, rfl, r1, r2, hlm, hlm', o, hlz, b⟩
  obtain ⟨nz, hn⟩ : ∃ n, xs.length = n := ⟨_, rfl⟩
  rw [hn] at hlz
  obtain ⟨Az, cz, rfl, -, -⟩ := o.form' hn
  have HRz := Lib.hid (o.rd hn); have HNz := Lib.hid hn; clear o hn
  have HNm := Lib.hid r1.1; have HNm' := Lib.hid r2.1; have HRm := Lib.hid r1; have HRm' := Lib.hid r2; clear r1 r2
  have HB := Lib.hid b; have hs := b.size; clear b
  obtain ⟨w2, hWw2, hx, b, hz⟩ := Box.local_ w1 25 (.slice Am nm cm) (.slice Am' nm' cm')
  have BXm := Lib.hid hx; clear hx hz
  replace HRm := Lib.hid (HRm.out.below b)
  replace HRm' := Lib.hid (HRm'.out.below b)
  replace HRz := Lib.hid (HRz.out.below b)
  replace HB := Lib.hid (HB.out.trans (b.mono hs)); replace hs := HB.out.size
  clear b
  have cm_0 := BXm.out.cell0; have cm_1 := BXm.out.cell1
  cases hv : quasiCB t f xs with
  | true =>
    have hv' := hv
    rw [quasiCB, Bool.and_eq_true] at hv'
    obtain ⟨r, a2, a3, own, b2, b3, other, hm, h6, r1, c1, c2, vd, qd, hlen, hg, o1, o2, o3, o4, hk2, -⟩ := quasi_facts hv'.1 hv'.2
    have HM := Lib.hid hm; have HV := Lib.hid hv
    obtain rfl : nm = nm' := by have := hm.len; rw [HNm.out, HNm'.out] at this; exact this
    have hqd : quasiCB (mulL f t) f (bL r) = true := by rw [quasiCB, vd, qd]; rfl
    obtain ⟨ys, hys⟩ : ∃ ys, bL r = ys := ⟨_, rfl⟩
    rw [hys] at r1 c2 hk2 hqd
    obtain ⟨k, hk⟩ : ∃ k, ys.length = k := ⟨_, rfl⟩
    obtain ⟨E, hE⟩ : ∃ E, f.length / 2 = E := ⟨_, rfl⟩
    obtain ⟨V, hV⟩ : ∃ V, cntV t = V := ⟨_, rfl⟩
    obtain ⟨F, hF⟩ : ∃ F, cntF t f = F := ⟨_, rfl⟩
    obtain ⟨g, hgg⟩ : ∃ g, genusOf t f = g := ⟨_, rfl⟩
    have hV12 : V ≤ 12 := by rw [← hV]; have := cyclesL_len (p := t); have := hm.turn.2.1; unfold cntV; omega
    rw [HNz.out, hV] at hlen
    rw [hgg] at hg
    rw [hE] at h6 hk2
    have hk12 : k ≤ 12 := by rw [hk] at hk2; omega
    have R1 := Lib.hid r1; have C1 := Lib.hid c1; have C2 := Lib.hid c2; have HQ := Lib.hid hqd; have HYL := Lib.hid hk; have HE : Hid (cntE f = E) := hE; have HVV := Lib.hid hV; have HF := Lib.hid hF
    have HG : Hid (genusR t f = g) := by rw [Hid, genusR, if_pos (mapV_iff.2 hm)]; exact hgg
    have hw1 : IntKind.i64.wrap ((V : Int) - 1) = (V : Int) - 1 := IntWalk.i64_in _ (by omega)
    have hw2 : IntKind.i64.wrap (2 * own) = 2 * own := IntWalk.i64_in _ (by omega)
    have hw3 : IntKind.i64.wrap ((V : Int) - 1 + 2 * own) = (nz : Int) := by rw [← hlen]; exact IntWalk.i64_in _ (by omega)
    have hw4 : IntKind.i64.wrap (own + other) = g := by rw [← hg]; exact IntWalk.i64_in _ (by omega)
    have hnn : ((nz : Int) == (nz : Int)) = true := by simp
    have hg1 : (g == g) = true := by simp
    clear r1 c1 c2 hqd hys hlen hg hk hE hV hF hgg hm hv hv' vd qd hk2 o1 o2 o3 o4
    go_wp2_with fail
    refine (impl_quasiCB w2 Am Am' nm nm cm cm' t f HRm.out HRm'.out (by omega) (by omega) Az cz nz xs HRz.out (by omega) HV.out).mono ?_
    rintro e w3 ⟨rfl, b⟩
    replace HRm := Lib.hid (HRm.out.below b)
    replace HRm' := Lib.hid (HRm'.out.below b)
    replace HRz := Lib.hid (HRz.out.below b)
    replace BXm := Lib.hid (BXm.out.below b); replace cm_0 := BXm.out.cell0; replace cm_1 := BXm.out.cell1
    replace HB := Lib.hid (HB.out.trans (b.mono hs)); replace hs := HB.out.size
    clear b
    go_wp2_with fail
    refine (spec_quasiCB w3 Am Am' nm nm cm cm' t f HRm.out HRm'.out (by omega) (by omega) Az cz nz xs HRz.out (by omega) HV.out).mono ?_
    rintro e w4 ⟨rfl, b⟩
    replace HRm := Lib.hid (HRm.out.below b)
    replace HRm' := Lib.hid (HRm'.out.below b)
    replace HRz := Lib.hid (HRz.out.below b)
    replace BXm := Lib.hid (BXm.out.below b); replace cm_0 := BXm.out.cell0; replace cm_1 := BXm.out.cell1
    replace HB := Lib.hid (HB.out.trans (b.mono hs)); replace hs := HB.out.size
    clear b
    go_wp2_with fail
    refine (impl_chRestR w4 Am Am' nm nm cm cm' t f HRm.out HRm'.out (by omega) (by omega) Az cz nz xs HRz.out (by omega) (ok := true) (ys := ys) (R1.out)).mono ?_
    rintro e w5 ⟨v, rfl, o, b⟩
    have hl : (ys : List Int).length = k := HYL.out
    obtain ⟨Ao, co, rfl, -, -⟩ := o.form' hl
    have HRo := Lib.hid (o.rd hl); clear o hl
    replace HRm := Lib.hid (HRm.out.below b)
    replace HRm' := Lib.hid (HRm'.out.below b)
    replace HRz := Lib.hid (HRz.out.below b)
    replace BXm := Lib.hid (BXm.out.below b); replace cm_0 := BXm.out.cell0; replace cm_1 := BXm.out.cell1
    replace HB := Lib.hid (HB.out.trans (b.mono hs)); replace hs := HB.out.size
    clear b
    go_wp2_with fail
    refine (impl_dualR w5 Am Am' nm nm cm cm' t f HRm.out HRm'.out (by omega) (by omega) (ok := true) (yt := mulL f t) (yf := f) (by rw [dualR, if_pos (mapV_iff.2 HM.out)])).mono ?_
    rintro e w6 ⟨u, u', rfl, o, b⟩
    have hl : (mulL f t : List Int).length = nm := (mulL_len _ _).trans HNm'.out
    have hl' : (f : List Int).length = nm := HNm'.out
    obtain ⟨Ad, cd, Ad', cd', rfl, rfl, r1, r2⟩ := o.form hl hl'
    have HRd := Lib.hid r1; have HRd' := Lib.hid r2; clear o hl hl' r1 r2
    replace HRm := Lib.hid (HRm.out.below b)
    replace HRm' := Lib.hid (HRm'.out.below b)
    replace HRz := Lib.hid (HRz.out.below b)
    replace HRo := Lib.hid (HRo.out.below b)
    replace BXm := Lib.hid (BXm.out.below b); replace cm_0 := BXm.out.cell0; replace cm_1 := BXm.out.cell1
    replace HB := Lib.hid (HB.out.trans (b.mono hs)); replace hs := HB.out.size
    clear b
    obtain ⟨w7, hWw7, hx, b, hz⟩ := Box.local_ w6 25 (.slice Ad nm cd) (.slice Ad' nm cd')
    have BXd := Lib.hid hx; clear hx hz
    replace HRm := Lib.hid (HRm.out.below b)
    replace HRm' := Lib.hid (HRm'.out.below b)
    replace HRz := Lib.hid (HRz.out.below b)
    replace HRo := Lib.hid (HRo.out.below b)
    replace HRd := Lib.hid (HRd.out.below b)
    replace HRd' := Lib.hid (HRd'.out.below b)
    replace BXm := Lib.hid (BXm.out.below b); replace cm_0 := BXm.out.cell0; replace cm_1 := BXm.out.cell1
    replace HB := Lib.hid (HB.out.trans (b.mono hs)); replace hs := HB.out.size
    clear b
    have cd_0 := BXd.out.cell0; have cd_1 := BXd.out.cell1
    go_wp2_with fail
    refine (impl_countsR w7 Am Am' nm nm cm cm' t f HRm.out HRm'.out (by omega) (by omega) (ok := true) (ys := [(V : Int), (E : Int), (F : Int)]) (by rw [countsR, if_pos (mapV_iff.2 HM.out), HVV.out, HE.out, HF.out])).mono ?_
    rintro e w8 ⟨v, rfl, o, b⟩
    have hl : ([(V : Int), (E : Int), (F : Int)] : List Int).length = 3 := rfl
    obtain ⟨Aa, ca, rfl, -, -⟩ := o.form' hl
    obtain ⟨ga, rfl, -, -, -⟩ := o.cellAt hl (k := 0) (by omega)
    have HRa := Lib.hid (o.rd hl); clear o hl
    replace HRm := Lib.hid (HRm.out.below b)
    replace HRm' := Lib.hid (HRm'.out.below b)
    replace HRz := Lib.hid (HRz.out.below b)
    replace HRo := Lib.hid (HRo.out.below b)
    replace HRd := Lib.hid (HRd.out.below b)
    replace HRd' := Lib.hid (HRd'.out.below b)
    replace BXm := Lib.hid (BXm.out.below b); replace cm_0 := BXm.out.cell0; replace cm_1 := BXm.out.cell1
    replace BXd := Lib.hid (BXd.out.below b); replace cd_0 := BXd.out.cell0; replace cd_1 := BXd.out.cell1
    replace HB := Lib.hid (HB.out.trans (b.mono hs)); replace hs := HB.out.size
    clear b
    go_wp2_with fail
    refine (impl_ccR w8 Am Am' nm nm cm cm' t f HRm.out HRm'.out (by omega) (by omega) Az cz nz xs HRz.out (by omega) (ok := true) (ys := [(1 : Int), (1 : Int), a2, a3, own]) (C1.out)).mono ?_
    rintro e w9 ⟨v, rfl, o, b⟩
    have hl : ([(1 : Int), (1 : Int), a2, a3, own] : List Int).length = 5 := rfl
    obtain ⟨Al, cl, rfl, -, -⟩ := o.form' hl
    obtain ⟨gl, rfl, -, -, -⟩ := o.cellAt hl (k := 0) (by omega)
    have HRl := Lib.hid (o.rd hl); clear o hl
    replace HRm := Lib.hid (HRm.out.below b)
    replace HRm' := Lib.hid (HRm'.out.below b)
    replace HRz := Lib.hid (HRz.out.below b)
    replace HRo := Lib.hid (HRo.out.below b)
    replace HRd := Lib.hid (HRd.out.below b)
    replace HRd' := Lib.hid (HRd'.out.below b)
    replace HRa := Lib.hid (HRa.out.below b)
    replace BXm := Lib.hid (BXm.out.below b); replace cm_0 := BXm.out.cell0; replace cm_1 := BXm.out.cell1
    replace BXd := Lib.hid (BXd.out.below b); replace cd_0 := BXd.out.cell0; replace cd_1 := BXd.out.cell1
    replace HB := Lib.hid (HB.out.trans (b.mono hs)); replace hs := HB.out.size
    clear b
    go_wp2_with fail
    refine (impl_ccR w9 Ad Ad' nm nm cd cd' (mulL f t) f HRd.out HRd'.out (by omega) (by omega) Ao co k ys HRo.out (by omega) (ok := true) (ys := [(1 : Int), (1 : Int), b2, b3, other]) (C2.out)).mono ?_
    rintro e w10 ⟨v, rfl, o, b⟩
    have hl : ([(1 : Int), (1 : Int), b2, b3, other] : List Int).length = 5 := rfl
    obtain ⟨Aq, cq, rfl, -, -⟩ := o.form' hl
    obtain ⟨gq, rfl, -, -, -⟩ := o.cellAt hl (k := 0) (by omega)
    have HRq := Lib.hid (o.rd hl); clear o hl
    replace HRm := Lib.hid (HRm.out.below b)
    replace HRm' := Lib.hid (HRm'.out.below b)
    replace HRz := Lib.hid (HRz.out.below b)
    replace HRo := Lib.hid (HRo.out.below b)
    replace HRd := Lib.hid (HRd.out.below b)
    replace HRd' := Lib.hid (HRd'.out.below b)
    replace HRa := Lib.hid (HRa.out.below b)
    replace HRl := Lib.hid (HRl.out.below b)
    replace BXm := Lib.hid (BXm.out.below b); replace cm_0 := BXm.out.cell0; replace cm_1 := BXm.out.cell1
    replace BXd := Lib.hid (BXd.out.below b); replace cd_0 := BXd.out.cell0; replace cd_1 := BXd.out.cell1
    replace HB := Lib.hid (HB.out.trans (b.mono hs)); replace hs := HB.out.size
    clear b
    have qa0 : w10.cell? ⟨ga, 0, none⟩ = some (.int .i64 (V : Int)) := HRa.out.getg (j := 0) (by omega)
    have ql4 : w10.cell? ⟨gl, 4, none⟩ = some (.int .i64 own) := HRl.out.getg (j := 4) (by omega)
    have qq4 : w10.cell? ⟨gq, 4, none⟩ = some (.int .i64 other) := HRq.out.getg (j := 4) (by omega)
    have ka0 : ∀ p : Above w10, p.to.cell? ⟨ga, 0, none⟩ = some (.int .i64 (V : Int)) := fun p => (HRa.out.below p.b).getg (j := 0) (by omega)
    have kl4 : ∀ p : Above w10, p.to.cell? ⟨gl, 4, none⟩ = some (.int .i64 own) := fun p => (HRl.out.below p.b).getg (j := 4) (by omega)
    have kq4 : ∀ p : Above w10, p.to.cell? ⟨gq, 4, none⟩ = some (.int .i64 other) := fun p => (HRq.out.below p.b).getg (j := 4) (by omega)
    have km_0 := fun p : Above w10 => (BXm.out.below p.b).cell0; have km_1 := fun p : Above w10 => (BXm.out.below p.b).cell1
    have kd_0 := fun p : Above w10 => (BXd.out.below p.b).cell0; have kd_1 := fun p : Above w10 => (BXd.out.below p.b).cell1
    have HCm : Hid (∀ p : Above w10, Calls Try.prog 11 #[.agg #[.slice Am nm cm, .slice Am' nm cm']] p.to fun e w'' => e = .returned (.int .i64 g) ∧ ∃ q : Above w10, w'' = q.to) := fun p => Above.calls (impl_genusR _ Am Am' nm nm cm cm' t f (HRm.out.below p.b) (HRm'.out.below p.b) (by omega) (by omega) HG.out)
    have HCq : Hid (∀ p : Above w10, Calls Try.prog 5 #[.agg #[.slice Ad nm cd, .slice Ad' nm cd'], .slice Ao k co] p.to fun e w'' => e = .returned (.bool true) ∧ ∃ q : Above w10, w'' = q.to) := fun p => Above.calls (impl_quasiCB _ Ad Ad' nm nm cd cd' (mulL f t) f (HRd.out.below p.b) (HRd'.out.below p.b) (by omega) (by omega) Ao co k ys (HRo.out.below p.b) (by omega) HQ.out)
    go_wp2_with fail
    refine wp_region_quiet_above (by kernel_rfl) (by kernel_rfl) ?_
    repeat (quiet_step (first | (go_at_call 11; with_reducible exact HCm.out _) | (go_at_call 5; with_reducible exact HCq.out _)))
    refine wpQuiet_nil ?_
    intro _ hw'
    obtain ⟨pq, hw''⟩ := hw'
    subst hw''
    go_wp2
    go_ret
    exact ⟨rfl, HB.out.trans (pq.b.mono hs)⟩
  | false =>
    have HV := Lib.hid hv; clear hv
    go_wp2_with fail
    refine (impl_quasiCB w2 Am Am' nm nm' cm cm' t f HRm.out HRm'.out (by omega) (by omega) Az cz nz xs HRz.out (by omega) HV.out).mono ?_
    rintro e w3 ⟨rfl, b⟩
    replace HRm := Lib.hid (HRm.out.below b)
    replace HRm' := Lib.hid (HRm'.out.below b)
    replace HRz := Lib.hid (HRz.out.below b)
    replace BXm := Lib.hid (BXm.out.below b); replace cm_0 := BXm.out.cell0; replace cm_1 := BXm.out.cell1
    replace HB := Lib.hid (HB.out.trans (b.mono hs)); replace hs := HB.out.size
    clear b
    go_wp2_with fail
    refine (spec_quasiCB w3 Am Am' nm nm' cm cm' t f HRm.out HRm'.out (by omega) (by omega) Az cz nz xs HRz.out (by omega) HV.out).mono ?_
    rintro e w4 ⟨rfl, b⟩
    replace HRm := Lib.hid (HRm.out.below b)
    replace HRm' := Lib.hid (HRm'.out.below b)
    replace HRz := Lib.hid (HRz.out.below b)
    replace BXm := Lib.hid (BXm.out.below b); replace cm_0 := BXm.out.cell0; replace cm_1 := BXm.out.cell1
    replace HB := Lib.hid (HB.out.trans (b.mono hs)); replace hs := HB.out.size
    clear b
    go_wp2_with fail
    go_ret
    exact ⟨rfl, HB.out⟩

end Go.Proofs.Ytimgpehibkjgkaa
