/-
  FnKind: the walk of the law.
-/
import Derived.Test.YtcenffndclpjoaaLawMap
import Derived.Test.YtcenffndclpjoaaDrawQ
import Derived.Test.YtcenffndclpjoaaSubE
import Derived.Test.YtcenffndclpjoaaRibC
import Derived.Test.YtcenffndclpjoaaRibR
import Derived.Test.YtcenffndclpjoaaGenus
import Derived.Test.YtcenffndclpjoaaDual
import Derived.Test.YtcenffndclpjoaaMirror
import Derived.Test.YtcenffndclpjoaaCounts
namespace Go.Proofs.Ytcenffndclpjoaa
open Go.RowKit

set_option maxRecDepth 100000 in
set_option maxHeartbeats 6400000 in
theorem walk_FnKind (A0 : Option Addr) (n0 c0 : Nat) (bs0 : List Int) (w : World) (h0 : RdB w A0 n0 bs0) (hm0 : n0 ≤ maxLen ∧ n0 ≤ c0) :
    Calls Try.prog 6 #[.slice A0 n0 c0] w fun e w' => e = .returned (.bool true) ∧ Below w.heap.size w w' := by
  have HB0_0 := Lib.hid h0; have hc0 := hm0.2; have hml0 := hm0.1; clear h0 hm0; unfold maxLen at hml0
  by_cases hbig0 : 1048576 < n0
  · have hd : decide ((1048576 : Int) < n0) = true := by simp; omega
    go_enter Try.func6, Try.ntmps6
    go_wp2
    go_ret
    exact ⟨rfl, Below.refl _ _⟩
  have hd0 : decide ((1048576 : Int) < n0) = false := by simp; omega
  have hnb0 : n0 ≤ 1048576 := by omega
  clear hbig0
  go_enter Try.func6, Try.ntmps6
  go_wp2_with fail
  refine (drawEdgeKind_any w A0 n0 c0 bs0 HB0_0.out hnb0 hc0).mono ?_
  rintro e w1 ⟨Am, Am', nm, nm', cm, cm', t, f, x, rfl, r1, r2, hlm, hlm', hx0, b⟩
  have HNm := Lib.hid r1.1; have HNm' := Lib.hid r2.1; have HRm := Lib.hid r1; have HRm' := Lib.hid r2; clear r1 r2
  have HB := Lib.hid b; have hs := b.size; clear b
  obtain ⟨w2, hWw2, hx, b, hz⟩ := Box.local_ w1 25 (.slice Am nm cm) (.slice Am' nm' cm')
  have BXm := Lib.hid hx; clear hx hz
  replace HRm := Lib.hid (HRm.out.below b)
  replace HRm' := Lib.hid (HRm'.out.below b)
  replace HB := Lib.hid (HB.out.trans (b.mono hs)); replace hs := HB.out.size
  clear b
  have cm_0 := BXm.out.cell0; have cm_1 := BXm.out.cell1
  have hwx : (Lit.int .i64 x).wf = true := wf_far (by omega)
  cases hv : mapV t f with
  | true =>
    cases he : hasEB (f.length / 2) x with
    | true =>
      have hm := mapV_iff.1 hv
      have h6 : f.length / 2 ≤ 6 := by have := hm.flip.2.1; omega
      have HM := Lib.hid hm
      obtain ⟨e, rfl, hel⟩ : ∃ e : Nat, x = e ∧ e < f.length / 2 := by
        unfold hasEB inB at he
        have he2 := of_decide_eq_true he
        exact ⟨x.toNat, by omega, by omega⟩
      obtain ⟨k1, k2, k3, k4, k5, k6, k7⟩ := kind_facts hm h6 hel
      obtain rfl : nm = nm' := by have := hm.len; rw [HNm.out, HNm'.out] at this; exact this
      have heD : hasEB (f.length / 2) (e : Int) = true := he
      have c1 : kdR t f (e : Int) = kindE t f e := by rw [kdR, if_pos ⟨hv, he⟩, Int.toNat_natCast]
      have c2 : kdR (mulL f t) f (e : Int) = kindE (mulL f t) f e := by rw [kdR, if_pos ⟨mapV_iff.2 hm.dual, he⟩, Int.toNat_natCast]
      have c3 : kdR (backL t) f (e : Int) = kindE t f e := by rw [kdR, if_pos ⟨mapV_iff.2 hm.mirror, he⟩, Int.toNat_natCast, k1]
      obtain ⟨b1, b2, b3, -⟩ := but_in (f.length / 2) (by omega) e hel
      have r1 : chRestR t f [(e : Int)] = (true, bL (butE (f.length / 2) e)) := by rw [chRestR, chRestR', if_pos (chV_one hm hel), rest_one (by omega) hel]
      have r2 : ccR t f (bL (butE (f.length / 2) e)) = (true, subL t f (butE (f.length / 2) e)) := by
        obtain ⟨u1, u2, -⟩ := chV_of hm b1
        rw [ccR, if_pos u1, u2]
      have h1E : 1 ≤ f.length / 2 := by omega
      obtain ⟨P, hP⟩ : ∃ P, ptsN t f (butE (f.length / 2) e) = P := ⟨_, rfl⟩
      obtain ⟨S, hS⟩ : ∃ S, sidN t f (butE (f.length / 2) e) = S := ⟨_, rfl⟩
      obtain ⟨ys, hys⟩ : ∃ ys, bL (butE (f.length / 2) e) = ys := ⟨_, rfl⟩
      have hlys : ys.length ≤ 12 := by rw [← hys]; have h := (bit_facts _ b2 e (by omega) (but_full (f.length / 2) (by omega) e hel).1).1; rw [(but_full (f.length / 2) (by omega) e hel).2] at h; have := (full_facts (f.length / 2) (by omega) 0 (by omega) (Nat.two_pow_pos _)).2.2.2.1; omega
      have hsub : subL t f (butE (f.length / 2) e) = [(P : Int), (S : Int), (cntV t : Int) - P, (ys.length : Int) - ((cntV t : Int) - P), (2 * (P : Int) - cntV t + ys.length - S).tdiv 2] := by rw [subL, hP, hS, hys]; rfl
      obtain ⟨a2, ha2⟩ : ∃ a, (cntV t : Int) - P = a := ⟨_, rfl⟩
      obtain ⟨a3, ha3⟩ : ∃ a, (ys.length : Int) - a2 = a := ⟨_, rfl⟩
      obtain ⟨a4, ha4⟩ : ∃ a, (2 * (P : Int) - cntV t + ys.length - S).tdiv 2 = a := ⟨_, rfl⟩
      rw [ha2, ha3, ha4] at hsub
      rw [hP] at k2
      rw [hys] at r1 r2
      rw [hsub] at r2
      obtain ⟨k, hk⟩ : ∃ k, ys.length = k := ⟨_, rfl⟩
      obtain ⟨q, hq⟩ : ∃ q, kindE t f e = q := ⟨_, rfl⟩
      obtain ⟨q', hq'⟩ : ∃ q, kindE (mulL f t) f e = q := ⟨_, rfl⟩
      obtain ⟨E, hE⟩ : ∃ E, f.length / 2 = E := ⟨_, rfl⟩
      obtain ⟨V, hV⟩ : ∃ V, cntV t = V := ⟨_, rfl⟩
      obtain ⟨F, hF⟩ : ∃ F, cntF t f = F := ⟨_, rfl⟩
      obtain ⟨g, hgg⟩ : ∃ g, genusOf t f = g := ⟨_, rfl⟩
      rw [hq] at c1 c3 k2 k3 k4 k5
      rw [hq'] at c2 k3 k6 k7
      rw [hgg] at k3
      rw [hk] at hlys
      rw [hE] at h1E h6
      have C1 := Lib.hid c1; have C2 := Lib.hid c2; have C3 := Lib.hid c3; have R1 := Lib.hid r1; have R2 := Lib.hid r2; have HYL := Lib.hid hk; have HE : Hid (cntE f = E) := hE; have HVV := Lib.hid hV; have HF := Lib.hid hF
      have HG : Hid (genusR t f = g) := by rw [Hid, genusR, if_pos hv]; exact hgg
      have hqq : (q == q) = true := by simp
      have hqn : (q != q) = false := by simp
      have hq0 : decide (q < 0) = false := by simp; omega
      have hE1 : decide ((1 : Int) ≤ (E : Int)) = true := by simp; omega
      have f1 : ((q == 1) == ((P : Int) == 2)) = true := by
        rw [beq_iff_eq, Bool.eq_iff_iff, beq_iff_eq, beq_iff_eq]
        constructor
        · intro h; have := k2.1 h; omega
        · intro h; exact k2.2 (by omega)
      have f2 : g = 0 → ((q == 1) == (q' == 2)) = true ∧ ((q == 2) == (q' == 1)) = true := by
        intro h
        obtain ⟨x1, x2⟩ := k3 h
        exact ⟨by rw [beq_iff_eq, Bool.eq_iff_iff, beq_iff_eq, beq_iff_eq]; exact x1, by rw [beq_iff_eq, Bool.eq_iff_iff, beq_iff_eq, beq_iff_eq]; exact x2⟩
      clear c1 c2 c3 r1 r2 k1 k2 k3 hk hE hV hF hgg hm hv he heD b1 b2 b3 hsub ha2 ha3 ha4 hq hq' hP hS hys k4 k5 k6 k7 hel
      go_wp2_with fail
      refine (impl_kdR w2 Am Am' nm nm cm cm' t f HRm.out HRm'.out (by omega) (by omega) ((e : Int)) (hwx) C1.out).mono ?_
      rintro e w3 ⟨rfl, b⟩
      replace HRm := Lib.hid (HRm.out.below b)
      replace HRm' := Lib.hid (HRm'.out.below b)
      replace BXm := Lib.hid (BXm.out.below b); replace cm_0 := BXm.out.cell0; replace cm_1 := BXm.out.cell1
      replace HB := Lib.hid (HB.out.trans (b.mono hs)); replace hs := HB.out.size
      clear b
      go_wp2_with fail
      refine (spec_kdR w3 Am Am' nm nm cm cm' t f HRm.out HRm'.out (by omega) (by omega) ((e : Int)) (hwx) C1.out).mono ?_
      rintro e w4 ⟨rfl, b⟩
      replace HRm := Lib.hid (HRm.out.below b)
      replace HRm' := Lib.hid (HRm'.out.below b)
      replace BXm := Lib.hid (BXm.out.below b); replace cm_0 := BXm.out.cell0; replace cm_1 := BXm.out.cell1
      replace HB := Lib.hid (HB.out.trans (b.mono hs)); replace hs := HB.out.size
      clear b
      go_wp2_with fail
      refine (impl_dualR w4 Am Am' nm nm cm cm' t f HRm.out HRm'.out (by omega) (by omega) (ok := true) (yt := mulL f t) (yf := f) (by rw [dualR, if_pos (mapV_iff.2 HM.out)])).mono ?_
      rintro e w5 ⟨u, u', rfl, o, b⟩
      have hl : (mulL f t : List Int).length = nm := (mulL_len _ _).trans HNm'.out
      have hl' : (f : List Int).length = nm := HNm'.out
      obtain ⟨Ad, cd, Ad', cd', rfl, rfl, r1, r2⟩ := o.form hl hl'
      have HRd := Lib.hid r1; have HRd' := Lib.hid r2; clear o hl hl' r1 r2
      replace HRm := Lib.hid (HRm.out.below b)
      replace HRm' := Lib.hid (HRm'.out.below b)
      replace BXm := Lib.hid (BXm.out.below b); replace cm_0 := BXm.out.cell0; replace cm_1 := BXm.out.cell1
      replace HB := Lib.hid (HB.out.trans (b.mono hs)); replace hs := HB.out.size
      clear b
      obtain ⟨w6, hWw6, hx, b, hz⟩ := Box.local_ w5 25 (.slice Ad nm cd) (.slice Ad' nm cd')
      have BXd := Lib.hid hx; clear hx hz
      replace HRm := Lib.hid (HRm.out.below b)
      replace HRm' := Lib.hid (HRm'.out.below b)
      replace HRd := Lib.hid (HRd.out.below b)
      replace HRd' := Lib.hid (HRd'.out.below b)
      replace BXm := Lib.hid (BXm.out.below b); replace cm_0 := BXm.out.cell0; replace cm_1 := BXm.out.cell1
      replace HB := Lib.hid (HB.out.trans (b.mono hs)); replace hs := HB.out.size
      clear b
      have cd_0 := BXd.out.cell0; have cd_1 := BXd.out.cell1
      go_wp2_with fail
      refine (impl_mirrorR w6 Am Am' nm nm cm cm' t f HRm.out HRm'.out (by omega) (by omega) (ok := true) (yt := backL t) (yf := f) (by rw [mirrorR, if_pos (mapV_iff.2 HM.out)])).mono ?_
      rintro e w7 ⟨u, u', rfl, o, b⟩
      have hl : (backL t : List Int).length = nm := (backL_len _).trans HNm.out
      have hl' : (f : List Int).length = nm := HNm'.out
      obtain ⟨Ar, cr, Ar', cr', rfl, rfl, r1, r2⟩ := o.form hl hl'
      have HRr := Lib.hid r1; have HRr' := Lib.hid r2; clear o hl hl' r1 r2
      replace HRm := Lib.hid (HRm.out.below b)
      replace HRm' := Lib.hid (HRm'.out.below b)
      replace HRd := Lib.hid (HRd.out.below b)
      replace HRd' := Lib.hid (HRd'.out.below b)
      replace BXm := Lib.hid (BXm.out.below b); replace cm_0 := BXm.out.cell0; replace cm_1 := BXm.out.cell1
      replace BXd := Lib.hid (BXd.out.below b); replace cd_0 := BXd.out.cell0; replace cd_1 := BXd.out.cell1
      replace HB := Lib.hid (HB.out.trans (b.mono hs)); replace hs := HB.out.size
      clear b
      obtain ⟨w8, hWw8, hx, b, hz⟩ := Box.local_ w7 25 (.slice Ar nm cr) (.slice Ar' nm cr')
      have BXr := Lib.hid hx; clear hx hz
      replace HRm := Lib.hid (HRm.out.below b)
      replace HRm' := Lib.hid (HRm'.out.below b)
      replace HRd := Lib.hid (HRd.out.below b)
      replace HRd' := Lib.hid (HRd'.out.below b)
      replace HRr := Lib.hid (HRr.out.below b)
      replace HRr' := Lib.hid (HRr'.out.below b)
      replace BXm := Lib.hid (BXm.out.below b); replace cm_0 := BXm.out.cell0; replace cm_1 := BXm.out.cell1
      replace BXd := Lib.hid (BXd.out.below b); replace cd_0 := BXd.out.cell0; replace cd_1 := BXd.out.cell1
      replace HB := Lib.hid (HB.out.trans (b.mono hs)); replace hs := HB.out.size
      clear b
      have cr_0 := BXr.out.cell0; have cr_1 := BXr.out.cell1
      go_wp2_with fail
      refine (impl_countsR w8 Am Am' nm nm cm cm' t f HRm.out HRm'.out (by omega) (by omega) (ok := true) (ys := [(V : Int), (E : Int), (F : Int)]) (by rw [countsR, if_pos (mapV_iff.2 HM.out), HVV.out, HE.out, HF.out])).mono ?_
      rintro e w9 ⟨v, rfl, o, b⟩
      have hl : ([(V : Int), (E : Int), (F : Int)] : List Int).length = 3 := rfl
      obtain ⟨Aa, ca, rfl, -, -⟩ := o.form' hl
      obtain ⟨ga, rfl, -, -, -⟩ := o.cellAt hl (k := 0) (by omega)
      have HRa := Lib.hid (o.rd hl); clear o hl
      replace HRm := Lib.hid (HRm.out.below b)
      replace HRm' := Lib.hid (HRm'.out.below b)
      replace HRd := Lib.hid (HRd.out.below b)
      replace HRd' := Lib.hid (HRd'.out.below b)
      replace HRr := Lib.hid (HRr.out.below b)
      replace HRr' := Lib.hid (HRr'.out.below b)
      replace BXm := Lib.hid (BXm.out.below b); replace cm_0 := BXm.out.cell0; replace cm_1 := BXm.out.cell1
      replace BXd := Lib.hid (BXd.out.below b); replace cd_0 := BXd.out.cell0; replace cd_1 := BXd.out.cell1
      replace BXr := Lib.hid (BXr.out.below b); replace cr_0 := BXr.out.cell0; replace cr_1 := BXr.out.cell1
      replace HB := Lib.hid (HB.out.trans (b.mono hs)); replace hs := HB.out.size
      clear b
      go_wp2_with fail
      refine (impl_kdR w9 Ad Ad' nm nm cd cd' (mulL f t) f HRd.out HRd'.out (by omega) (by omega) ((e : Int)) (hwx) C2.out).mono ?_
      rintro e w10 ⟨rfl, b⟩
      replace HRm := Lib.hid (HRm.out.below b)
      replace HRm' := Lib.hid (HRm'.out.below b)
      replace HRd := Lib.hid (HRd.out.below b)
      replace HRd' := Lib.hid (HRd'.out.below b)
      replace HRr := Lib.hid (HRr.out.below b)
      replace HRr' := Lib.hid (HRr'.out.below b)
      replace HRa := Lib.hid (HRa.out.below b)
      replace BXm := Lib.hid (BXm.out.below b); replace cm_0 := BXm.out.cell0; replace cm_1 := BXm.out.cell1
      replace BXd := Lib.hid (BXd.out.below b); replace cd_0 := BXd.out.cell0; replace cd_1 := BXd.out.cell1
      replace BXr := Lib.hid (BXr.out.below b); replace cr_0 := BXr.out.cell0; replace cr_1 := BXr.out.cell1
      replace HB := Lib.hid (HB.out.trans (b.mono hs)); replace hs := HB.out.size
      clear b
      go_wp2_with fail
      obtain ⟨w11, hWlit⟩ : ∃ W, w10.alloc (.cells #[.int .i64 (e : Int)] 3) = W := ⟨_, rfl⟩
      have ol : Own w11 w10.heap.size (.slice (some ⟨w10.heap.size, 0, none⟩) 1 1) [(e : Int)] := by
        rw [← hWlit]
        exact World.ownsRow_lit (base := w10.heap.size) (e := 3) (size := 1) w10 #[.int .i64 (e : Int)] 1 (Nat.le_refl _) (by unfold maxLen; omega) (by simp)
      have b : Below w10.heap.size w10 w11 := by rw [← hWlit]; exact (Below.refl _ _).alloc (Nat.le_refl _) _
      obtain ⟨gl, hgl⟩ : ∃ g, w10.heap.size = g := ⟨_, rfl⟩
      rw [hWlit, hgl]
      rw [hgl] at ol
      have HRe := Lib.hid (ol.rd (n := 1) rfl)
      clear ol
      replace HRm := Lib.hid (HRm.out.below b)
      replace HRm' := Lib.hid (HRm'.out.below b)
      replace HRd := Lib.hid (HRd.out.below b)
      replace HRd' := Lib.hid (HRd'.out.below b)
      replace HRr := Lib.hid (HRr.out.below b)
      replace HRr' := Lib.hid (HRr'.out.below b)
      replace HRa := Lib.hid (HRa.out.below b)
      replace BXm := Lib.hid (BXm.out.below b); replace cm_0 := BXm.out.cell0; replace cm_1 := BXm.out.cell1
      replace BXd := Lib.hid (BXd.out.below b); replace cd_0 := BXd.out.cell0; replace cd_1 := BXd.out.cell1
      replace BXr := Lib.hid (BXr.out.below b); replace cr_0 := BXr.out.cell0; replace cr_1 := BXr.out.cell1
      replace HB := Lib.hid (HB.out.trans (b.mono hs)); replace hs := HB.out.size
      clear b
      refine (impl_chRestR w11 Am Am' nm nm cm cm' t f HRm.out HRm'.out (by omega) (by omega) (some ⟨gl, 0, none⟩) 1 1 [(e : Int)] HRe.out (by omega) (ok := true) (ys := ys) (R1.out)).mono ?_
      rintro e w12 ⟨v, rfl, o, b⟩
      have hl : (ys : List Int).length = k := HYL.out
      obtain ⟨Ao, co, rfl, -, -⟩ := o.form' hl
      have HRo := Lib.hid (o.rd hl); clear o hl
      replace HRm := Lib.hid (HRm.out.below b)
      replace HRm' := Lib.hid (HRm'.out.below b)
      replace HRd := Lib.hid (HRd.out.below b)
      replace HRd' := Lib.hid (HRd'.out.below b)
      replace HRr := Lib.hid (HRr.out.below b)
      replace HRr' := Lib.hid (HRr'.out.below b)
      replace HRa := Lib.hid (HRa.out.below b)
      replace HRe := Lib.hid (HRe.out.below b)
      replace BXm := Lib.hid (BXm.out.below b); replace cm_0 := BXm.out.cell0; replace cm_1 := BXm.out.cell1
      replace BXd := Lib.hid (BXd.out.below b); replace cd_0 := BXd.out.cell0; replace cd_1 := BXd.out.cell1
      replace BXr := Lib.hid (BXr.out.below b); replace cr_0 := BXr.out.cell0; replace cr_1 := BXr.out.cell1
      replace HB := Lib.hid (HB.out.trans (b.mono hs)); replace hs := HB.out.size
      clear b
      go_wp2_with fail
      refine (impl_ccR w12 Am Am' nm nm cm cm' t f HRm.out HRm'.out (by omega) (by omega) Ao co k ys HRo.out (by omega) (ok := true) (ys := [(P : Int), (S : Int), a2, a3, a4]) (R2.out)).mono ?_
      rintro e w13 ⟨v, rfl, o, b⟩
      have hl : ([(P : Int), (S : Int), a2, a3, a4] : List Int).length = 5 := rfl
      obtain ⟨Al, cl, rfl, -, -⟩ := o.form' hl
      obtain ⟨gl, rfl, -, -, -⟩ := o.cellAt hl (k := 0) (by omega)
      have HRl := Lib.hid (o.rd hl); clear o hl
      replace HRm := Lib.hid (HRm.out.below b)
      replace HRm' := Lib.hid (HRm'.out.below b)
      replace HRd := Lib.hid (HRd.out.below b)
      replace HRd' := Lib.hid (HRd'.out.below b)
      replace HRr := Lib.hid (HRr.out.below b)
      replace HRr' := Lib.hid (HRr'.out.below b)
      replace HRa := Lib.hid (HRa.out.below b)
      replace HRe := Lib.hid (HRe.out.below b)
      replace HRo := Lib.hid (HRo.out.below b)
      replace BXm := Lib.hid (BXm.out.below b); replace cm_0 := BXm.out.cell0; replace cm_1 := BXm.out.cell1
      replace BXd := Lib.hid (BXd.out.below b); replace cd_0 := BXd.out.cell0; replace cd_1 := BXd.out.cell1
      replace BXr := Lib.hid (BXr.out.below b); replace cr_0 := BXr.out.cell0; replace cr_1 := BXr.out.cell1
      replace HB := Lib.hid (HB.out.trans (b.mono hs)); replace hs := HB.out.size
      clear b
      go_wp2_with fail
      refine (impl_genusR w13 Am Am' nm nm cm cm' t f HRm.out HRm'.out (by omega) (by omega) HG.out).mono ?_
      rintro e w14 ⟨rfl, b⟩
      replace HRm := Lib.hid (HRm.out.below b)
      replace HRm' := Lib.hid (HRm'.out.below b)
      replace HRd := Lib.hid (HRd.out.below b)
      replace HRd' := Lib.hid (HRd'.out.below b)
      replace HRr := Lib.hid (HRr.out.below b)
      replace HRr' := Lib.hid (HRr'.out.below b)
      replace HRa := Lib.hid (HRa.out.below b)
      replace HRe := Lib.hid (HRe.out.below b)
      replace HRo := Lib.hid (HRo.out.below b)
      replace HRl := Lib.hid (HRl.out.below b)
      replace BXm := Lib.hid (BXm.out.below b); replace cm_0 := BXm.out.cell0; replace cm_1 := BXm.out.cell1
      replace BXd := Lib.hid (BXd.out.below b); replace cd_0 := BXd.out.cell0; replace cd_1 := BXd.out.cell1
      replace BXr := Lib.hid (BXr.out.below b); replace cr_0 := BXr.out.cell0; replace cr_1 := BXr.out.cell1
      replace HB := Lib.hid (HB.out.trans (b.mono hs)); replace hs := HB.out.size
      clear b
      by_cases hg : g = 0
      · obtain ⟨f3, f4⟩ := f2 hg
        have hgz : (g == 0) = true := by simpa using hg
        clear f2 hg
        go_wp2_with fail
        refine (impl_kdR w14 Ar Ar' nm nm cr cr' (backL t) f HRr.out HRr'.out (by omega) (by omega) ((e : Int)) (hwx) C3.out).mono ?_
        rintro e w15 ⟨rfl, b⟩
        replace HRm := Lib.hid (HRm.out.below b)
        replace HRm' := Lib.hid (HRm'.out.below b)
        replace HRd := Lib.hid (HRd.out.below b)
        replace HRd' := Lib.hid (HRd'.out.below b)
        replace HRr := Lib.hid (HRr.out.below b)
        replace HRr' := Lib.hid (HRr'.out.below b)
        replace HRa := Lib.hid (HRa.out.below b)
        replace HRe := Lib.hid (HRe.out.below b)
        replace HRo := Lib.hid (HRo.out.below b)
        replace HRl := Lib.hid (HRl.out.below b)
        replace BXm := Lib.hid (BXm.out.below b); replace cm_0 := BXm.out.cell0; replace cm_1 := BXm.out.cell1
        replace BXd := Lib.hid (BXd.out.below b); replace cd_0 := BXd.out.cell0; replace cd_1 := BXd.out.cell1
        replace BXr := Lib.hid (BXr.out.below b); replace cr_0 := BXr.out.cell0; replace cr_1 := BXr.out.cell1
        replace HB := Lib.hid (HB.out.trans (b.mono hs)); replace hs := HB.out.size
        clear b
        have qa1 : w15.cell? ⟨ga, 1, none⟩ = some (.int .i64 (E : Int)) := HRa.out.getg (j := 1) (by omega)
        have ql0 : w15.cell? ⟨gl, 0, none⟩ = some (.int .i64 (P : Int)) := HRl.out.getg (j := 0) (by omega)
        go_wp2_with fail
        go_ret
        exact ⟨rfl, HB.out⟩
      · have hgz : (g == 0) = false := by simpa using hg
        clear f2 hg
        go_wp2_with fail
        refine (impl_kdR w14 Ar Ar' nm nm cr cr' (backL t) f HRr.out HRr'.out (by omega) (by omega) ((e : Int)) (hwx) C3.out).mono ?_
        rintro e w15 ⟨rfl, b⟩
        replace HRm := Lib.hid (HRm.out.below b)
        replace HRm' := Lib.hid (HRm'.out.below b)
        replace HRd := Lib.hid (HRd.out.below b)
        replace HRd' := Lib.hid (HRd'.out.below b)
        replace HRr := Lib.hid (HRr.out.below b)
        replace HRr' := Lib.hid (HRr'.out.below b)
        replace HRa := Lib.hid (HRa.out.below b)
        replace HRe := Lib.hid (HRe.out.below b)
        replace HRo := Lib.hid (HRo.out.below b)
        replace HRl := Lib.hid (HRl.out.below b)
        replace BXm := Lib.hid (BXm.out.below b); replace cm_0 := BXm.out.cell0; replace cm_1 := BXm.out.cell1
        replace BXd := Lib.hid (BXd.out.below b); replace cd_0 := BXd.out.cell0; replace cd_1 := BXd.out.cell1
        replace BXr := Lib.hid (BXr.out.below b); replace cr_0 := BXr.out.cell0; replace cr_1 := BXr.out.cell1
        replace HB := Lib.hid (HB.out.trans (b.mono hs)); replace hs := HB.out.size
        clear b
        have qa1 : w15.cell? ⟨ga, 1, none⟩ = some (.int .i64 (E : Int)) := HRa.out.getg (j := 1) (by omega)
        have ql0 : w15.cell? ⟨gl, 0, none⟩ = some (.int .i64 (P : Int)) := HRl.out.getg (j := 0) (by omega)
        go_wp2_with fail
        go_ret
        exact ⟨rfl, HB.out⟩
    | false =>
      have HV : Hid (kdR t f x = -1) := by rw [Hid, kdR, if_neg (fun h => by rw [he] at h; cases h.2)]
      clear hv he
      go_wp2_with fail
      refine (impl_kdR w2 Am Am' nm nm' cm cm' t f HRm.out HRm'.out (by omega) (by omega) (x) (hwx) HV.out).mono ?_
      rintro e w3 ⟨rfl, b⟩
      replace HRm := Lib.hid (HRm.out.below b)
      replace HRm' := Lib.hid (HRm'.out.below b)
      replace BXm := Lib.hid (BXm.out.below b); replace cm_0 := BXm.out.cell0; replace cm_1 := BXm.out.cell1
      replace HB := Lib.hid (HB.out.trans (b.mono hs)); replace hs := HB.out.size
      clear b
      go_wp2_with fail
      refine (spec_kdR w3 Am Am' nm nm' cm cm' t f HRm.out HRm'.out (by omega) (by omega) (x) (hwx) HV.out).mono ?_
      rintro e w4 ⟨rfl, b⟩
      replace HRm := Lib.hid (HRm.out.below b)
      replace HRm' := Lib.hid (HRm'.out.below b)
      replace BXm := Lib.hid (BXm.out.below b); replace cm_0 := BXm.out.cell0; replace cm_1 := BXm.out.cell1
      replace HB := Lib.hid (HB.out.trans (b.mono hs)); replace hs := HB.out.size
      clear b
      go_wp2_with fail
      go_ret
      exact ⟨rfl, HB.out⟩
  | false =>
    have HV : Hid (kdR t f x = -1) := by rw [Hid, kdR, if_neg (fun h => by rw [hv] at h; cases h.1)]
    clear hv
    go_wp2_with fail
    refine (impl_kdR w2 Am Am' nm nm' cm cm' t f HRm.out HRm'.out (by omega) (by omega) (x) (hwx) HV.out).mono ?_
    rintro e w3 ⟨rfl, b⟩
    replace HRm := Lib.hid (HRm.out.below b)
    replace HRm' := Lib.hid (HRm'.out.below b)
    replace BXm := Lib.hid (BXm.out.below b); replace cm_0 := BXm.out.cell0; replace cm_1 := BXm.out.cell1
    replace HB := Lib.hid (HB.out.trans (b.mono hs)); replace hs := HB.out.size
    clear b
    go_wp2_with fail
    refine (spec_kdR w3 Am Am' nm nm' cm cm' t f HRm.out HRm'.out (by omega) (by omega) (x) (hwx) HV.out).mono ?_
    rintro e w4 ⟨rfl, b⟩
    replace HRm := Lib.hid (HRm.out.below b)
    replace HRm' := Lib.hid (HRm'.out.below b)
    replace BXm := Lib.hid (BXm.out.below b); replace cm_0 := BXm.out.cell0; replace cm_1 := BXm.out.cell1
    replace HB := Lib.hid (HB.out.trans (b.mono hs)); replace hs := HB.out.size
    clear b
    go_wp2_with fail
    go_ret
    exact ⟨rfl, HB.out⟩

end Go.Proofs.Ytcenffndclpjoaa
