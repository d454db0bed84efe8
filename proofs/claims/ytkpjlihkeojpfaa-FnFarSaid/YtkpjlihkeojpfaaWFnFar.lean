/-
  FnFar: the walk of the law.
-/
import Derived.Test.YtkpjlihkeojpfaaLawMap
import Derived.Test.YtkpjlihkeojpfaaDrawFar
import Derived.Test.YtkpjlihkeojpfaaFarR
import Derived.Test.YtkpjlihkeojpfaaFarL
import Derived.Test.YtkpjlihkeojpfaaCounts
import Derived.Test.YtkpjlihkeojpfaaAbove
namespace Go.Proofs.Ytkpjlihkeojpfaa
open Go.RowKit

set_option linter.unusedVariables false
set_option maxRecDepth 100000 in
set_option maxHeartbeats 6400000 in
theorem walk_FnFar (A0 : Option Addr) (n0 c0 : Nat) (bs0 : List Int) (A1 : Option Addr) (n1 c1 : Nat) (bs1 : List Int) (w : World) (h0 : RdB w A0 n0 bs0) (hm0 : n0 ≤ maxLen ∧ n0 ≤ c0) (h1 : RdB w A1 n1 bs1) (hm1 : n1 ≤ maxLen ∧ n1 ≤ c1) :
    Calls Try.prog 3 #[.slice A0 n0 c0, .slice A1 n1 c1] w fun e w' => e = .returned (.bool true) ∧ Below w.heap.size w w' := by
  have HB0_0 := Lib.hid h0; have hc0 := hm0.2; have hml0 := hm0.1; clear h0 hm0; unfold maxLen at hml0
  have HB0_1 := Lib.hid h1; have hc1 := hm1.2; have hml1 := hm1.1; clear h1 hm1; unfold maxLen at hml1
  by_cases hbig0 : 1048576 < n0
  · have hd : decide ((1048576 : Int) < n0) = true := by simp; omega
    go_enter Try.func3, Try.ntmps3
    go_wp2
    go_ret
    exact ⟨rfl, Below.refl _ _⟩
  have hd0 : decide ((1048576 : Int) < n0) = false := by simp; omega
  have hnb0 : n0 ≤ 1048576 := by omega
  clear hbig0
  by_cases hbig1 : 1048576 < n1
  · have hd : decide ((1048576 : Int) < n1) = true := by simp; omega
    go_enter Try.func3, Try.ntmps3
    go_wp2
    go_ret
    exact ⟨rfl, Below.refl _ _⟩
  have hd1 : decide ((1048576 : Int) < n1) = false := by simp; omega
  have hnb1 : n1 ≤ 1048576 := by omega
  clear hbig1
  go_enter Try.func3, Try.ntmps3
  go_wp2_with fail
  refine (drawMapFar_any w A0 n0 c0 bs0 HB0_0.out hnb0 hc0).mono ?_
  rintro e w1 ⟨Am, Am', nm, nm', cm, cm', t, f, r, s, rfl, r1, r2, hlm, hlm', ⟨hr1, hr2⟩, ⟨hs1, hs2⟩, b⟩
  have HNm := Lib.hid r1.1; have HNm' := Lib.hid r2.1; have HRm := Lib.hid r1; have HRm' := Lib.hid r2; clear r1 r2
  have HB := Lib.hid b; have hs := b.size; clear b
  obtain ⟨w2, hWw2, hx, b, hz⟩ := Box.local_ w1 25 (.slice Am nm cm) (.slice Am' nm' cm')
  have BXm := Lib.hid hx; clear hx hz
  replace HRm := Lib.hid (HRm.out.below b)
  replace HRm' := Lib.hid (HRm'.out.below b)
  replace HB := Lib.hid (HB.out.trans (b.mono hs)); replace hs := HB.out.size
  clear b
  have cm_0 := BXm.out.cell0; have cm_1 := BXm.out.cell1
  have HWr : Hid ((Lit.int .i64 r).wf = true) := by simp [Hid, Lit.wf, IntKind.min, IntKind.max, IntKind.bits, IntKind.signed]; omega
  have HWs : Hid ((Lit.int .i64 s).wf = true) := by simp [Hid, Lit.wf, IntKind.min, IntKind.max, IntKind.bits, IntKind.signed]; omega
  obtain ⟨u, hu⟩ : ∃ u, farR t f r s = u := ⟨_, rfl⟩
  have HRR := Lib.hid hu; clear hu
  have hself : (u != u) = false := by simp
  have hself2 : (u == u) = true := by simp
  go_wp2_with fail
  refine (impl_farR w2 Am Am' nm nm' cm cm' t f HRm.out HRm'.out (by omega) (by omega) (r) (HWr.out) (s) (HWs.out) HRR.out).mono ?_
  rintro e w3 ⟨rfl, b⟩
  replace HRm := Lib.hid (HRm.out.below b)
  replace HRm' := Lib.hid (HRm'.out.below b)
  replace BXm := Lib.hid (BXm.out.below b); replace cm_0 := BXm.out.cell0; replace cm_1 := BXm.out.cell1
  replace HB := Lib.hid (HB.out.trans (b.mono hs)); replace hs := HB.out.size
  clear b
  go_wp2_with fail
  refine (spec_farR w3 Am Am' nm nm' cm cm' t f HRm.out HRm'.out (by omega) (by omega) (r) (HWr.out) (s) (HWs.out) HRR.out).mono ?_
  rintro e w4 ⟨rfl, b⟩
  replace HRm := Lib.hid (HRm.out.below b)
  replace HRm' := Lib.hid (HRm'.out.below b)
  replace BXm := Lib.hid (BXm.out.below b); replace cm_0 := BXm.out.cell0; replace cm_1 := BXm.out.cell1
  replace HB := Lib.hid (HB.out.trans (b.mono hs)); replace hs := HB.out.size
  clear b
  by_cases hneg : u < 0
  · have hd : decide (u < 0) = true := by simpa using hneg
    go_wp2_with fail
    go_ret
    exact ⟨rfl, HB.out⟩
  have hneg' : decide (u < 0) = false := by simpa using hneg
  have hv : mapV t f = true ∧ dartB t.length r = true ∧ dartB t.length s = true := by
    by_cases h : mapV t f = true ∧ dartB t.length r = true ∧ dartB t.length s = true
    · exact h
    · have := HRR.out; rw [farR, if_neg h] at this; omega
  have HM := Lib.hid (mapV_iff.1 hv.1)
  have HVV : Hid (mapV t f = true) := hv.1
  obtain rfl : nm = nm' := by have := HM.out.len; rw [HNm.out, HNm'.out] at this; exact this
  have hdr := hv.2.1; have hds := hv.2.2
  rw [dartB] at hdr hds
  have hdr := of_decide_eq_true hdr; have hds := of_decide_eq_true hds
  obtain ⟨P, rfl⟩ := Int.eq_ofNat_of_zero_le hdr.1
  obtain ⟨Q, rfl⟩ := Int.eq_ofNat_of_zero_le hds.1
  have hP : P < t.length := by omega
  have hQ : Q < t.length := by omega
  have hn1 : 1 ≤ nm := by have := HM.out.turn.1; rw [HNm.out] at this; exact this
  have hroot : ((n1 : Nat) : Int).tmod (nm : Int) = ((n1 % nm : Nat) : Int) := rfl
  obtain ⟨C, hC0⟩ : ∃ C, n1 % nm = C := ⟨_, rfl⟩
  have hCn : C < nm := by rw [← hC0]; exact Nat.mod_lt _ (by omega)
  rw [hC0] at hroot
  have hz1 : ¬ ((nm : Int) = 0) := by omega
  have hz2 : ((nm : Int) == 0) = false := by simp; omega
  clear hC0
  have hC : C < t.length := by rw [HNm.out]; exact hCn
  have val : ∀ a b : Nat, a < t.length → b < t.length → farR t f (a : Int) (b : Int) = gi (farL t f a) b := fun a b ha hb => by
    rw [farR, if_pos ⟨HVV.out, by rw [dartB]; exact decide_eq_true ⟨by omega, by omega⟩, by rw [dartB]; exact decide_eq_true ⟨by omega, by omega⟩⟩, Int.toNat_natCast, Int.toNat_natCast]
  have e0 : gi (farL t f P) Q = u := by rw [← val P Q hP hQ]; exact HRR.out
  obtain ⟨X, hX⟩ : ∃ X, gn t C = X := ⟨_, rfl⟩
  obtain ⟨Y, hY⟩ : ∃ Y, gn f C = Y := ⟨_, rfl⟩
  have hXl : X < t.length := by rw [← hX]; exact HM.out.turn.gn_lt hC
  have hYl : Y < t.length := by rw [← hY, HM.out.len]; exact HM.out.flip.gn_lt (by rw [← HM.out.len]; exact hC)
  have hgx : gi t C = (X : Int) := by rw [← hX]; exact HM.out.turn.gi_gn hC
  have hgy : gi f C = (Y : Int) := by rw [← hY]; exact HM.out.flip.gi_gn (by rw [← HM.out.len]; exact hC)
  obtain ⟨a, ha⟩ : ∃ a, gi (farL t f P) C = a := ⟨_, rfl⟩
  obtain ⟨b0, hb0⟩ : ∃ b, gi (farL t f C) Q = b := ⟨_, rfl⟩
  obtain ⟨z, hz⟩ : ∃ z, gi (farL t f C) Y = z := ⟨_, rfl⟩
  have i1 := far_in HM.out hP hC; have i2 := far_in HM.out hC hQ; have i3 := far_tri HM.out hP hC hQ; have i4 := far_flip1 HM.out hC; have i5 := far_few HM.out hP hQ; have i6 := far_turn0 HM.out hC; have i7 := far_sym HM.out hP hQ
  rw [ha] at i1 i3
  rw [hb0] at i2 i3
  rw [e0] at i3 i5 i7
  rw [hY, hz] at i4
  rw [hX] at i6
  have G1 : Hid (farR t f (Q : Int) (P : Int) = u) := (val Q P hQ hP).trans i7
  have G2 : Hid (farR t f (P : Int) (C : Int) = a) := (val P C hP hC).trans ha
  have G3 : Hid (farR t f (C : Int) (Q : Int) = b0) := (val C Q hC hQ).trans hb0
  have G4 : Hid (farR t f (C : Int) (X : Int) = 0) := (val C X hC hXl).trans i6
  have G5 : Hid (farR t f (C : Int) (Y : Int) = z) := (val C Y hC hYl).trans hz
  have ht12 : t.length ≤ 12 := HM.out.turn.2.1
  have HWP : Hid ((Lit.int .i64 (P : Int)).wf = true) := by simp [Hid, Lit.wf, IntKind.min, IntKind.max, IntKind.bits, IntKind.signed]; omega
  have HWQ : Hid ((Lit.int .i64 (Q : Int)).wf = true) := by simp [Hid, Lit.wf, IntKind.min, IntKind.max, IntKind.bits, IntKind.signed]; omega
  have HWC : Hid ((Lit.int .i64 (C : Int)).wf = true) := by simp [Hid, Lit.wf, IntKind.min, IntKind.max, IntKind.bits, IntKind.signed]; omega
  have HWX : Hid ((Lit.int .i64 (X : Int)).wf = true) := by simp [Hid, Lit.wf, IntKind.min, IntKind.max, IntKind.bits, IntKind.signed]; omega
  have HWY : Hid ((Lit.int .i64 (Y : Int)).wf = true) := by simp [Hid, Lit.wf, IntKind.min, IntKind.max, IntKind.bits, IntKind.signed]; omega
  obtain ⟨V, hV⟩ : ∃ V, cntV t = V := ⟨_, rfl⟩
  obtain ⟨E, hE⟩ : ∃ E, cntE f = E := ⟨_, rfl⟩
  obtain ⟨F, hF⟩ : ∃ F, cntF t f = F := ⟨_, rfl⟩
  rw [hV] at i5
  have HV := Lib.hid hV; have HE := Lib.hid hE; have HF := Lib.hid hF; clear hV hE hF
  have w1_ : IntKind.i64.wrap (a + b0) = a + b0 := IntWalk.i64_in _ (by omega)
  have q1_ : decide (u ≤ a + b0) = true := by simp; omega
  have q2_ : decide (z ≤ 1) = true := by simp; omega
  have q3_ : decide (u < (V : Int)) = true := by simp; omega
  clear val e0 hX hY ha hb0 hz i1 i2 i3 i4 i5 i6 i7 hv hdr hds
  go_wp2_with fail
  refine (impl_countsR w4 Am Am' nm nm cm cm' t f HRm.out HRm'.out (by omega) (by omega) (ok := true) (ys := [(V : Int), (E : Int), (F : Int)]) (by rw [countsR, if_pos HVV.out, HV.out, HE.out, HF.out])).mono ?_
  rintro e w5 ⟨v, rfl, o, b⟩
  have hl : ([(V : Int), (E : Int), (F : Int)] : List Int).length = 3 := rfl
  obtain ⟨Aa, ca, rfl, -, -⟩ := o.form' hl
  obtain ⟨ga, rfl, -, -, -⟩ := o.cellAt hl (k := 0) (by omega)
  have HRa := Lib.hid (o.rd hl); clear o hl
  replace HRm := Lib.hid (HRm.out.below b)
  replace HRm' := Lib.hid (HRm'.out.below b)
  replace BXm := Lib.hid (BXm.out.below b); replace cm_0 := BXm.out.cell0; replace cm_1 := BXm.out.cell1
  replace HB := Lib.hid (HB.out.trans (b.mono hs)); replace hs := HB.out.size
  clear b
  obtain ⟨ad, rfl, hct⟩ := HRm.out.at_ hCn
  obtain ⟨ad', rfl, hcf⟩ := HRm'.out.at_ hCn
  rw [hgx] at hct
  rw [hgy] at hcf
  have hwl := World.block_lt_of_cell? _ _ hct; have hwl' := World.block_lt_of_cell? _ _ hcf
  have qt : ∀ p : Above w5, p.to.cell? (ad.add C) = some (.int .i64 (X : Int)) := fun p => (p.b.cell hwl).trans hct
  have qf : ∀ p : Above w5, p.to.cell? (ad'.add C) = some (.int .i64 (Y : Int)) := fun p => (p.b.cell hwl').trans hcf
  have qa0 : ∀ p : Above w5, p.to.cell? ⟨ga, 0, none⟩ = some (.int .i64 (V : Int)) := fun p => (HRa.out.below p.b).getg (j := 0) (by omega)
  have HQm : Hid (∀ p : Above w5, Rd p.to (some ad) nm t) := fun p => HRm.out.below p.b; have HQm' : Hid (∀ p : Above w5, Rd p.to (some ad') nm f) := fun p => HRm'.out.below p.b
  have hCi : (C : Int) < (nm : Int) := by omega
  clear hct hcf hwl hwl' hgx hgy
  go_wp2_with fail
  replace cm_0 := fun p : Above w5 => (BXm.out.below p.b).cell0; replace cm_1 := fun p : Above w5 => (BXm.out.below p.b).cell1
  have HC1 : Hid (∀ p : Above w5, Calls Try.prog 5 #[.agg #[.slice (some ad) nm cm, .slice (some ad') nm cm'], .int .i64 (Q : Nat), .int .i64 (P : Nat)] p.to fun e w'' => e = .returned (.int .i64 u) ∧ ∃ q : Above w5, w'' = q.to) := fun p => Above.calls (impl_farR _ (some ad) (some ad') nm nm cm cm' t f (HQm.out p) (HQm'.out p) (by omega) (by omega) (Q : Int) HWQ.out (P : Int) HWP.out G1.out)
  have HC2 : Hid (∀ p : Above w5, Calls Try.prog 5 #[.agg #[.slice (some ad) nm cm, .slice (some ad') nm cm'], .int .i64 (P : Nat), .int .i64 (C : Nat)] p.to fun e w'' => e = .returned (.int .i64 a) ∧ ∃ q : Above w5, w'' = q.to) := fun p => Above.calls (impl_farR _ (some ad) (some ad') nm nm cm cm' t f (HQm.out p) (HQm'.out p) (by omega) (by omega) (P : Int) HWP.out (C : Int) HWC.out G2.out)
  have HC3 : Hid (∀ p : Above w5, Calls Try.prog 5 #[.agg #[.slice (some ad) nm cm, .slice (some ad') nm cm'], .int .i64 (C : Nat), .int .i64 (Q : Nat)] p.to fun e w'' => e = .returned (.int .i64 b0) ∧ ∃ q : Above w5, w'' = q.to) := fun p => Above.calls (impl_farR _ (some ad) (some ad') nm nm cm cm' t f (HQm.out p) (HQm'.out p) (by omega) (by omega) (C : Int) HWC.out (Q : Int) HWQ.out G3.out)
  have HC4 : Hid (∀ p : Above w5, Calls Try.prog 5 #[.agg #[.slice (some ad) nm cm, .slice (some ad') nm cm'], .int .i64 (C : Nat), .int .i64 (X : Nat)] p.to fun e w'' => e = .returned (.int .i64 0) ∧ ∃ q : Above w5, w'' = q.to) := fun p => Above.calls (impl_farR _ (some ad) (some ad') nm nm cm cm' t f (HQm.out p) (HQm'.out p) (by omega) (by omega) (C : Int) HWC.out (X : Int) HWX.out G4.out)
  have HC5 : Hid (∀ p : Above w5, Calls Try.prog 5 #[.agg #[.slice (some ad) nm cm, .slice (some ad') nm cm'], .int .i64 (C : Nat), .int .i64 (Y : Nat)] p.to fun e w'' => e = .returned (.int .i64 z) ∧ ∃ q : Above w5, w'' = q.to) := fun p => Above.calls (impl_farR _ (some ad) (some ad') nm nm cm cm' t f (HQm.out p) (HQm'.out p) (by omega) (by omega) (C : Int) HWC.out (Y : Int) HWY.out G5.out)
  refine wp_region_quiet_above (by kernel_rfl) (by kernel_rfl) ?_
  repeat (quiet_step (first | (go_at_call 5; first | with_reducible exact HC1.out _ | with_reducible exact HC2.out _ | with_reducible exact HC3.out _ | with_reducible exact HC4.out _ | with_reducible exact HC5.out _)))
  refine wpQuiet_nil ?_
  intro _ hw'
  obtain ⟨pq, hw''⟩ := hw'
  subst hw''
  go_wp2
  go_ret
  exact ⟨rfl, HB.out.trans (pq.b.mono hs)⟩

end Go.Proofs.Ytkpjlihkeojpfaa
