/-
  FnGenus: the walk of the law.
-/
import Derived.Test.YteajaikgeephmaaLawMap
import Derived.Test.YteajaikgeephmaaDrawMs
import Derived.Test.YteajaikgeephmaaPar10
import Derived.Test.YteajaikgeephmaaDual
import Derived.Test.YteajaikgeephmaaMirror
import Derived.Test.YteajaikgeephmaaFormR
import Derived.Test.YteajaikgeephmaaCounts
import Derived.Test.YteajaikgeephmaaGenus
import Derived.Test.YteajaikgeephmaaAbove
import Derived.Test.YteajaikgeephmaaOpa
namespace Go.Proofs.Yteajaikgeephmaa
open Go.RowKit

set_option maxRecDepth 100000 in
set_option maxHeartbeats 6400000 in
theorem walk_FnGenus (A0 : Option Addr) (n0 c0 : Nat) (bs0 : List Int) (A1 : Option Addr) (n1 c1 : Nat) (bs1 : List Int) (w : World) (h0 : RdB w A0 n0 bs0) (hm0 : n0 ≤ maxLen ∧ n0 ≤ c0) (h1 : RdB w A1 n1 bs1) (hm1 : n1 ≤ maxLen ∧ n1 ≤ c1) :
    Calls Try.prog 14 #[.slice A0 n0 c0, .slice A1 n1 c1] w fun e w' => e = .returned (.bool true) ∧ Below w.heap.size w w' := by
  have HB0_0 := Lib.hid h0; have hc0 := hm0.2; have hml0 := hm0.1; clear h0 hm0; unfold maxLen at hml0
  have HB0_1 := Lib.hid h1; have hc1 := hm1.2; have hml1 := hm1.1; clear h1 hm1; unfold maxLen at hml1
  by_cases hbig0 : 1048576 < n0
  · have hd : decide ((1048576 : Int) < n0) = true := by simp; omega
    go_enter Try.func14, Try.ntmps14
    go_wp2
    go_ret
    exact ⟨rfl, Below.refl _ _⟩
  have hd0 : decide ((1048576 : Int) < n0) = false := by simp; omega
  have hnb0 : n0 ≤ 1048576 := by omega
  clear hbig0
  by_cases hbig1 : 1048576 < n1
  · have hd : decide ((1048576 : Int) < n1) = true := by simp; omega
    go_enter Try.func14, Try.ntmps14
    go_wp2
    go_ret
    exact ⟨rfl, Below.refl _ _⟩
  have hd1 : decide ((1048576 : Int) < n1) = false := by simp; omega
  have hnb1 : n1 ≤ 1048576 := by omega
  clear hbig1
  go_enter Try.func14, Try.ntmps14
  go_wp2_with fail
  refine (drawMapGenus_any w A0 n0 c0 bs0 HB0_0.out hnb0 hc0).mono ?_
  rintro e w1 ⟨Am, Am', nm, nm', cm, cm', t, f, rfl, r1, r2, hlm, hlm', b⟩
  have HNm := Lib.hid r1.1; have HNm' := Lib.hid r2.1; have HRm := Lib.hid r1; have HRm' := Lib.hid r2; clear r1 r2
  have HB := Lib.hid b; have hs := b.size; clear b
  obtain ⟨w2, hWw2, hx, b, hz⟩ := Box.local_ w1 35 (.slice Am nm cm) (.slice Am' nm' cm')
  have BXm := Lib.hid hx; clear hx hz
  replace HRm := Lib.hid (HRm.out.below b)
  replace HRm' := Lib.hid (HRm'.out.below b)
  replace HB := Lib.hid (HB.out.trans (b.mono hs)); replace hs := HB.out.size
  clear b
  have cm_0 := BXm.out.cell0; have cm_1 := BXm.out.cell1
  obtain ⟨r, hr⟩ : ∃ r, genusR t f = r := ⟨_, rfl⟩
  have HRR := Lib.hid hr; clear hr
  have hself : (r != r) = false := by simp
  have hself2 : (r == r) = true := by simp
  go_wp2_with fail
  refine (impl_genusR w2 Am Am' nm nm' cm cm' t f HRm.out HRm'.out (by omega) (by omega) HRR.out).mono ?_
  rintro e w3 ⟨rfl, b⟩
  replace HRm := Lib.hid (HRm.out.below b)
  replace HRm' := Lib.hid (HRm'.out.below b)
  replace BXm := Lib.hid (BXm.out.below b); replace cm_0 := BXm.out.cell0; replace cm_1 := BXm.out.cell1
  replace HB := Lib.hid (HB.out.trans (b.mono hs)); replace hs := HB.out.size
  clear b
  go_wp2_with fail
  refine (spec_genusR w3 Am Am' nm nm' cm cm' t f HRm.out HRm'.out (by omega) (by omega) HRR.out).mono ?_
  rintro e w4 ⟨rfl, b⟩
  replace HRm := Lib.hid (HRm.out.below b)
  replace HRm' := Lib.hid (HRm'.out.below b)
  replace BXm := Lib.hid (BXm.out.below b); replace cm_0 := BXm.out.cell0; replace cm_1 := BXm.out.cell1
  replace HB := Lib.hid (HB.out.trans (b.mono hs)); replace hs := HB.out.size
  clear b
  by_cases hv : mapV t f = true
  · have HM := Lib.hid (mapV_iff.1 hv)
    have HVV := Lib.hid hv; clear hv
    obtain rfl : nm = nm' := by have := HM.out.len; rw [HNm.out, HNm'.out] at this; exact this
    have hn1 : 1 ≤ nm := by have := HM.out.turn.1; rw [HNm.out] at this; exact this
    obtain ⟨G, hG, hEu, hGE⟩ := genus_facts HM.out
    obtain rfl : r = (G : Int) := by rw [← HRR.out, genusR, if_pos HVV.out, hG]
    obtain ⟨V, hV⟩ : ∃ V, cntV t = V := ⟨_, rfl⟩
    obtain ⟨E, hE⟩ : ∃ E, cntE f = E := ⟨_, rfl⟩
    obtain ⟨F, hF⟩ : ∃ F, cntF t f = F := ⟨_, rfl⟩
    have hc := HM.out.cnt
    rw [hV, hE, hF] at hc
    obtain ⟨hv12, he12, hf12⟩ := hc
    rw [hV, hE, hF] at hEu
    rw [hE] at hGE
    have HV := Lib.hid hV; have HE := Lib.hid hE; have HF := Lib.hid hF; have HG := Lib.hid hG; clear hV hE hF hG
    have HD := Lib.hid HM.out.dual; have HI := Lib.hid HM.out.mirror
    have hroot : ((n1 : Nat) : Int).tmod (nm : Int) = ((n1 % nm : Nat) : Int) := rfl
    obtain ⟨R, hR⟩ : ∃ R, n1 % nm = R := ⟨_, rfl⟩
    have hRn : R < nm := by rw [← hR]; exact Nat.mod_lt _ (by omega)
    rw [hR] at hroot
    have hz1 : ¬ ((nm : Int) = 0) := by omega
    have hz2 : ((nm : Int) == 0) = false := by simp; omega
    clear hR
    have hRt : Hid (R < t.length) := by rw [Hid, HNm.out]; exact hRn
    have HFM : Hid (IsMap (formT t f R) (formF t f R)) := form_map HM.out hRt.out
    have HF1 : Hid (formR t f (R : Int) = (true, formT t f R, formF t f R)) := by rw [Hid, formR, if_pos ⟨HVV.out, by simp [dartB]; exact hRt.out⟩]; rfl
    have hwR : Hid ((Lit.int .i64 (R : Int)).wf = true) := by simp [Hid, Lit.wf, IntKind.min, IntKind.max, IntKind.bits, IntKind.signed]; omega
    have HT1 : Hid ((formT t f R).length = nm) := (formT_len HM.out hRt.out).trans HNm.out
    have HT2 : Hid ((formF t f R).length = nm) := (formF_len HM.out hRt.out).trans HNm.out
    have HG1 : Hid (genusR (mulL f t) f = (G : Int)) := by rw [Hid, genusR, if_pos (mapV_iff.2 HD.out), genus_dual HM.out, HG.out]
    have HG2 : Hid (genusR (backL t) f = (G : Int)) := by rw [Hid, genusR, if_pos (mapV_iff.2 HI.out), genus_mirror HM.out, HG.out]
    have HG3 : Hid (genusR (formT t f R) (formF t f R) = (G : Int)) := by
      have hnl := namesL_vld HM.out hRt.out
      rw [Hid, genusR, if_pos (mapV_iff.2 HFM.out), formT, formF, genus_ren HM.out hnl.1 hnl.2, HG.out]
    have hneg : decide ((G : Int) < 0) = false := by simp
    go_wp2_with fail
    refine (impl_countsR w4 Am Am' nm nm cm cm' t f HRm.out HRm'.out (by omega) (by omega) (ok := true) (ys := [(V : Int), (E : Int), (F : Int)]) (by rw [countsR, if_pos HVV.out, HV.out, HE.out, HF.out])).mono ?_
    rintro e w5 ⟨v, rfl, o, b⟩
    have hl : ([(V : Int), (E : Int), (F : Int)] : List Int).length = 3 := rfl
    obtain ⟨Aa, ca, rfl, -, -⟩ := o.form' hl
    obtain ⟨ga, rfl, -, -, -⟩ := o.cellAt hl (k := 0) (by omega)
    have HRa := Lib.hid (o.rd hl); clear o hl
    replace HRm := Lib.hid (HRm.out.below b)
    replace HRm' := Lib.hid (HRm'.out.below b)
    replace BXm := Lib.hid (BXm.out.below b); replace cm_0 := BXm.out.cell0; replace cm_1 := BXm.out.cell1
    replace HB := Lib.hid (HB.out.trans (b.mono hs)); replace hs := HB.out.size
    clear b
    go_wp2_with fail
    refine (impl_dualR w5 Am Am' nm nm cm cm' t f HRm.out HRm'.out (by omega) (by omega) (ok := true) (yt := mulL f t) (yf := f) (by rw [dualR, if_pos HVV.out])).mono ?_
    rintro e w6 ⟨u, u', rfl, o, b⟩
    have hl : (mulL f t : List Int).length = nm := (mulL_len _ _).trans HNm'.out
    have hl' : (f : List Int).length = nm := HNm'.out
    obtain ⟨Ad, cd, Ad', cd', rfl, rfl, r1, r2⟩ := o.form hl hl'
    have HRd := Lib.hid r1; have HRd' := Lib.hid r2; clear o hl hl' r1 r2
    replace HRm := Lib.hid (HRm.out.below b)
    replace HRm' := Lib.hid (HRm'.out.below b)
    replace HRa := Lib.hid (HRa.out.below b)
    replace BXm := Lib.hid (BXm.out.below b); replace cm_0 := BXm.out.cell0; replace cm_1 := BXm.out.cell1
    replace HB := Lib.hid (HB.out.trans (b.mono hs)); replace hs := HB.out.size
    clear b
    obtain ⟨w7, hWw7, hx, b, hz⟩ := Box.local_ w6 35 (.slice Ad nm cd) (.slice Ad' nm cd')
    have BXd := Lib.hid hx; clear hx hz
    replace HRm := Lib.hid (HRm.out.below b)
    replace HRm' := Lib.hid (HRm'.out.below b)
    replace HRa := Lib.hid (HRa.out.below b)
    replace HRd := Lib.hid (HRd.out.below b)
    replace HRd' := Lib.hid (HRd'.out.below b)
    replace BXm := Lib.hid (BXm.out.below b); replace cm_0 := BXm.out.cell0; replace cm_1 := BXm.out.cell1
    replace HB := Lib.hid (HB.out.trans (b.mono hs)); replace hs := HB.out.size
    clear b
    have cd_0 := BXd.out.cell0; have cd_1 := BXd.out.cell1
    go_wp2_with fail
    refine (impl_mirrorR w7 Am Am' nm nm cm cm' t f HRm.out HRm'.out (by omega) (by omega) (ok := true) (yt := backL t) (yf := f) (by rw [mirrorR, if_pos HVV.out])).mono ?_
    rintro e w8 ⟨u, u', rfl, o, b⟩
    have hl : (backL t : List Int).length = nm := (backL_len _).trans HNm.out
    have hl' : (f : List Int).length = nm := HNm'.out
    obtain ⟨Ai, ci, Ai', ci', rfl, rfl, r1, r2⟩ := o.form hl hl'
    have HRi := Lib.hid r1; have HRi' := Lib.hid r2; clear o hl hl' r1 r2
    replace HRm := Lib.hid (HRm.out.below b)
    replace HRm' := Lib.hid (HRm'.out.below b)
    replace HRa := Lib.hid (HRa.out.below b)
    replace HRd := Lib.hid (HRd.out.below b)
    replace HRd' := Lib.hid (HRd'.out.below b)
    replace BXm := Lib.hid (BXm.out.below b); replace cm_0 := BXm.out.cell0; replace cm_1 := BXm.out.cell1
    replace BXd := Lib.hid (BXd.out.below b); replace cd_0 := BXd.out.cell0; replace cd_1 := BXd.out.cell1
    replace HB := Lib.hid (HB.out.trans (b.mono hs)); replace hs := HB.out.size
    clear b
    obtain ⟨w9, hWw9, hx, b, hz⟩ := Box.local_ w8 35 (.slice Ai nm ci) (.slice Ai' nm ci')
    have BXi := Lib.hid hx; clear hx hz
    replace HRm := Lib.hid (HRm.out.below b)
    replace HRm' := Lib.hid (HRm'.out.below b)
    replace HRa := Lib.hid (HRa.out.below b)
    replace HRd := Lib.hid (HRd.out.below b)
    replace HRd' := Lib.hid (HRd'.out.below b)
    replace HRi := Lib.hid (HRi.out.below b)
    replace HRi' := Lib.hid (HRi'.out.below b)
    replace BXm := Lib.hid (BXm.out.below b); replace cm_0 := BXm.out.cell0; replace cm_1 := BXm.out.cell1
    replace BXd := Lib.hid (BXd.out.below b); replace cd_0 := BXd.out.cell0; replace cd_1 := BXd.out.cell1
    replace HB := Lib.hid (HB.out.trans (b.mono hs)); replace hs := HB.out.size
    clear b
    have ci_0 := BXi.out.cell0; have ci_1 := BXi.out.cell1
    go_wp2_with fail
    refine region_act [56, 57, 58, 59, 60, 61, 62, 63, 55, 64, 65, 14, 15] (by kernel_rfl) (by kernel_rfl) (fun listed y w' => Below w9.heap.size w9 w' ∧ (listed.getD 0 false = true → y 56 = .agg #[.slice Am nm cm, .slice Am' nm cm']) ∧ (listed.getD 1 false = true → y 57 = .slice A1 n1 c1) ∧ (listed.getD 2 false = true → y 58 = .int .i64 (n1 : Int)) ∧ (listed.getD 3 false = true → y 59 = .pointer (some ⟨w1.heap.size, 0, none⟩)) ∧ (listed.getD 4 false = true → y 60 = .slice Am nm cm) ∧ (listed.getD 5 false = true → y 61 = .int .i64 (nm : Int)) ∧ (listed.getD 6 false = true → y 62 = .int .i64 (R : Int)) ∧ (listed.getD 7 false = true → ∃ u u', y 63 = .tuple #[.agg #[u, u'], .bool true] ∧ OwnM w' w9.heap.size u u' (formT t f R) (formF t f R)) ∧ (listed.getD 8 false = true → ∃ u u', y 55 = .tuple #[.agg #[u, u'], .bool true] ∧ OwnM w' w9.heap.size u u' (formT t f R) (formF t f R)) ∧ (listed.getD 9 false = true → ∃ u u', y 64 = .agg #[u, u'] ∧ OwnM w' w9.heap.size u u' (formT t f R) (formF t f R)) ∧ (listed.getD 10 false = true → y 65 = .bool true) ∧ (listed.getD 11 false = true → ∃ (g : Nat) (cs : Array Value), y 14 = .pointer (some ⟨g, 0, none⟩) ∧ w9.heap.size ≤ g ∧ w'.heap[g]? = some (.cells cs 35 (0, 0)) ∧ cs.size = 2) ∧ (listed.getD 12 false = true → ∃ (g : Nat) (u u' : Value), y 14 = .pointer (some ⟨g, 0, none⟩) ∧ w9.heap.size ≤ g ∧ w'.heap[g]? = some (.cells #[u, u'] 35 (0, 0)) ∧ OwnM w' w9.heap.size u u' (formT t f R) (formF t f R)) ∧ (listed.getD 13 false = true → y 15 = .bool true)) ?h0 ?hstep ?hend
    case h0 =>
      refine ⟨below_drewN (Below.refl _ _) 1, ?_, ?_, ?_, ?_, ?_, ?_, ?_, ?_, ?_, ?_, ?_, ?_, ?_, ?_⟩ <;> (intro h; rw [getD_replicate_false] at h; cases h)
    case hstep =>
      intro a0 ha0
      have hz : a0.tmps.size = 123 := by rw [ha0]; rfl
      have b1 : a0.eval (.tmp 1) = .slice A1 n1 c1 := by rw [ha0]; rfl
      have b5 : a0.eval (.tmp 5) = .pointer (some ⟨w1.heap.size, 0, none⟩) := by rw [ha0]; rfl
      clear ha0
      rintro i o listed y w' ho hi hsz hc hun hdep ⟨hB, h0, h1, h2, h3, h4, h5, h6, h7, h8, h9, h10, h11, h12, h13⟩
      have hi' : i < 14 := hi
      have kp : ∀ j, i ≠ j → (listed.setIfInBounds i true).getD j false = true → listed.getD j false = true := fun j hne h => by rwa [listed_other hne] at h
      rcases (by omega : i = 0 ∨ i = 1 ∨ i = 2 ∨ i = 3 ∨ i = 4 ∨ i = 5 ∨ i = 6 ∨ i = 7 ∨ i = 8 ∨ i = 9 ∨ i = 10 ∨ i = 11 ∨ i = 12 ∨ i = 13) with rfl | rfl | rfl | rfl | rfl | rfl | rfl | rfl | rfl | rfl | rfl | rfl | rfl | rfl
      · have ho' := ho
        cases ho
        have v5 : (actY a0 [56, 57, 58, 59, 60, 61, 62, 63, 55, 64, 65, 14, 15] y).eval (.tmp 5) = .pointer (some ⟨w1.heap.size, 0, none⟩) := by rw [actY_eval (by rw [hz]; decide), if_neg (by decide)]; exact b5
        have e0 := (BXm.out.below hB).cell0; have e1 := (BXm.out.below hB).cell1
        refine opY_value (v := .agg #[.slice Am nm cm, .slice Am' nm cm']) (w1 := w') (d := 56) rfl rfl rfl (by decide) (by
            generalize (actY a0 [56, 57, 58, 59, 60, 61, 62, 63, 55, 64, 65, 14, 15] y).eval = E at *
            go_simp) ?_
        exact ⟨hB, fun _ => upd_same _ _ _, fun h => by rw [upd_ne _ _ (by decide)]; exact h1 (kp 1 (by decide) h), fun h => by rw [upd_ne _ _ (by decide)]; exact h2 (kp 2 (by decide) h), fun h => by rw [upd_ne _ _ (by decide)]; exact h3 (kp 3 (by decide) h), fun h => by rw [upd_ne _ _ (by decide)]; exact h4 (kp 4 (by decide) h), fun h => by rw [upd_ne _ _ (by decide)]; exact h5 (kp 5 (by decide) h), fun h => by rw [upd_ne _ _ (by decide)]; exact h6 (kp 6 (by decide) h), fun h => by rw [upd_ne _ _ (by decide)]; exact h7 (kp 7 (by decide) h), fun h => by rw [upd_ne _ _ (by decide)]; exact h8 (kp 8 (by decide) h), fun h => by rw [upd_ne _ _ (by decide)]; exact h9 (kp 9 (by decide) h), fun h => by rw [upd_ne _ _ (by decide)]; exact h10 (kp 10 (by decide) h), fun h => by rw [upd_ne _ _ (by decide)]; exact h11 (kp 11 (by decide) h), fun h => by rw [upd_ne _ _ (by decide)]; exact h12 (kp 12 (by decide) h), fun h => by rw [upd_ne _ _ (by decide)]; exact h13 (kp 13 (by decide) h)⟩
      · have ho' := ho
        cases ho
        have v1 : (actY a0 [56, 57, 58, 59, 60, 61, 62, 63, 55, 64, 65, 14, 15] y).eval (.tmp 1) = .slice A1 n1 c1 := by rw [actY_eval (by rw [hz]; decide), if_neg (by decide)]; exact b1
        refine opY_value (v := .slice A1 n1 c1) (w1 := w') (d := 57) rfl rfl rfl (by decide) (by
            generalize (actY a0 [56, 57, 58, 59, 60, 61, 62, 63, 55, 64, 65, 14, 15] y).eval = E at *
            go_simp) ?_
        exact ⟨hB, fun h => by rw [upd_ne _ _ (by decide)]; exact h0 (kp 0 (by decide) h), fun _ => upd_same _ _ _, fun h => by rw [upd_ne _ _ (by decide)]; exact h2 (kp 2 (by decide) h), fun h => by rw [upd_ne _ _ (by decide)]; exact h3 (kp 3 (by decide) h), fun h => by rw [upd_ne _ _ (by decide)]; exact h4 (kp 4 (by decide) h), fun h => by rw [upd_ne _ _ (by decide)]; exact h5 (kp 5 (by decide) h), fun h => by rw [upd_ne _ _ (by decide)]; exact h6 (kp 6 (by decide) h), fun h => by rw [upd_ne _ _ (by decide)]; exact h7 (kp 7 (by decide) h), fun h => by rw [upd_ne _ _ (by decide)]; exact h8 (kp 8 (by decide) h), fun h => by rw [upd_ne _ _ (by decide)]; exact h9 (kp 9 (by decide) h), fun h => by rw [upd_ne _ _ (by decide)]; exact h10 (kp 10 (by decide) h), fun h => by rw [upd_ne _ _ (by decide)]; exact h11 (kp 11 (by decide) h), fun h => by rw [upd_ne _ _ (by decide)]; exact h12 (kp 12 (by decide) h), fun h => by rw [upd_ne _ _ (by decide)]; exact h13 (kp 13 (by decide) h)⟩
      · have ho' := ho
        cases ho
        have d1 : listed.getD 1 false = true := hdep { on := 1, ground := .data } (by simp) rfl
        have v57 : (actY a0 [56, 57, 58, 59, 60, 61, 62, 63, 55, 64, 65, 14, 15] y).eval (.tmp 57) = .slice A1 n1 c1 := by rw [actY_eval (by rw [hz]; decide), if_pos (by decide)]; exact h1 d1
        refine opY_value (v := .int .i64 (n1 : Int)) (w1 := w') (d := 58) rfl rfl rfl (by decide) (by
            generalize (actY a0 [56, 57, 58, 59, 60, 61, 62, 63, 55, 64, 65, 14, 15] y).eval = E at *
            go_simp) ?_
        exact ⟨hB, fun h => by rw [upd_ne _ _ (by decide)]; exact h0 (kp 0 (by decide) h), fun h => by rw [upd_ne _ _ (by decide)]; exact h1 (kp 1 (by decide) h), fun _ => upd_same _ _ _, fun h => by rw [upd_ne _ _ (by decide)]; exact h3 (kp 3 (by decide) h), fun h => by rw [upd_ne _ _ (by decide)]; exact h4 (kp 4 (by decide) h), fun h => by rw [upd_ne _ _ (by decide)]; exact h5 (kp 5 (by decide) h), fun h => by rw [upd_ne _ _ (by decide)]; exact h6 (kp 6 (by decide) h), fun h => by rw [upd_ne _ _ (by decide)]; exact h7 (kp 7 (by decide) h), fun h => by rw [upd_ne _ _ (by decide)]; exact h8 (kp 8 (by decide) h), fun h => by rw [upd_ne _ _ (by decide)]; exact h9 (kp 9 (by decide) h), fun h => by rw [upd_ne _ _ (by decide)]; exact h10 (kp 10 (by decide) h), fun h => by rw [upd_ne _ _ (by decide)]; exact h11 (kp 11 (by decide) h), fun h => by rw [upd_ne _ _ (by decide)]; exact h12 (kp 12 (by decide) h), fun h => by rw [upd_ne _ _ (by decide)]; exact h13 (kp 13 (by decide) h)⟩
      · have ho' := ho
        cases ho
        have v5 : (actY a0 [56, 57, 58, 59, 60, 61, 62, 63, 55, 64, 65, 14, 15] y).eval (.tmp 5) = .pointer (some ⟨w1.heap.size, 0, none⟩) := by rw [actY_eval (by rw [hz]; decide), if_neg (by decide)]; exact b5
        refine opY_value (v := .pointer (some ⟨w1.heap.size, 0, none⟩)) (w1 := w') (d := 59) rfl rfl rfl (by decide) (by
            generalize (actY a0 [56, 57, 58, 59, 60, 61, 62, 63, 55, 64, 65, 14, 15] y).eval = E at *
            go_simp) ?_
        exact ⟨hB, fun h => by rw [upd_ne _ _ (by decide)]; exact h0 (kp 0 (by decide) h), fun h => by rw [upd_ne _ _ (by decide)]; exact h1 (kp 1 (by decide) h), fun h => by rw [upd_ne _ _ (by decide)]; exact h2 (kp 2 (by decide) h), fun _ => upd_same _ _ _, fun h => by rw [upd_ne _ _ (by decide)]; exact h4 (kp 4 (by decide) h), fun h => by rw [upd_ne _ _ (by decide)]; exact h5 (kp 5 (by decide) h), fun h => by rw [upd_ne _ _ (by decide)]; exact h6 (kp 6 (by decide) h), fun h => by rw [upd_ne _ _ (by decide)]; exact h7 (kp 7 (by decide) h), fun h => by rw [upd_ne _ _ (by decide)]; exact h8 (kp 8 (by decide) h), fun h => by rw [upd_ne _ _ (by decide)]; exact h9 (kp 9 (by decide) h), fun h => by rw [upd_ne _ _ (by decide)]; exact h10 (kp 10 (by decide) h), fun h => by rw [upd_ne _ _ (by decide)]; exact h11 (kp 11 (by decide) h), fun h => by rw [upd_ne _ _ (by decide)]; exact h12 (kp 12 (by decide) h), fun h => by rw [upd_ne _ _ (by decide)]; exact h13 (kp 13 (by decide) h)⟩
      · have ho' := ho
        cases ho
        have d3 : listed.getD 3 false = true := hdep { on := 3, ground := .data } (by simp) rfl
        have v59 : (actY a0 [56, 57, 58, 59, 60, 61, 62, 63, 55, 64, 65, 14, 15] y).eval (.tmp 59) = .pointer (some ⟨w1.heap.size, 0, none⟩) := by rw [actY_eval (by rw [hz]; decide), if_pos (by decide)]; exact h3 d3
        have e0 := (BXm.out.below hB).cell0
        refine opY_value (v := .slice Am nm cm) (w1 := w') (d := 60) rfl rfl rfl (by decide) (by
            generalize (actY a0 [56, 57, 58, 59, 60, 61, 62, 63, 55, 64, 65, 14, 15] y).eval = E at *
            go_simp) ?_
        exact ⟨hB, fun h => by rw [upd_ne _ _ (by decide)]; exact h0 (kp 0 (by decide) h), fun h => by rw [upd_ne _ _ (by decide)]; exact h1 (kp 1 (by decide) h), fun h => by rw [upd_ne _ _ (by decide)]; exact h2 (kp 2 (by decide) h), fun h => by rw [upd_ne _ _ (by decide)]; exact h3 (kp 3 (by decide) h), fun _ => upd_same _ _ _, fun h => by rw [upd_ne _ _ (by decide)]; exact h5 (kp 5 (by decide) h), fun h => by rw [upd_ne _ _ (by decide)]; exact h6 (kp 6 (by decide) h), fun h => by rw [upd_ne _ _ (by decide)]; exact h7 (kp 7 (by decide) h), fun h => by rw [upd_ne _ _ (by decide)]; exact h8 (kp 8 (by decide) h), fun h => by rw [upd_ne _ _ (by decide)]; exact h9 (kp 9 (by decide) h), fun h => by rw [upd_ne _ _ (by decide)]; exact h10 (kp 10 (by decide) h), fun h => by rw [upd_ne _ _ (by decide)]; exact h11 (kp 11 (by decide) h), fun h => by rw [upd_ne _ _ (by decide)]; exact h12 (kp 12 (by decide) h), fun h => by rw [upd_ne _ _ (by decide)]; exact h13 (kp 13 (by decide) h)⟩
      · have ho' := ho
        cases ho
        have d4 : listed.getD 4 false = true := hdep { on := 4, ground := .data } (by simp) rfl
        have v60 : (actY a0 [56, 57, 58, 59, 60, 61, 62, 63, 55, 64, 65, 14, 15] y).eval (.tmp 60) = .slice Am nm cm := by rw [actY_eval (by rw [hz]; decide), if_pos (by decide)]; exact h4 d4
        refine opY_value (v := .int .i64 (nm : Int)) (w1 := w') (d := 61) rfl rfl rfl (by decide) (by
            generalize (actY a0 [56, 57, 58, 59, 60, 61, 62, 63, 55, 64, 65, 14, 15] y).eval = E at *
            go_simp) ?_
        exact ⟨hB, fun h => by rw [upd_ne _ _ (by decide)]; exact h0 (kp 0 (by decide) h), fun h => by rw [upd_ne _ _ (by decide)]; exact h1 (kp 1 (by decide) h), fun h => by rw [upd_ne _ _ (by decide)]; exact h2 (kp 2 (by decide) h), fun h => by rw [upd_ne _ _ (by decide)]; exact h3 (kp 3 (by decide) h), fun h => by rw [upd_ne _ _ (by decide)]; exact h4 (kp 4 (by decide) h), fun _ => upd_same _ _ _, fun h => by rw [upd_ne _ _ (by decide)]; exact h6 (kp 6 (by decide) h), fun h => by rw [upd_ne _ _ (by decide)]; exact h7 (kp 7 (by decide) h), fun h => by rw [upd_ne _ _ (by decide)]; exact h8 (kp 8 (by decide) h), fun h => by rw [upd_ne _ _ (by decide)]; exact h9 (kp 9 (by decide) h), fun h => by rw [upd_ne _ _ (by decide)]; exact h10 (kp 10 (by decide) h), fun h => by rw [upd_ne _ _ (by decide)]; exact h11 (kp 11 (by decide) h), fun h => by rw [upd_ne _ _ (by decide)]; exact h12 (kp 12 (by decide) h), fun h => by rw [upd_ne _ _ (by decide)]; exact h13 (kp 13 (by decide) h)⟩
      · have ho' := ho
        cases ho
        have d2 : listed.getD 2 false = true := hdep { on := 2, ground := .data } (by simp) rfl
        have d5 : listed.getD 5 false = true := hdep { on := 5, ground := .data } (by simp) rfl
        have v58 : (actY a0 [56, 57, 58, 59, 60, 61, 62, 63, 55, 64, 65, 14, 15] y).eval (.tmp 58) = .int .i64 (n1 : Int) := by rw [actY_eval (by rw [hz]; decide), if_pos (by decide)]; exact h2 d2
        have v61 : (actY a0 [56, 57, 58, 59, 60, 61, 62, 63, 55, 64, 65, 14, 15] y).eval (.tmp 61) = .int .i64 (nm : Int) := by rw [actY_eval (by rw [hz]; decide), if_pos (by decide)]; exact h5 d5
        have hz3 : ¬ nm = 0 := by omega
        refine opY_value (v := .int .i64 (R : Int)) (w1 := w') (d := 62) rfl rfl rfl (by decide) (by
            generalize (actY a0 [56, 57, 58, 59, 60, 61, 62, 63, 55, 64, 65, 14, 15] y).eval = E at *
            go_simp) ?_
        exact ⟨hB, fun h => by rw [upd_ne _ _ (by decide)]; exact h0 (kp 0 (by decide) h), fun h => by rw [upd_ne _ _ (by decide)]; exact h1 (kp 1 (by decide) h), fun h => by rw [upd_ne _ _ (by decide)]; exact h2 (kp 2 (by decide) h), fun h => by rw [upd_ne _ _ (by decide)]; exact h3 (kp 3 (by decide) h), fun h => by rw [upd_ne _ _ (by decide)]; exact h4 (kp 4 (by decide) h), fun h => by rw [upd_ne _ _ (by decide)]; exact h5 (kp 5 (by decide) h), fun _ => upd_same _ _ _, fun h => by rw [upd_ne _ _ (by decide)]; exact h7 (kp 7 (by decide) h), fun h => by rw [upd_ne _ _ (by decide)]; exact h8 (kp 8 (by decide) h), fun h => by rw [upd_ne _ _ (by decide)]; exact h9 (kp 9 (by decide) h), fun h => by rw [upd_ne _ _ (by decide)]; exact h10 (kp 10 (by decide) h), fun h => by rw [upd_ne _ _ (by decide)]; exact h11 (kp 11 (by decide) h), fun h => by rw [upd_ne _ _ (by decide)]; exact h12 (kp 12 (by decide) h), fun h => by rw [upd_ne _ _ (by decide)]; exact h13 (kp 13 (by decide) h)⟩
      · cases ho
        have d0 : listed.getD 0 false = true := hdep { on := 0, ground := .data } (by simp) rfl
        have d6 : listed.getD 6 false = true := hdep { on := 6, ground := .data } (by simp) rfl
        have v56 : (actY a0 [56, 57, 58, 59, 60, 61, 62, 63, 55, 64, 65, 14, 15] y).eval (.tmp 56) = .agg #[.slice Am nm cm, .slice Am' nm cm'] := by rw [actY_eval (by rw [hz]; decide), if_pos (by decide)]; exact h0 d0
        have v62 : (actY a0 [56, 57, 58, 59, 60, 61, 62, 63, 55, 64, 65, 14, 15] y).eval (.tmp 62) = .int .i64 (R : Int) := by rw [actY_eval (by rw [hz]; decide), if_pos (by decide)]; exact h6 d6
        have vf : ∀ f, (actY a0 [56, 57, 58, 59, 60, 61, 62, 63, 55, 64, 65, 14, 15] y).eval (.func f) = .func (.func f) #[] #[] := fun _ => rfl
        refine opY_call (f := 44) (args := #[.agg #[.slice Am nm cm, .slice Am' nm cm'], .int .i64 (R : Int)]) (w1 := w') (d := 63) rfl rfl rfl (by decide) (by
            generalize (actY a0 [56, 57, 58, 59, 60, 61, 62, 63, 55, 64, 65, 14, 15] y).eval = E at *
            go_simp) ?_
        refine (impl_formR _ Am Am' nm nm cm cm' t f (HRm.out.below hB) (HRm'.out.below hB) (by omega) (by omega) (R : Int) hwR.out (ok := true) (yt := formT t f R) (yf := formF t f R) (HF1.out)).mono ?_
        rintro e w5 ⟨u, u', rfl, o, b⟩
        have o' := o.mono (lo' := w9.heap.size) hB.size
        exact ⟨_, rfl, hB.trans (b.mono hB.size), fun h => by rw [upd_ne _ _ (by decide)]; exact h0 (kp 0 (by decide) h), fun h => by rw [upd_ne _ _ (by decide)]; exact h1 (kp 1 (by decide) h), fun h => by rw [upd_ne _ _ (by decide)]; exact h2 (kp 2 (by decide) h), fun h => by rw [upd_ne _ _ (by decide)]; exact h3 (kp 3 (by decide) h), fun h => by rw [upd_ne _ _ (by decide)]; exact h4 (kp 4 (by decide) h), fun h => by rw [upd_ne _ _ (by decide)]; exact h5 (kp 5 (by decide) h), fun h => by rw [upd_ne _ _ (by decide)]; exact h6 (kp 6 (by decide) h), fun _ => ⟨u, u', upd_same _ _ _, o'⟩, fun h => by obtain ⟨u, u', e, o⟩ := h8 (kp 8 (by decide) h); exact ⟨u, u', by rw [upd_ne _ _ (by decide)]; exact e, o.below b⟩, fun h => by obtain ⟨u, u', e, o⟩ := h9 (kp 9 (by decide) h); exact ⟨u, u', by rw [upd_ne _ _ (by decide)]; exact e, o.below b⟩, fun h => by rw [upd_ne _ _ (by decide)]; exact h10 (kp 10 (by decide) h), fun h => by obtain ⟨g, cs, e, l, hh, z⟩ := h11 (kp 11 (by decide) h); exact ⟨g, cs, by rw [upd_ne _ _ (by decide)]; exact e, l, (b.block _ (Array.getElem?_eq_some_iff.1 hh).1).trans hh, z⟩, fun h => by obtain ⟨g, u, u', e, l, hh, o⟩ := h12 (kp 12 (by decide) h); exact ⟨g, u, u', by rw [upd_ne _ _ (by decide)]; exact e, l, (b.block _ (Array.getElem?_eq_some_iff.1 hh).1).trans hh, o.below b⟩, fun h => by rw [upd_ne _ _ (by decide)]; exact h13 (kp 13 (by decide) h)⟩
      · have ho' := ho
        cases ho
        have d7 : listed.getD 7 false = true := hdep { on := 7, ground := .data } (by simp) rfl
        obtain ⟨u, u', hu, ow⟩ := h7 d7
        have v63 : (actY a0 [56, 57, 58, 59, 60, 61, 62, 63, 55, 64, 65, 14, 15] y).eval (.tmp 63) = .tuple #[.agg #[u, u'], .bool true] := by rw [actY_eval (by rw [hz]; decide), if_pos (by decide)]; exact hu
        refine opY_value (v := .tuple #[.agg #[u, u'], .bool true]) (w1 := w') (d := 55) rfl rfl rfl (by decide) (by
            generalize (actY a0 [56, 57, 58, 59, 60, 61, 62, 63, 55, 64, 65, 14, 15] y).eval = E at *
            go_simp) ?_
        exact ⟨hB, fun h => by rw [upd_ne _ _ (by decide)]; exact h0 (kp 0 (by decide) h), fun h => by rw [upd_ne _ _ (by decide)]; exact h1 (kp 1 (by decide) h), fun h => by rw [upd_ne _ _ (by decide)]; exact h2 (kp 2 (by decide) h), fun h => by rw [upd_ne _ _ (by decide)]; exact h3 (kp 3 (by decide) h), fun h => by rw [upd_ne _ _ (by decide)]; exact h4 (kp 4 (by decide) h), fun h => by rw [upd_ne _ _ (by decide)]; exact h5 (kp 5 (by decide) h), fun h => by rw [upd_ne _ _ (by decide)]; exact h6 (kp 6 (by decide) h), fun h => by rw [upd_ne _ _ (by decide)]; exact h7 (kp 7 (by decide) h), fun _ => ⟨u, u', upd_same _ _ _, ow⟩, fun h => by rw [upd_ne _ _ (by decide)]; exact h9 (kp 9 (by decide) h), fun h => by rw [upd_ne _ _ (by decide)]; exact h10 (kp 10 (by decide) h), fun h => by rw [upd_ne _ _ (by decide)]; exact h11 (kp 11 (by decide) h), fun h => by rw [upd_ne _ _ (by decide)]; exact h12 (kp 12 (by decide) h), fun h => by rw [upd_ne _ _ (by decide)]; exact h13 (kp 13 (by decide) h)⟩
      · have ho' := ho
        cases ho
        have d8 : listed.getD 8 false = true := hdep { on := 8, ground := .data } (by simp) rfl
        obtain ⟨u, u', hu, ow⟩ := h8 d8
        have v55 : (actY a0 [56, 57, 58, 59, 60, 61, 62, 63, 55, 64, 65, 14, 15] y).eval (.tmp 55) = .tuple #[.agg #[u, u'], .bool true] := by rw [actY_eval (by rw [hz]; decide), if_pos (by decide)]; exact hu
        refine opY_value (v := .agg #[u, u']) (w1 := w') (d := 64) rfl rfl rfl (by decide) (by
            generalize (actY a0 [56, 57, 58, 59, 60, 61, 62, 63, 55, 64, 65, 14, 15] y).eval = E at *
            go_simp) ?_
        exact ⟨hB, fun h => by rw [upd_ne _ _ (by decide)]; exact h0 (kp 0 (by decide) h), fun h => by rw [upd_ne _ _ (by decide)]; exact h1 (kp 1 (by decide) h), fun h => by rw [upd_ne _ _ (by decide)]; exact h2 (kp 2 (by decide) h), fun h => by rw [upd_ne _ _ (by decide)]; exact h3 (kp 3 (by decide) h), fun h => by rw [upd_ne _ _ (by decide)]; exact h4 (kp 4 (by decide) h), fun h => by rw [upd_ne _ _ (by decide)]; exact h5 (kp 5 (by decide) h), fun h => by rw [upd_ne _ _ (by decide)]; exact h6 (kp 6 (by decide) h), fun h => by rw [upd_ne _ _ (by decide)]; exact h7 (kp 7 (by decide) h), fun h => by rw [upd_ne _ _ (by decide)]; exact h8 (kp 8 (by decide) h), fun _ => ⟨u, u', upd_same _ _ _, ow⟩, fun h => by rw [upd_ne _ _ (by decide)]; exact h10 (kp 10 (by decide) h), fun h => by rw [upd_ne _ _ (by decide)]; exact h11 (kp 11 (by decide) h), fun h => by rw [upd_ne _ _ (by decide)]; exact h12 (kp 12 (by decide) h), fun h => by rw [upd_ne _ _ (by decide)]; exact h13 (kp 13 (by decide) h)⟩
      · have ho' := ho
        cases ho
        have d8 : listed.getD 8 false = true := hdep { on := 8, ground := .data } (by simp) rfl
        obtain ⟨u, u', hu, ow⟩ := h8 d8
        have v55 : (actY a0 [56, 57, 58, 59, 60, 61, 62, 63, 55, 64, 65, 14, 15] y).eval (.tmp 55) = .tuple #[.agg #[u, u'], .bool true] := by rw [actY_eval (by rw [hz]; decide), if_pos (by decide)]; exact hu
        refine opY_value (v := .bool true) (w1 := w') (d := 65) rfl rfl rfl (by decide) (by
            generalize (actY a0 [56, 57, 58, 59, 60, 61, 62, 63, 55, 64, 65, 14, 15] y).eval = E at *
            go_simp) ?_
        exact ⟨hB, fun h => by rw [upd_ne _ _ (by decide)]; exact h0 (kp 0 (by decide) h), fun h => by rw [upd_ne _ _ (by decide)]; exact h1 (kp 1 (by decide) h), fun h => by rw [upd_ne _ _ (by decide)]; exact h2 (kp 2 (by decide) h), fun h => by rw [upd_ne _ _ (by decide)]; exact h3 (kp 3 (by decide) h), fun h => by rw [upd_ne _ _ (by decide)]; exact h4 (kp 4 (by decide) h), fun h => by rw [upd_ne _ _ (by decide)]; exact h5 (kp 5 (by decide) h), fun h => by rw [upd_ne _ _ (by decide)]; exact h6 (kp 6 (by decide) h), fun h => by rw [upd_ne _ _ (by decide)]; exact h7 (kp 7 (by decide) h), fun h => by rw [upd_ne _ _ (by decide)]; exact h8 (kp 8 (by decide) h), fun h => by rw [upd_ne _ _ (by decide)]; exact h9 (kp 9 (by decide) h), fun _ => upd_same _ _ _, fun h => by rw [upd_ne _ _ (by decide)]; exact h11 (kp 11 (by decide) h), fun h => by rw [upd_ne _ _ (by decide)]; exact h12 (kp 12 (by decide) h), fun h => by rw [upd_ne _ _ (by decide)]; exact h13 (kp 13 (by decide) h)⟩
      · have ho' := ho
        cases ho
        have bl : Below w'.heap.size w' (w'.alloc (.cells #[.slice none 0 0, .slice none 0 0] 35)) := (Below.refl _ w').alloc (Nat.le_refl _) _
        refine opY_value (v := .pointer (some ⟨w'.heap.size, 0, none⟩)) (w1 := w'.alloc (.cells #[.slice none 0 0, .slice none 0 0] 35)) (d := 14) rfl rfl rfl (by decide) (by
            generalize (actY a0 [56, 57, 58, 59, 60, 61, 62, 63, 55, 64, 65, 14, 15] y).eval = E at *
            go_simp) ?_
        exact ⟨hB.trans (bl.mono hB.size), fun h => by rw [upd_ne _ _ (by decide)]; exact h0 (kp 0 (by decide) h), fun h => by rw [upd_ne _ _ (by decide)]; exact h1 (kp 1 (by decide) h), fun h => by rw [upd_ne _ _ (by decide)]; exact h2 (kp 2 (by decide) h), fun h => by rw [upd_ne _ _ (by decide)]; exact h3 (kp 3 (by decide) h), fun h => by rw [upd_ne _ _ (by decide)]; exact h4 (kp 4 (by decide) h), fun h => by rw [upd_ne _ _ (by decide)]; exact h5 (kp 5 (by decide) h), fun h => by rw [upd_ne _ _ (by decide)]; exact h6 (kp 6 (by decide) h), fun h => by obtain ⟨u, u', e, o⟩ := h7 (kp 7 (by decide) h); exact ⟨u, u', by rw [upd_ne _ _ (by decide)]; exact e, o.below bl⟩, fun h => by obtain ⟨u, u', e, o⟩ := h8 (kp 8 (by decide) h); exact ⟨u, u', by rw [upd_ne _ _ (by decide)]; exact e, o.below bl⟩, fun h => by obtain ⟨u, u', e, o⟩ := h9 (kp 9 (by decide) h); exact ⟨u, u', by rw [upd_ne _ _ (by decide)]; exact e, o.below bl⟩, fun h => by rw [upd_ne _ _ (by decide)]; exact h10 (kp 10 (by decide) h), fun _ => ⟨w'.heap.size, _, upd_same _ _ _, hB.size, heap_alloc_new w' _, rfl⟩, (fun h => by have h2 := hc 12 _ rfl (kp 12 (by decide) h) { on := 11, ground := .data } (by simp) rfl; rw [hun] at h2; cases h2), fun h => by rw [upd_ne _ _ (by decide)]; exact h13 (kp 13 (by decide) h)⟩
      · cases ho
        have d9 : listed.getD 9 false = true := hdep { on := 9, ground := .data } (by simp) rfl
        have d11 : listed.getD 11 false = true := hdep { on := 11, ground := .data } (by simp) rfl
        obtain ⟨u, u', hu, ow⟩ := h9 d9
        obtain ⟨g, cs, hg, lg, hh, hcs⟩ := h11 d11
        have v14 : (actY a0 [56, 57, 58, 59, 60, 61, 62, 63, 55, 64, 65, 14, 15] y).eval (.tmp 14) = .pointer (some ⟨g, 0, none⟩) := by rw [actY_eval (by rw [hz]; decide), if_pos (by decide)]; exact hg
        have v64 : (actY a0 [56, 57, 58, 59, 60, 61, 62, 63, 55, 64, 65, 14, 15] y).eval (.tmp 64) = .agg #[u, u'] := by rw [actY_eval (by rw [hz]; decide), if_pos (by decide)]; exact hu
        obtain ⟨x, x', rfl⟩ : ∃ x x', cs = #[x, x'] := by
          match cs, hcs with
          | ⟨[x, x']⟩, _ => exact ⟨x, x', rfl⟩
        obtain ⟨Ao, co, Ao', co', rfl, rfl, -, -⟩ := ow.form HT1.out HT2.out
        have q1 := set_row2 (j := 0) (u := .slice Ao nm co) hh
        have q2 := set_row2 (j := 1) (u := .slice Ao' nm co') q1
        have q3 : ((w'.setCell ⟨g, 0, none⟩ (.slice Ao nm co)).setCell ⟨g, 1, none⟩ (.slice Ao' nm co')).heap[g]? = some (.cells #[.slice Ao nm co, .slice Ao' nm co'] 35 (0, 0)) := q2
        have bes : ∀ {v v' : Value}, OwnM w' w9.heap.size v v' (formT t f R) (formF t f R) → OwnM ((w'.setCell ⟨g, 0, none⟩ (.slice Ao nm co)).setCell ⟨g, 1, none⟩ (.slice Ao' nm co')) w9.heap.size v v' (formT t f R) (formF t f R) := fun h => ⟨own_beside (own_beside h.turn hh (by decide) 0) q1 (by decide) 1, own_beside (own_beside h.flip hh (by decide) 0) q1 (by decide) 1, h.apart⟩
        have hB2 : Below w9.heap.size w9 ((w'.setCell ⟨g, 0, none⟩ (.slice Ao nm co)).setCell ⟨g, 1, none⟩ (.slice Ao' nm co')) := hB.grown (grownBy_trans (grown_set w' g 0 _) (grown_set _ g 1 _)) hB.size (fun k hk => by cases hk; exact lg)
        have e0 : w'.cell? ⟨g, 0, none⟩ = some x := by rw [cell_of_row w' g 0 _ _ (0, 0) hh]; rfl
        have e1 : w'.cell? ⟨g, 1, none⟩ = some x' := by rw [cell_of_row w' g 1 _ _ (0, 0) hh]; rfl
        have f0 := frozen_of_row w' g 0 _ _ hh; have f1 := frozen_of_row w' g 1 _ _ hh; have f2 := frozen_of_row _ g 1 _ _ q1
        have e2 : (w'.setCell ⟨g, 0, none⟩ (.slice Ao nm co)).cell? ⟨g, 1, none⟩ = some x' := by rw [cell_of_row _ g 1 _ _ (0, 0) q1]; rfl
        refine opY_skip (w1 := (w'.setCell ⟨g, 0, none⟩ (.slice Ao nm co)).setCell ⟨g, 1, none⟩ (.slice Ao' nm co')) rfl rfl rfl (by
            generalize (actY a0 [56, 57, 58, 59, 60, 61, 62, 63, 55, 64, 65, 14, 15] y).eval = E at *
            go_simp) ?_
        exact ⟨hB2, fun h => by exact h0 (kp 0 (by decide) h), fun h => by exact h1 (kp 1 (by decide) h), fun h => by exact h2 (kp 2 (by decide) h), fun h => by exact h3 (kp 3 (by decide) h), fun h => by exact h4 (kp 4 (by decide) h), fun h => by exact h5 (kp 5 (by decide) h), fun h => by exact h6 (kp 6 (by decide) h), fun h => by obtain ⟨v, v', e, o⟩ := h7 (kp 7 (by decide) h); exact ⟨v, v', e, bes o⟩, fun h => by obtain ⟨v, v', e, o⟩ := h8 (kp 8 (by decide) h); exact ⟨v, v', e, bes o⟩, fun h => by obtain ⟨v, v', e, o⟩ := h9 (kp 9 (by decide) h); exact ⟨v, v', e, bes o⟩, fun h => by exact h10 (kp 10 (by decide) h), fun _ => ⟨g, _, hg, lg, q3, rfl⟩, fun _ => ⟨g, _, _, hg, lg, q3, bes ow⟩, fun h => by exact h13 (kp 13 (by decide) h)⟩
      · have ho' := ho
        cases ho
        have d10 : listed.getD 10 false = true := hdep { on := 10, ground := .data } (by simp) rfl
        have v65 : (actY a0 [56, 57, 58, 59, 60, 61, 62, 63, 55, 64, 65, 14, 15] y).eval (.tmp 65) = .bool true := by rw [actY_eval (by rw [hz]; decide), if_pos (by decide)]; exact h10 d10
        refine opY_value (v := .bool true) (w1 := w') (d := 15) rfl rfl rfl (by decide) (by
            generalize (actY a0 [56, 57, 58, 59, 60, 61, 62, 63, 55, 64, 65, 14, 15] y).eval = E at *
            go_simp) ?_
        exact ⟨hB, fun h => by rw [upd_ne _ _ (by decide)]; exact h0 (kp 0 (by decide) h), fun h => by rw [upd_ne _ _ (by decide)]; exact h1 (kp 1 (by decide) h), fun h => by rw [upd_ne _ _ (by decide)]; exact h2 (kp 2 (by decide) h), fun h => by rw [upd_ne _ _ (by decide)]; exact h3 (kp 3 (by decide) h), fun h => by rw [upd_ne _ _ (by decide)]; exact h4 (kp 4 (by decide) h), fun h => by rw [upd_ne _ _ (by decide)]; exact h5 (kp 5 (by decide) h), fun h => by rw [upd_ne _ _ (by decide)]; exact h6 (kp 6 (by decide) h), fun h => by rw [upd_ne _ _ (by decide)]; exact h7 (kp 7 (by decide) h), fun h => by rw [upd_ne _ _ (by decide)]; exact h8 (kp 8 (by decide) h), fun h => by rw [upd_ne _ _ (by decide)]; exact h9 (kp 9 (by decide) h), fun h => by rw [upd_ne _ _ (by decide)]; exact h10 (kp 10 (by decide) h), fun h => by rw [upd_ne _ _ (by decide)]; exact h11 (kp 11 (by decide) h), fun h => by rw [upd_ne _ _ (by decide)]; exact h12 (kp 12 (by decide) h), fun _ => upd_same _ _ _⟩
    case hend =>
      rintro listed y wb hall ⟨hB, -, -, -, -, -, -, -, -, -, -, -, -, h12, h13⟩
      obtain ⟨bo, u, u', hg, lg, hh, ow⟩ := h12 (hall 12 (by decide))
      have hy15 := h13 (hall 13 (by decide))
      obtain ⟨Ao, co, Ao', co', rfl, rfl, r1, r2⟩ := ow.form HT1.out HT2.out
      simp only [actY, putAll, List.foldl_cons, List.foldl_nil, hg, hy15]
      go_simp
      generalize y 56 = z56
      generalize y 57 = z57
      generalize y 58 = z58
      generalize y 59 = z59
      generalize y 60 = z60
      generalize y 61 = z61
      generalize y 62 = z62
      generalize y 63 = z63
      generalize y 55 = z55
      generalize y 64 = z64
      generalize y 65 = z65
      have HRo := Lib.hid r1; have HRo' := Lib.hid r2
      have BXo : Hid (Box wb bo 35 (.slice Ao nm co) (.slice Ao' nm co')) := hh
      have b := hB
      clear hg hy15 h12 h13 hall hB lg hh ow r1 r2
      replace HRm := Lib.hid (HRm.out.below b)
      replace HRm' := Lib.hid (HRm'.out.below b)
      replace HRa := Lib.hid (HRa.out.below b)
      replace HRd := Lib.hid (HRd.out.below b)
      replace HRd' := Lib.hid (HRd'.out.below b)
      replace HRi := Lib.hid (HRi.out.below b)
      replace HRi' := Lib.hid (HRi'.out.below b)
      replace BXm := Lib.hid (BXm.out.below b); replace cm_0 := BXm.out.cell0; replace cm_1 := BXm.out.cell1
      replace BXd := Lib.hid (BXd.out.below b); replace cd_0 := BXd.out.cell0; replace cd_1 := BXd.out.cell1
      replace BXi := Lib.hid (BXi.out.below b); replace ci_0 := BXi.out.cell0; replace ci_1 := BXi.out.cell1
      replace HB := Lib.hid (HB.out.trans (b.mono hs)); replace hs := HB.out.size
      clear b
      have qa0 : wb.cell? ⟨ga, 0, none⟩ = some (.int .i64 (V : Int)) := HRa.out.getg (j := 0) (by omega)
      have qa1 : wb.cell? ⟨ga, 1, none⟩ = some (.int .i64 (E : Int)) := HRa.out.getg (j := 1) (by omega)
      have qa2 : wb.cell? ⟨ga, 2, none⟩ = some (.int .i64 (F : Int)) := HRa.out.getg (j := 2) (by omega)
      have hG6 : G ≤ 6 := by omega
      have w1_ : IntKind.i64.wrap ((V : Int) - (E : Int)) = (V : Int) - (E : Int) := IntWalk.i64_in _ (by omega)
      have w2_ : IntKind.i64.wrap ((V : Int) - (E : Int) + (F : Int)) = (V : Int) - (E : Int) + (F : Int) := IntWalk.i64_in _ (by omega)
      have w3_ : IntKind.i64.wrap (2 * (G : Int)) = 2 * (G : Int) := IntWalk.i64_in _ (by omega)
      have w4_ : IntKind.i64.wrap (2 - 2 * (G : Int)) = 2 - 2 * (G : Int) := IntWalk.i64_in _ (by omega)
      have q1_ : ((V : Int) - (E : Int) + (F : Int) == 2 - 2 * (G : Int)) = true := by simp; omega
      have q2_ : decide ((0 : Int) ≤ (G : Int)) = true := by simp
      have q3_ : decide (2 * (G : Int) ≤ (E : Int)) = true := by simp; omega
      have q4_ : ((G : Int) == (G : Int)) = true := by simp
      clear hEu hGE
      have kd_0 := fun p : Above wb => (BXd.out.below p.b).cell0; have kd_1 := fun p : Above wb => (BXd.out.below p.b).cell1
      have HQd : Hid (∀ p : Above wb, Rd p.to Ad nm (mulL f t)) := fun p => HRd.out.below p.b; have HQd' : Hid (∀ p : Above wb, Rd p.to Ad' nm f) := fun p => HRd'.out.below p.b
      have ki_0 := fun p : Above wb => (BXi.out.below p.b).cell0; have ki_1 := fun p : Above wb => (BXi.out.below p.b).cell1
      have HQi : Hid (∀ p : Above wb, Rd p.to Ai nm (backL t)) := fun p => HRi.out.below p.b; have HQi' : Hid (∀ p : Above wb, Rd p.to Ai' nm f) := fun p => HRi'.out.below p.b
      have ko_0 := fun p : Above wb => (BXo.out.below p.b).cell0; have ko_1 := fun p : Above wb => (BXo.out.below p.b).cell1
      have HQo : Hid (∀ p : Above wb, Rd p.to Ao nm ((formT t f R))) := fun p => HRo.out.below p.b; have HQo' : Hid (∀ p : Above wb, Rd p.to Ao' nm ((formF t f R))) := fun p => HRo'.out.below p.b
      have ka0 : ∀ p : Above wb, p.to.cell? ⟨ga, 0, none⟩ = some (.int .i64 (V : Int)) := fun p => (HRa.out.below p.b).getg (j := 0) (by omega)
      have ka1 : ∀ p : Above wb, p.to.cell? ⟨ga, 1, none⟩ = some (.int .i64 (E : Int)) := fun p => (HRa.out.below p.b).getg (j := 1) (by omega)
      have ka2 : ∀ p : Above wb, p.to.cell? ⟨ga, 2, none⟩ = some (.int .i64 (F : Int)) := fun p => (HRa.out.below p.b).getg (j := 2) (by omega)
      skip
      have HCd : Hid (∀ p : Above wb, Calls Try.prog 59 #[.agg #[.slice Ad nm cd, .slice Ad' nm cd']] p.to fun e w'' => e = .returned (.int .i64 (G : Int)) ∧ ∃ q : Above wb, w'' = q.to) := fun p => Above.calls (impl_genusR _ Ad Ad' nm nm cd cd' (mulL f t) f (HQd.out _) (HQd'.out _) (by omega) (by omega) HG1.out)
      have HCi : Hid (∀ p : Above wb, Calls Try.prog 59 #[.agg #[.slice Ai nm ci, .slice Ai' nm ci']] p.to fun e w'' => e = .returned (.int .i64 (G : Int)) ∧ ∃ q : Above wb, w'' = q.to) := fun p => Above.calls (impl_genusR _ Ai Ai' nm nm ci ci' (backL t) f (HQi.out _) (HQi'.out _) (by omega) (by omega) HG2.out)
      have HCo : Hid (∀ p : Above wb, Calls Try.prog 59 #[.agg #[.slice Ao nm co, .slice Ao' nm co']] p.to fun e w'' => e = .returned (.int .i64 (G : Int)) ∧ ∃ q : Above wb, w'' = q.to) := fun p => Above.calls (impl_genusR _ Ao Ao' nm nm co co' ((formT t f R)) ((formF t f R)) (HQo.out _) (HQo'.out _) (by omega) (by omega) HG3.out)
      go_wp2_with fail
      refine wp_region_quiet_above (by kernel_rfl) (by kernel_rfl) ?_
      repeat (quiet_step (first | (go_at_call 59; with_reducible exact HCd.out _) | (go_at_call 59; with_reducible exact HCi.out _) | (go_at_call 59; with_reducible exact HCo.out _)))
      refine wpQuiet_nil ?_
      intro _ hw'
      obtain ⟨pq, hw''⟩ := hw'
      subst hw''
      go_wp2
      go_ret
      exact ⟨rfl, HB.out.trans (pq.b.mono hs)⟩
  · have hr0 : r = -1 := by rw [← HRR.out, genusR, if_neg hv]
    subst hr0
    go_wp2_with fail
    go_ret
    exact ⟨rfl, HB.out⟩

end Go.Proofs.Yteajaikgeephmaa
