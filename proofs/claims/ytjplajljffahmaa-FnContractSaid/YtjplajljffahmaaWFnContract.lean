/-
  FnContract: the walk of the law.
-/
import Derived.Test.YtjplajljffahmaaLawMap
import Derived.Test.YtjplajljffahmaaDrawFR
import Derived.Test.YtjplajljffahmaaDelW
import Derived.Test.YtjplajljffahmaaDelQR
import Derived.Test.YtjplajljffahmaaGenus
import Derived.Test.YtjplajljffahmaaPar3
namespace Go.Proofs.Ytjplajljffahmaa
open Go.RowKit

set_option maxRecDepth 100000 in
set_option maxHeartbeats 6400000 in
theorem walk_FnContract (A0 : Option Addr) (n0 c0 : Nat) (bs0 : List Int) (w : World) (h0 : RdB w A0 n0 bs0) (hm0 : n0 ≤ maxLen ∧ n0 ≤ c0) :
    Calls Try.prog 5 #[.slice A0 n0 c0] w fun e w' => e = .returned (.bool true) ∧ Below w.heap.size w w' := by
  have HB0_0 := Lib.hid h0; have hc0 := hm0.2; have hml0 := hm0.1; clear h0 hm0; unfold maxLen at hml0
  by_cases hbig0 : 1048576 < n0
  · have hd : decide ((1048576 : Int) < n0) = true := by simp; omega
    go_enter Try.func5, Try.ntmps5
    go_wp2
    go_ret
    exact ⟨rfl, Below.refl _ _⟩
  have hd0 : decide ((1048576 : Int) < n0) = false := by simp; omega
  have hnb0 : n0 ≤ 1048576 := by omega
  clear hbig0
  go_enter Try.func5, Try.ntmps5
  go_wp2_with fail
  refine (drawEdgeContract_any w A0 n0 c0 bs0 HB0_0.out hnb0 hc0).mono ?_
  rintro e w1 ⟨Am, Am', nm, nm', cm, cm', t, f, r, rfl, r1, r2, hlm, hlm', ⟨hr1, hr2⟩, b⟩
  have HNm := Lib.hid r1.1; have HNm' := Lib.hid r2.1; have HRm := Lib.hid r1; have HRm' := Lib.hid r2; clear r1 r2
  have HB := Lib.hid b; have hs := b.size; clear b
  obtain ⟨w2, hWw2, hx, b, hz⟩ := Box.local_ w1 25 (.slice Am nm cm) (.slice Am' nm' cm')
  have BXm := Lib.hid hx; clear hx hz
  replace HRm := Lib.hid (HRm.out.below b)
  replace HRm' := Lib.hid (HRm'.out.below b)
  replace HB := Lib.hid (HB.out.trans (b.mono hs)); replace hs := HB.out.size
  clear b
  have cm_0 := BXm.out.cell0; have cm_1 := BXm.out.cell1
  have HWr : Hid ((Lit.int .i64 r).wf = true) := by simp [Hid, Lit.wf, IntKind.min, IntKind.max, IntKind.bits, IntKind.signed]; omega
  by_cases hv : 0 ≤ kdR t f r ∧ kdR t f r ≠ 2 ∧ t.length ≠ 2
  · have HM := Lib.hid (mapV_iff.1 (kd_pos hv.1).1)
    obtain rfl : nm = nm' := by have := HM.out.len; rw [HNm.out, HNm'.out] at this; exact this
    have hn1 : 1 ≤ nm := by have := HM.out.turn.1; rw [HNm.out] at this; exact this
    have hne : 2 * (nm / 2) = nm := by have := flip_even HM.out.flip HM.out.paired; rw [HNm'.out] at this; exact this
    have hn2 : nm ≠ 2 := by have := hv.2.2; rw [HNm.out] at this; exact this
    have hHE : hasEB (f.length / 2) r = true := (kd_pos hv.1).2
    have HK : Hid (kindE t f r.toNat ≠ 2) := by have := hv.2.1; rw [kdR, if_pos (kd_pos hv.1)] at this; exact this
    have hre : r.toNat < f.length / 2 := by simp [hasEB, inB] at hHE; omega
    have HDL : Hid (cnR t f r = (true, conT t (aE f r) (gn f (aE f r)), delF f (aE f r) (gn f (aE f r)))) := by rw [Hid, cnR, if_pos hv]
    obtain ⟨a, ha⟩ : ∃ a, aE f r = a := ⟨_, rfl⟩
    obtain ⟨b, hb⟩ : ∃ b, gn f a = b := ⟨_, rfl⟩
    have HAE := Lib.hid ha
    have hda : dE f r.toNat = a := ha
    have hal : a < f.length := by rw [← hda]; exact (dE_of HM.out.flip HM.out.paired hre).1
    have hvn : vertN t a ≠ vertN t b := fun h => HK.out (by rw [kindE, hda, hb, if_pos h])
    have hdm := con_map HM.out hre (by rw [HNm'.out]; omega) hda hb hvn
    rw [ha, hb] at HDL
    have hDF := delF_vld HM.out.flip HM.out.paired hal hb (by rw [HNm'.out]; omega)
    obtain ⟨T, hT⟩ : ∃ T, conT t a b = T := ⟨_, rfl⟩
    obtain ⟨G, hG⟩ : ∃ G, delF f a b = G := ⟨_, rfl⟩
    obtain ⟨X, hX⟩ : ∃ X, delT (mulL f t) a b = X := ⟨_, rfl⟩
    rw [hT, hG] at HDL
    rw [hT, hG, hX] at hdm
    rw [hG] at hDF
    obtain ⟨k, hk⟩ : ∃ k, nm - 2 = k := ⟨_, rfl⟩
    have HO := Lib.hid hdm.1
    have HGL : Hid (G.length = k) := by rw [Hid, hDF.2, HNm'.out]; omega
    have HTL : Hid (T.length = k) := by rw [Hid, HO.out.len]; exact HGL.out
    have hk12 : k ≤ 12 := by omega
    have HD : Hid (IsMap (mulL f t) f) := HM.out.dual
    obtain ⟨V, hV⟩ : ∃ V, cntV t = V := ⟨_, rfl⟩
    obtain ⟨E, hE⟩ : ∃ E, cntE f = E := ⟨_, rfl⟩
    obtain ⟨F, hF⟩ : ∃ F, cntF t f = F := ⟨_, rfl⟩
    obtain ⟨E1, hE1⟩ : ∃ E1, cntE G = E1 := ⟨_, rfl⟩
    obtain ⟨V1, hV1⟩ : ∃ V1, cntV T = V1 := ⟨_, rfl⟩
    have hVs : V1 + 1 = V := by rw [← hV, ← hV1, cntV, cntV]; exact hdm.2.1
    have hV12 : V ≤ 12 := by have h2 := cyclesL_len (p := t); rw [HNm.out] at h2; rw [← hV, cntV]; omega
    have HF1 : Hid (cntF T G = F) := by rw [Hid, cntF, hdm.2.2.1, hdm.2.2.2.1]; exact hF
    have hEs : E1 + 1 = E := by rw [← hE, ← hE1, cntE, cntE, HGL.out, HNm'.out]; omega
    have hE6 : E ≤ 6 := by rw [← hE, cntE, HNm'.out]; omega
    have HV := Lib.hid hV; have HE := Lib.hid hE; have HF := Lib.hid hF; have HE1 := Lib.hid hE1; have HV1 := Lib.hid hV1; clear hV hE hF hE1 hV1
    have hkk : kdR (mulL f t) f r = kindE (mulL f t) f r.toNat := by rw [kdR, if_pos ⟨mapV_iff.2 HD.out, hHE⟩]
    have HC1 : Hid (dlR (mulL f t) f r = (true, X, G)) := by
      rw [Hid, dlR, if_pos ⟨by rw [hkk]; exact hdm.2.2.2.2.2, by rw [hkk]; exact hdm.2.2.2.2.1, by rw [mulL_len, HNm'.out]; exact hn2⟩, HAE.out, hb, hG, hX]
    clear hkk
    have HXX : Hid (mulL G T = X) := hdm.2.2.1
    have HXL : Hid (X.length = k) := by rw [Hid, ← HXX.out, mulL_len]; exact HGL.out
    obtain ⟨g, hg⟩ : ∃ g, genusR t f = g := ⟨_, rfl⟩
    have HG1 := Lib.hid hg
    have HG2 : Hid (genusR T G = g) := by
      rw [Hid, ← hg, genusR, genusR, if_pos (mapV_iff.2 HM.out), if_pos (mapV_iff.2 HO.out), genusOf, genusOf, HV.out, HE.out, HF.out, HV1.out, HE1.out, HF1.out]
      congr 1; omega
    have hgg : (g == g) = true := by simp
    clear hg
    have hsub : (E : Int) - 1 = (E1 : Int) := by omega
    have hsub2 : (V : Int) - 1 = (V1 : Int) := by omega
    have hwr2 : IntKind.i64.wrap (V1 : Int) = (V1 : Int) := IntWalk.i64_in _ (by omega)
    have hwr : IntKind.i64.wrap (E1 : Int) = (E1 : Int) := IntWalk.i64_in _ (by omega)
    clear hT hG hX hdm hDF ha hb hda hal hHE hre hv hvn
    go_wp2_with fail
    refine (impl_cnR w2 Am Am' nm nm cm cm' t f HRm.out HRm'.out (by omega) (by omega) (r) (HWr.out) (ok := true) (yt := T) (yf := G) (HDL.out)).mono ?_
    rintro e w3 ⟨u, u', rfl, o, b⟩
    have hl : (T : List Int).length = k := HTL.out
    have hl' : (G : List Int).length = k := HGL.out
    obtain ⟨Ao, co, Ao', co', rfl, rfl, r1, r2⟩ := o.form hl hl'
    have HRo := Lib.hid r1; have HRo' := Lib.hid r2; clear o hl hl' r1 r2
    replace HRm := Lib.hid (HRm.out.below b)
    replace HRm' := Lib.hid (HRm'.out.below b)
    replace BXm := Lib.hid (BXm.out.below b); replace cm_0 := BXm.out.cell0; replace cm_1 := BXm.out.cell1
    replace HB := Lib.hid (HB.out.trans (b.mono hs)); replace hs := HB.out.size
    clear b
    obtain ⟨w4, hWw4, hx, b, hz⟩ := Box.local_ w3 25 (.slice Ao k co) (.slice Ao' k co')
    have BXo := Lib.hid hx; clear hx hz
    replace HRm := Lib.hid (HRm.out.below b)
    replace HRm' := Lib.hid (HRm'.out.below b)
    replace HRo := Lib.hid (HRo.out.below b)
    replace HRo' := Lib.hid (HRo'.out.below b)
    replace BXm := Lib.hid (BXm.out.below b); replace cm_0 := BXm.out.cell0; replace cm_1 := BXm.out.cell1
    replace HB := Lib.hid (HB.out.trans (b.mono hs)); replace hs := HB.out.size
    clear b
    have co_0 := BXo.out.cell0; have co_1 := BXo.out.cell1
    go_wp2_with fail
    refine (spec_cnR w4 Am Am' nm nm cm cm' t f HRm.out HRm'.out (by omega) (by omega) (r) (HWr.out) (ok := true) (yt := T) (yf := G) (HDL.out)).mono ?_
    rintro e w5 ⟨u, u', rfl, o, b⟩
    have hl : (T : List Int).length = k := HTL.out
    have hl' : (G : List Int).length = k := HGL.out
    obtain ⟨Au, cu, Au', cu', rfl, rfl, r1, r2⟩ := o.form hl hl'
    have HRu := Lib.hid r1; have HRu' := Lib.hid r2; clear o hl hl' r1 r2
    replace HRm := Lib.hid (HRm.out.below b)
    replace HRm' := Lib.hid (HRm'.out.below b)
    replace HRo := Lib.hid (HRo.out.below b)
    replace HRo' := Lib.hid (HRo'.out.below b)
    replace BXm := Lib.hid (BXm.out.below b); replace cm_0 := BXm.out.cell0; replace cm_1 := BXm.out.cell1
    replace BXo := Lib.hid (BXo.out.below b); replace co_0 := BXo.out.cell0; replace co_1 := BXo.out.cell1
    replace HB := Lib.hid (HB.out.trans (b.mono hs)); replace hs := HB.out.size
    clear b
    obtain ⟨w6, hWw6, hx, b, hz⟩ := Box.local_ w5 25 (.slice Au k cu) (.slice Au' k cu')
    have BXu := Lib.hid hx; clear hx hz
    replace HRm := Lib.hid (HRm.out.below b)
    replace HRm' := Lib.hid (HRm'.out.below b)
    replace HRo := Lib.hid (HRo.out.below b)
    replace HRo' := Lib.hid (HRo'.out.below b)
    replace HRu := Lib.hid (HRu.out.below b)
    replace HRu' := Lib.hid (HRu'.out.below b)
    replace BXm := Lib.hid (BXm.out.below b); replace cm_0 := BXm.out.cell0; replace cm_1 := BXm.out.cell1
    replace BXo := Lib.hid (BXo.out.below b); replace co_0 := BXo.out.cell0; replace co_1 := BXo.out.cell1
    replace HB := Lib.hid (HB.out.trans (b.mono hs)); replace hs := HB.out.size
    clear b
    have cu_0 := BXu.out.cell0; have cu_1 := BXu.out.cell1
    go_wp2_with fail
    refine (same_map_yes w6 Ao Ao' Au Au' k k co co' k k cu cu' T G T G HRo.out HRo'.out HRu.out HRu'.out (by omega) (by omega) (by omega) (by omega) (rfl) (rfl)).mono ?_
    rintro e w7 ⟨rfl, b⟩
    replace HRm := Lib.hid (HRm.out.below b)
    replace HRm' := Lib.hid (HRm'.out.below b)
    replace HRo := Lib.hid (HRo.out.below b)
    replace HRo' := Lib.hid (HRo'.out.below b)
    replace HRu := Lib.hid (HRu.out.below b)
    replace HRu' := Lib.hid (HRu'.out.below b)
    replace BXm := Lib.hid (BXm.out.below b); replace cm_0 := BXm.out.cell0; replace cm_1 := BXm.out.cell1
    replace BXo := Lib.hid (BXo.out.below b); replace co_0 := BXo.out.cell0; replace co_1 := BXo.out.cell1
    replace BXu := Lib.hid (BXu.out.below b); replace cu_0 := BXu.out.cell0; replace cu_1 := BXu.out.cell1
    replace HB := Lib.hid (HB.out.trans (b.mono hs)); replace hs := HB.out.size
    clear b
    clear cu_0 cu_1
    clear HRu
    clear HRu'
    go_wp2_with fail
    refine (impl_countsR w7 Am Am' nm nm cm cm' t f HRm.out HRm'.out (by omega) (by omega) (ok := true) (ys := [(V : Int), (E : Int), (F : Int)]) (by rw [countsR, if_pos (mapV_iff.2 HM.out), HV.out, HE.out, HF.out])).mono ?_
    rintro e w8 ⟨v, rfl, o, b⟩
    have hl : ([(V : Int), (E : Int), (F : Int)] : List Int).length = 3 := rfl
    obtain ⟨Aa, ca, rfl, -, -⟩ := o.form' hl
    obtain ⟨ga, rfl, -, -, -⟩ := o.cellAt hl (k := 0) (by omega)
    have HRa := Lib.hid (o.rd hl); clear o hl
    replace HRm := Lib.hid (HRm.out.below b)
    replace HRm' := Lib.hid (HRm'.out.below b)
    replace HRo := Lib.hid (HRo.out.below b)
    replace HRo' := Lib.hid (HRo'.out.below b)
    replace BXm := Lib.hid (BXm.out.below b); replace cm_0 := BXm.out.cell0; replace cm_1 := BXm.out.cell1
    replace BXo := Lib.hid (BXo.out.below b); replace co_0 := BXo.out.cell0; replace co_1 := BXo.out.cell1
    replace HB := Lib.hid (HB.out.trans (b.mono hs)); replace hs := HB.out.size
    clear b
    go_wp2_with fail
    refine (impl_countsR w8 Ao Ao' k k co co' T G HRo.out HRo'.out (by omega) (by omega) (ok := true) (ys := [(V1 : Int), (E1 : Int), (F : Int)]) (by rw [countsR, if_pos (mapV_iff.2 HO.out), HV1.out, HE1.out, HF1.out])).mono ?_
    rintro e w9 ⟨v, rfl, o, b⟩
    have hl : ([(V1 : Int), (E1 : Int), (F : Int)] : List Int).length = 3 := rfl
    obtain ⟨Ab, cb, rfl, -, -⟩ := o.form' hl
    obtain ⟨gb, rfl, -, -, -⟩ := o.cellAt hl (k := 0) (by omega)
    have HRb := Lib.hid (o.rd hl); clear o hl
    replace HRm := Lib.hid (HRm.out.below b)
    replace HRm' := Lib.hid (HRm'.out.below b)
    replace HRo := Lib.hid (HRo.out.below b)
    replace HRo' := Lib.hid (HRo'.out.below b)
    replace HRa := Lib.hid (HRa.out.below b)
    replace BXm := Lib.hid (BXm.out.below b); replace cm_0 := BXm.out.cell0; replace cm_1 := BXm.out.cell1
    replace BXo := Lib.hid (BXo.out.below b); replace co_0 := BXo.out.cell0; replace co_1 := BXo.out.cell1
    replace HB := Lib.hid (HB.out.trans (b.mono hs)); replace hs := HB.out.size
    clear b
    go_wp2_with fail
    refine (impl_dualR w9 Am Am' nm nm cm cm' t f HRm.out HRm'.out (by omega) (by omega) (ok := true) (yt := mulL f t) (yf := f) (by rw [dualR, if_pos (mapV_iff.2 HM.out)])).mono ?_
    rintro e w10 ⟨u, u', rfl, o, b⟩
    have hl : (mulL f t : List Int).length = nm := (mulL_len _ _).trans HNm'.out
    have hl' : (f : List Int).length = nm := HNm'.out
    obtain ⟨Ad, cd, Ad', cd', rfl, rfl, r1, r2⟩ := o.form hl hl'
    have HRd := Lib.hid r1; have HRd' := Lib.hid r2; clear o hl hl' r1 r2
    replace HRm := Lib.hid (HRm.out.below b)
    replace HRm' := Lib.hid (HRm'.out.below b)
    replace HRo := Lib.hid (HRo.out.below b)
    replace HRo' := Lib.hid (HRo'.out.below b)
    replace HRa := Lib.hid (HRa.out.below b)
    replace HRb := Lib.hid (HRb.out.below b)
    replace BXm := Lib.hid (BXm.out.below b); replace cm_0 := BXm.out.cell0; replace cm_1 := BXm.out.cell1
    replace BXo := Lib.hid (BXo.out.below b); replace co_0 := BXo.out.cell0; replace co_1 := BXo.out.cell1
    replace HB := Lib.hid (HB.out.trans (b.mono hs)); replace hs := HB.out.size
    clear b
    obtain ⟨w11, hWw11, hx, b, hz⟩ := Box.local_ w10 25 (.slice Ad nm cd) (.slice Ad' nm cd')
    have BXd := Lib.hid hx; clear hx hz
    replace HRm := Lib.hid (HRm.out.below b)
    replace HRm' := Lib.hid (HRm'.out.below b)
    replace HRo := Lib.hid (HRo.out.below b)
    replace HRo' := Lib.hid (HRo'.out.below b)
    replace HRa := Lib.hid (HRa.out.below b)
    replace HRb := Lib.hid (HRb.out.below b)
    replace HRd := Lib.hid (HRd.out.below b)
    replace HRd' := Lib.hid (HRd'.out.below b)
    replace BXm := Lib.hid (BXm.out.below b); replace cm_0 := BXm.out.cell0; replace cm_1 := BXm.out.cell1
    replace BXo := Lib.hid (BXo.out.below b); replace co_0 := BXo.out.cell0; replace co_1 := BXo.out.cell1
    replace HB := Lib.hid (HB.out.trans (b.mono hs)); replace hs := HB.out.size
    clear b
    have cd_0 := BXd.out.cell0; have cd_1 := BXd.out.cell1
    have hVV : ((V1 : Int) == (V1 : Int)) = true := by simp
    have hFF : ((F : Int) == (F : Int)) = true := by simp
    have hEE : ((E1 : Int) == (E1 : Int)) = true := by simp
    go_wp2_with fail
    refine (impl_dlR w11 Ad Ad' nm nm cd cd' (mulL f t) f HRd.out HRd'.out (by omega) (by omega) (r) (HWr.out) (ok := true) (yt := X) (yf := G) (HC1.out)).mono ?_
    rintro e w12 ⟨u, u', rfl, o, b⟩
    have hl : (X : List Int).length = k := HXL.out
    have hl' : (G : List Int).length = k := HGL.out
    obtain ⟨Ax, cx, Ax', cx', rfl, rfl, r1, r2⟩ := o.form hl hl'
    have HRx := Lib.hid r1; have HRx' := Lib.hid r2; clear o hl hl' r1 r2
    replace HRm := Lib.hid (HRm.out.below b)
    replace HRm' := Lib.hid (HRm'.out.below b)
    replace HRo := Lib.hid (HRo.out.below b)
    replace HRo' := Lib.hid (HRo'.out.below b)
    replace HRa := Lib.hid (HRa.out.below b)
    replace HRb := Lib.hid (HRb.out.below b)
    replace HRd := Lib.hid (HRd.out.below b)
    replace HRd' := Lib.hid (HRd'.out.below b)
    replace BXm := Lib.hid (BXm.out.below b); replace cm_0 := BXm.out.cell0; replace cm_1 := BXm.out.cell1
    replace BXo := Lib.hid (BXo.out.below b); replace co_0 := BXo.out.cell0; replace co_1 := BXo.out.cell1
    replace BXd := Lib.hid (BXd.out.below b); replace cd_0 := BXd.out.cell0; replace cd_1 := BXd.out.cell1
    replace HB := Lib.hid (HB.out.trans (b.mono hs)); replace hs := HB.out.size
    clear b
    obtain ⟨w13, hWw13, hx, b, hz⟩ := Box.local_ w12 25 (.slice Ax k cx) (.slice Ax' k cx')
    have BXx := Lib.hid hx; clear hx hz
    replace HRm := Lib.hid (HRm.out.below b)
    replace HRm' := Lib.hid (HRm'.out.below b)
    replace HRo := Lib.hid (HRo.out.below b)
    replace HRo' := Lib.hid (HRo'.out.below b)
    replace HRa := Lib.hid (HRa.out.below b)
    replace HRb := Lib.hid (HRb.out.below b)
    replace HRd := Lib.hid (HRd.out.below b)
    replace HRd' := Lib.hid (HRd'.out.below b)
    replace HRx := Lib.hid (HRx.out.below b)
    replace HRx' := Lib.hid (HRx'.out.below b)
    replace BXm := Lib.hid (BXm.out.below b); replace cm_0 := BXm.out.cell0; replace cm_1 := BXm.out.cell1
    replace BXo := Lib.hid (BXo.out.below b); replace co_0 := BXo.out.cell0; replace co_1 := BXo.out.cell1
    replace BXd := Lib.hid (BXd.out.below b); replace cd_0 := BXd.out.cell0; replace cd_1 := BXd.out.cell1
    replace HB := Lib.hid (HB.out.trans (b.mono hs)); replace hs := HB.out.size
    clear b
    have cx_0 := BXx.out.cell0; have cx_1 := BXx.out.cell1
    go_wp2_with fail
    refine (impl_dualR w13 Ao Ao' k k co co' T G HRo.out HRo'.out (by omega) (by omega) (ok := true) (yt := X) (yf := G) (by rw [dualR, if_pos (mapV_iff.2 HO.out), HXX.out])).mono ?_
    rintro e w14 ⟨u, u', rfl, o, b⟩
    have hl : (X : List Int).length = k := HXL.out
    have hl' : (G : List Int).length = k := HGL.out
    obtain ⟨Ay, cy, Ay', cy', rfl, rfl, r1, r2⟩ := o.form hl hl'
    have HRy := Lib.hid r1; have HRy' := Lib.hid r2; clear o hl hl' r1 r2
    replace HRm := Lib.hid (HRm.out.below b)
    replace HRm' := Lib.hid (HRm'.out.below b)
    replace HRo := Lib.hid (HRo.out.below b)
    replace HRo' := Lib.hid (HRo'.out.below b)
    replace HRa := Lib.hid (HRa.out.below b)
    replace HRb := Lib.hid (HRb.out.below b)
    replace HRd := Lib.hid (HRd.out.below b)
    replace HRd' := Lib.hid (HRd'.out.below b)
    replace HRx := Lib.hid (HRx.out.below b)
    replace HRx' := Lib.hid (HRx'.out.below b)
    replace BXm := Lib.hid (BXm.out.below b); replace cm_0 := BXm.out.cell0; replace cm_1 := BXm.out.cell1
    replace BXo := Lib.hid (BXo.out.below b); replace co_0 := BXo.out.cell0; replace co_1 := BXo.out.cell1
    replace BXd := Lib.hid (BXd.out.below b); replace cd_0 := BXd.out.cell0; replace cd_1 := BXd.out.cell1
    replace BXx := Lib.hid (BXx.out.below b); replace cx_0 := BXx.out.cell0; replace cx_1 := BXx.out.cell1
    replace HB := Lib.hid (HB.out.trans (b.mono hs)); replace hs := HB.out.size
    clear b
    obtain ⟨w15, hWw15, hx, b, hz⟩ := Box.local_ w14 25 (.slice Ay k cy) (.slice Ay' k cy')
    have BXy := Lib.hid hx; clear hx hz
    replace HRm := Lib.hid (HRm.out.below b)
    replace HRm' := Lib.hid (HRm'.out.below b)
    replace HRo := Lib.hid (HRo.out.below b)
    replace HRo' := Lib.hid (HRo'.out.below b)
    replace HRa := Lib.hid (HRa.out.below b)
    replace HRb := Lib.hid (HRb.out.below b)
    replace HRd := Lib.hid (HRd.out.below b)
    replace HRd' := Lib.hid (HRd'.out.below b)
    replace HRx := Lib.hid (HRx.out.below b)
    replace HRx' := Lib.hid (HRx'.out.below b)
    replace HRy := Lib.hid (HRy.out.below b)
    replace HRy' := Lib.hid (HRy'.out.below b)
    replace BXm := Lib.hid (BXm.out.below b); replace cm_0 := BXm.out.cell0; replace cm_1 := BXm.out.cell1
    replace BXo := Lib.hid (BXo.out.below b); replace co_0 := BXo.out.cell0; replace co_1 := BXo.out.cell1
    replace BXd := Lib.hid (BXd.out.below b); replace cd_0 := BXd.out.cell0; replace cd_1 := BXd.out.cell1
    replace BXx := Lib.hid (BXx.out.below b); replace cx_0 := BXx.out.cell0; replace cx_1 := BXx.out.cell1
    replace HB := Lib.hid (HB.out.trans (b.mono hs)); replace hs := HB.out.size
    clear b
    have cy_0 := BXy.out.cell0; have cy_1 := BXy.out.cell1
    have qa0 : w15.cell? ⟨ga, 0, none⟩ = some (.int .i64 (V : Int)) := HRa.out.getg (j := 0) (by omega)
    have qa1 : w15.cell? ⟨ga, 1, none⟩ = some (.int .i64 (E : Int)) := HRa.out.getg (j := 1) (by omega)
    have qa2 : w15.cell? ⟨ga, 2, none⟩ = some (.int .i64 (F : Int)) := HRa.out.getg (j := 2) (by omega)
    have qb0 : w15.cell? ⟨gb, 0, none⟩ = some (.int .i64 (V1 : Int)) := HRb.out.getg (j := 0) (by omega)
    have qb1 : w15.cell? ⟨gb, 1, none⟩ = some (.int .i64 (E1 : Int)) := HRb.out.getg (j := 1) (by omega)
    have qb2 : w15.cell? ⟨gb, 2, none⟩ = some (.int .i64 (F : Int)) := HRb.out.getg (j := 2) (by omega)
    go_wp2_with fail
    go_region_held3 (fun w' => w'.cell? ⟨w12.heap.size, 0, none⟩ = some (.slice Ax k cx) ∧ w'.cell? ⟨w12.heap.size, 1, none⟩ = some (.slice Ax' k cx') ∧ w'.cell? ⟨w14.heap.size, 0, none⟩ = some (.slice Ay k cy) ∧ w'.cell? ⟨w14.heap.size, 1, none⟩ = some (.slice Ay' k cy') ∧ w'.cell? ⟨w3.heap.size, 0, none⟩ = some (.slice Ao k co) ∧ w'.cell? ⟨w3.heap.size, 1, none⟩ = some (.slice Ao' k co') ∧ w'.cell? ⟨w1.heap.size, 0, none⟩ = some (.slice Am nm cm) ∧ w'.cell? ⟨w1.heap.size, 1, none⟩ = some (.slice Am' nm cm') ∧ w'.cell? ⟨ga, 0, none⟩ = some (.int .i64 (V : Int)) ∧ w'.cell? ⟨ga, 1, none⟩ = some (.int .i64 (E : Int)) ∧ w'.cell? ⟨ga, 2, none⟩ = some (.int .i64 (F : Int)) ∧ w'.cell? ⟨gb, 0, none⟩ = some (.int .i64 (V1 : Int)) ∧ w'.cell? ⟨gb, 1, none⟩ = some (.int .i64 (E1 : Int)) ∧ w'.cell? ⟨gb, 2, none⟩ = some (.int .i64 (F : Int))) (first | go_keep | exact ⟨(BXx.out.below BS2.out).cell0, (BXx.out.below BS2.out).cell1, (BXy.out.below BS2.out).cell0, (BXy.out.below BS2.out).cell1, (BXo.out.below BS2.out).cell0, (BXo.out.below BS2.out).cell1, (BXm.out.below BS2.out).cell0, (BXm.out.below BS2.out).cell1, (HRa.out.below BS2.out).getg (j := 0) (by omega), (HRa.out.below BS2.out).getg (j := 1) (by omega), (HRa.out.below BS2.out).getg (j := 2) (by omega), (HRb.out.below BS2.out).getg (j := 0) (by omega), (HRb.out.below BS2.out).getg (j := 1) (by omega), (HRb.out.below BS2.out).getg (j := 2) (by omega)⟩ | exact ⟨(BXx.out.below BS1.out).cell0, (BXx.out.below BS1.out).cell1, (BXy.out.below BS1.out).cell0, (BXy.out.below BS1.out).cell1, (BXo.out.below BS1.out).cell0, (BXo.out.below BS1.out).cell1, (BXm.out.below BS1.out).cell0, (BXm.out.below BS1.out).cell1, (HRa.out.below BS1.out).getg (j := 0) (by omega), (HRa.out.below BS1.out).getg (j := 1) (by omega), (HRa.out.below BS1.out).getg (j := 2) (by omega), (HRb.out.below BS1.out).getg (j := 0) (by omega), (HRb.out.below BS1.out).getg (j := 1) (by omega), (HRb.out.below BS1.out).getg (j := 2) (by omega)⟩ | exact ⟨(BXx.out.below BS0.out).cell0, (BXx.out.below BS0.out).cell1, (BXy.out.below BS0.out).cell0, (BXy.out.below BS0.out).cell1, (BXo.out.below BS0.out).cell0, (BXo.out.below BS0.out).cell1, (BXm.out.below BS0.out).cell0, (BXm.out.below BS0.out).cell1, (HRa.out.below BS0.out).getg (j := 0) (by omega), (HRa.out.below BS0.out).getg (j := 1) (by omega), (HRa.out.below BS0.out).getg (j := 2) (by omega), (HRb.out.below BS0.out).getg (j := 0) (by omega), (HRb.out.below BS0.out).getg (j := 1) (by omega), (HRb.out.below BS0.out).getg (j := 2) (by omega)⟩) (first
      | (have hchk := BS1.out; clear hchk; go_at_call 16; refine (same_map_yes _ Ax Ax' Ay Ay' k k cx cx' k k cy cy' X G X G (HRx.out.below BS1.out) (HRx'.out.below BS1.out) (HRy.out.below BS1.out) (HRy'.out.below BS1.out) (by omega) (by omega) (by omega) (by omega) (rfl) (rfl)).mono ?_; rintro e w18 ⟨rfl, b⟩; have BS2 : Hid (Below w15.heap.size w15 w18) := BS1.out.trans (b.mono BS1.out.size); clear b)
      | (have hchk := BS0.out; clear hchk; go_at_call 21; refine (impl_genusR _ Am Am' nm nm cm cm' t f (HRm.out.below BS0.out) (HRm'.out.below BS0.out) (by omega) (by omega) HG1.out).mono ?_; rintro e w17 ⟨rfl, b⟩; have BS1 : Hid (Below w15.heap.size w15 w17) := BS0.out.trans (b.mono BS0.out.size); clear b)
      | (go_at_call 21; refine (impl_genusR _ Ao Ao' k k co co' T G (HRo.out.drewN _) (HRo'.out.drewN _) (by omega) (by omega) HG2.out).mono ?_; rintro e w16 ⟨rfl, b⟩; have BS0 : Hid (Below w15.heap.size w15 w16) := Below.of_drewN b; clear b))
    all_goals
      go_wp2
      go_ret
      exact ⟨rfl, HB.out.trans (BS2.out.mono hs)⟩
  · have HV : Hid (cnR t f r = (false, [], [])) := by rw [Hid, cnR, if_neg hv]
    go_wp2_with fail
    refine (impl_cnR w2 Am Am' nm nm' cm cm' t f HRm.out HRm'.out (by omega) (by omega) (r) (HWr.out) (ok := false) (yt := []) (yf := []) (HV.out)).mono ?_
    rintro e w3 ⟨u, u', rfl, o, b⟩
    have hl : ([] : List Int).length = 0 := rfl
    have hl' : ([] : List Int).length = 0 := rfl
    obtain ⟨Ao, co, Ao', co', rfl, rfl, r1, r2⟩ := o.form hl hl'
    have HRo := Lib.hid r1; have HRo' := Lib.hid r2; clear o hl hl' r1 r2
    replace HRm := Lib.hid (HRm.out.below b)
    replace HRm' := Lib.hid (HRm'.out.below b)
    replace BXm := Lib.hid (BXm.out.below b); replace cm_0 := BXm.out.cell0; replace cm_1 := BXm.out.cell1
    replace HB := Lib.hid (HB.out.trans (b.mono hs)); replace hs := HB.out.size
    clear b
    obtain ⟨w4, hWw4, hx, b, hz⟩ := Box.local_ w3 25 (.slice Ao 0 co) (.slice Ao' 0 co')
    have BXo := Lib.hid hx; clear hx hz
    replace HRm := Lib.hid (HRm.out.below b)
    replace HRm' := Lib.hid (HRm'.out.below b)
    replace HRo := Lib.hid (HRo.out.below b)
    replace HRo' := Lib.hid (HRo'.out.below b)
    replace BXm := Lib.hid (BXm.out.below b); replace cm_0 := BXm.out.cell0; replace cm_1 := BXm.out.cell1
    replace HB := Lib.hid (HB.out.trans (b.mono hs)); replace hs := HB.out.size
    clear b
    have co_0 := BXo.out.cell0; have co_1 := BXo.out.cell1
    go_wp2_with fail
    refine (spec_cnR w4 Am Am' nm nm' cm cm' t f HRm.out HRm'.out (by omega) (by omega) (r) (HWr.out) (ok := false) (yt := []) (yf := []) (HV.out)).mono ?_
    rintro e w5 ⟨u, u', rfl, o, b⟩
    have hl : ([] : List Int).length = 0 := rfl
    have hl' : ([] : List Int).length = 0 := rfl
    obtain ⟨Au, cu, Au', cu', rfl, rfl, r1, r2⟩ := o.form hl hl'
    have HRu := Lib.hid r1; have HRu' := Lib.hid r2; clear o hl hl' r1 r2
    replace HRm := Lib.hid (HRm.out.below b)
    replace HRm' := Lib.hid (HRm'.out.below b)
    replace HRo := Lib.hid (HRo.out.below b)
    replace HRo' := Lib.hid (HRo'.out.below b)
    replace BXm := Lib.hid (BXm.out.below b); replace cm_0 := BXm.out.cell0; replace cm_1 := BXm.out.cell1
    replace BXo := Lib.hid (BXo.out.below b); replace co_0 := BXo.out.cell0; replace co_1 := BXo.out.cell1
    replace HB := Lib.hid (HB.out.trans (b.mono hs)); replace hs := HB.out.size
    clear b
    obtain ⟨w6, hWw6, hx, b, hz⟩ := Box.local_ w5 25 (.slice Au 0 cu) (.slice Au' 0 cu')
    have BXu := Lib.hid hx; clear hx hz
    replace HRm := Lib.hid (HRm.out.below b)
    replace HRm' := Lib.hid (HRm'.out.below b)
    replace HRo := Lib.hid (HRo.out.below b)
    replace HRo' := Lib.hid (HRo'.out.below b)
    replace HRu := Lib.hid (HRu.out.below b)
    replace HRu' := Lib.hid (HRu'.out.below b)
    replace BXm := Lib.hid (BXm.out.below b); replace cm_0 := BXm.out.cell0; replace cm_1 := BXm.out.cell1
    replace BXo := Lib.hid (BXo.out.below b); replace co_0 := BXo.out.cell0; replace co_1 := BXo.out.cell1
    replace HB := Lib.hid (HB.out.trans (b.mono hs)); replace hs := HB.out.size
    clear b
    have cu_0 := BXu.out.cell0; have cu_1 := BXu.out.cell1
    go_wp2_with fail
    refine (same_map_yes w6 Ao Ao' Au Au' 0 0 co co' 0 0 cu cu' [] [] [] [] HRo.out HRo'.out HRu.out HRu'.out (by omega) (by omega) (by omega) (by omega) (rfl) (rfl)).mono ?_
    rintro e w7 ⟨rfl, b⟩
    replace HRm := Lib.hid (HRm.out.below b)
    replace HRm' := Lib.hid (HRm'.out.below b)
    replace HRo := Lib.hid (HRo.out.below b)
    replace HRo' := Lib.hid (HRo'.out.below b)
    replace HRu := Lib.hid (HRu.out.below b)
    replace HRu' := Lib.hid (HRu'.out.below b)
    replace BXm := Lib.hid (BXm.out.below b); replace cm_0 := BXm.out.cell0; replace cm_1 := BXm.out.cell1
    replace BXo := Lib.hid (BXo.out.below b); replace co_0 := BXo.out.cell0; replace co_1 := BXo.out.cell1
    replace BXu := Lib.hid (BXu.out.below b); replace cu_0 := BXu.out.cell0; replace cu_1 := BXu.out.cell1
    replace HB := Lib.hid (HB.out.trans (b.mono hs)); replace hs := HB.out.size
    clear b
    go_wp2_with fail
    refine (same_map_yes w7 Ao Ao' Au Au' 0 0 co co' 0 0 cu cu' [] [] [] [] HRo.out HRo'.out HRu.out HRu'.out (by omega) (by omega) (by omega) (by omega) (rfl) (rfl)).mono ?_
    rintro e w8 ⟨rfl, b⟩
    replace HRm := Lib.hid (HRm.out.below b)
    replace HRm' := Lib.hid (HRm'.out.below b)
    replace HRo := Lib.hid (HRo.out.below b)
    replace HRo' := Lib.hid (HRo'.out.below b)
    replace HRu := Lib.hid (HRu.out.below b)
    replace HRu' := Lib.hid (HRu'.out.below b)
    replace BXm := Lib.hid (BXm.out.below b); replace cm_0 := BXm.out.cell0; replace cm_1 := BXm.out.cell1
    replace BXo := Lib.hid (BXo.out.below b); replace co_0 := BXo.out.cell0; replace co_1 := BXo.out.cell1
    replace BXu := Lib.hid (BXu.out.below b); replace cu_0 := BXu.out.cell0; replace cu_1 := BXu.out.cell1
    replace HB := Lib.hid (HB.out.trans (b.mono hs)); replace hs := HB.out.size
    clear b
    go_wp2_with fail
    go_ret
    exact ⟨rfl, HB.out⟩

end Go.Proofs.Ytjplajljffahmaa
