/-
  FnChoice: the walk of the law.
-/
import Derived.Test.YtjplajljffahmaaLawMap
import Derived.Test.YtjplajljffahmaaDrawCho
import Derived.Test.YtjplajljffahmaaAllOf
import Derived.Test.YtjplajljffahmaaGenus
import Derived.Test.YtjplajljffahmaaOpa
import Derived.Test.YtjplajljffahmaaAbove
namespace Go.Proofs.Ytjplajljffahmaa
open Go.RowKit

set_option maxRecDepth 100000 in
set_option maxHeartbeats 6400000 in
theorem walk_FnChoice (A0 : Option Addr) (n0 c0 : Nat) (bs0 : List Int) (w : World) (h0 : RdB w A0 n0 bs0) (hm0 : n0 ≤ maxLen ∧ n0 ≤ c0) :
    Calls Try.prog 6 #[.slice A0 n0 c0] w fun e w' => e = .returned (.bool true) ∧ Below w.heap.size w w' := by
  have HB0_0 := Lib.hid h0; have hc0 := hm0.2; have hml0 := hm0.1; clear h0 hm0; unfold maxLen at hml0
  by_cases hbig0 : 1048576 < n0
  · have hd : decide ((1048576 : Int) < n0) = true := by simp; omega
    go_enter Try.func6, Try.ntmps6
    go_wp2
    go_ret
    exact ⟨rfl, Below.refl _ _⟩
  have hd0 : decide ((1048576 : Int) < n0) = false := by simp; omega
  have hnb0 : n0 ≤ 1048576 := by omega
  clear hbig0
  go_enter Try.func6, Try.ntmps6
  go_wp2_with fail
  refine (drawChoiceValid_any w A0 n0 c0 bs0 HB0_0.out hnb0 hc0).mono ?_
  rintro e w1 ⟨Am, Am', nm, nm', cm, cm', t, f, v, xs, rfl, r1, r2, hlm, hlm', o, hlz, b⟩
  obtain ⟨nz, hn⟩ : ∃ n, xs.length = n := ⟨_, rfl⟩
  rw [hn] at hlz
  obtain ⟨Az, cz, rfl, -, -⟩ := o.form' hn
  have HRz := Lib.hid (o.rd hn); have HNz := Lib.hid hn; clear o hn
  have HNm := Lib.hid r1.1; have HNm' := Lib.hid r2.1; have HRm := Lib.hid r1; have HRm' := Lib.hid r2; clear r1 r2
  have HB := Lib.hid b; have hs := b.size; clear b
  obtain ⟨w2, hWw2, hx, b, hz⟩ := Box.local_ w1 25 (.slice Am nm cm) (.slice Am' nm' cm')
  have BXm := Lib.hid hx; clear hx hz
  replace HRm := Lib.hid (HRm.out.below b)
  replace HRm' := Lib.hid (HRm'.out.below b)
  replace HRz := Lib.hid (HRz.out.below b)
  replace HB := Lib.hid (HB.out.trans (b.mono hs)); replace hs := HB.out.size
  clear b
  have cm_0 := BXm.out.cell0; have cm_1 := BXm.out.cell1
  cases hv : chV t f xs with
  | true =>
    obtain ⟨s, r, hm, r1, -, -, -, -, -, -, -, hlen⟩ := rest_facts hv
    have HM := Lib.hid hm; have HV := Lib.hid hv
    obtain rfl : nm = nm' := by have := hm.len; rw [HNm.out, HNm'.out] at this; exact this
    obtain ⟨ys, hys⟩ : ∃ ys, bL r = ys := ⟨_, rfl⟩
    rw [hys] at r1 hlen
    obtain ⟨k, hk⟩ : ∃ k, ys.length = k := ⟨_, rfl⟩
    obtain ⟨E, hE⟩ : ∃ E, f.length / 2 = E := ⟨_, rfl⟩
    obtain ⟨V, hV⟩ : ∃ V, cntV t = V := ⟨_, rfl⟩
    obtain ⟨F, hF⟩ : ∃ F, cntF t f = F := ⟨_, rfl⟩
    obtain ⟨g, hg⟩ : ∃ g, genusOf t f = g := ⟨_, rfl⟩
    obtain ⟨f1, f2⟩ := all_facts hm
    rw [hE, hV, hF, hg] at f1
    rw [hV] at f2
    obtain ⟨q2, q3, q4, f2⟩ := f2
    obtain ⟨l2, l3, f3⟩ : ∃ l2 l3 : Int, ccR t f (allN E) = (true, [(1 : Int), (F : Int), l2, l3, g]) := ⟨_, _, f1⟩
    have hE6 : E ≤ 6 := by rw [← hE, HNm'.out]; omega
    have hsum : (k : Int) + (nz : Int) = (E : Int) := by rw [hk, HNz.out, hE] at hlen; omega
    have hk12 : k ≤ 12 := by omega
    have hwr : IntKind.i64.wrap (E : Int) = (E : Int) := IntWalk.i64_in _ (by omega)
    have R1 := Lib.hid r1; have C1 := Lib.hid f3; have C0 := Lib.hid f2; have HYL := Lib.hid hk; have HE : Hid (cntE f = E) := hE; have HVV := Lib.hid hV; have HF := Lib.hid hF
    have HG : Hid (genusR t f = g) := by rw [Hid, genusR, if_pos (mapV_iff.2 hm)]; exact hg
    have hEE : ((E : Int) == (E : Int)) = true := by simp
    have hV1 : ((V : Int) == (V : Int)) = true := by simp
    have hF1 : ((F : Int) == (F : Int)) = true := by simp
    have hgg : (g == g) = true := by simp
    clear r1 f1 f2 f3 hys hlen hk hE hV hF hg hm hv
    go_wp2_with fail
    refine (impl_chV w2 Am Am' nm nm cm cm' t f HRm.out HRm'.out (by omega) (by omega) Az cz nz xs HRz.out (by omega) HV.out).mono ?_
    rintro e w3 ⟨rfl, b⟩
    replace HRm := Lib.hid (HRm.out.below b)
    replace HRm' := Lib.hid (HRm'.out.below b)
    replace HRz := Lib.hid (HRz.out.below b)
    replace BXm := Lib.hid (BXm.out.below b); replace cm_0 := BXm.out.cell0; replace cm_1 := BXm.out.cell1
    replace HB := Lib.hid (HB.out.trans (b.mono hs)); replace hs := HB.out.size
    clear b
    go_wp2_with fail
    refine (spec_chV w3 Am Am' nm nm cm cm' t f HRm.out HRm'.out (by omega) (by omega) Az cz nz xs HRz.out (by omega) HV.out).mono ?_
    rintro e w4 ⟨rfl, b⟩
    replace HRm := Lib.hid (HRm.out.below b)
    replace HRm' := Lib.hid (HRm'.out.below b)
    replace HRz := Lib.hid (HRz.out.below b)
    replace BXm := Lib.hid (BXm.out.below b); replace cm_0 := BXm.out.cell0; replace cm_1 := BXm.out.cell1
    replace HB := Lib.hid (HB.out.trans (b.mono hs)); replace hs := HB.out.size
    clear b
    go_wp2_with fail
    refine (impl_chRestR w4 Am Am' nm nm cm cm' t f HRm.out HRm'.out (by omega) (by omega) Az cz nz xs HRz.out (by omega) (ok := true) (ys := ys) (R1.out)).mono ?_
    rintro e w5 ⟨v, rfl, o, b⟩
    have hl : (ys : List Int).length = k := HYL.out
    obtain ⟨Ao, co, rfl, -, -⟩ := o.form' hl
    have HRo := Lib.hid (o.rd hl); clear o hl
    replace HRm := Lib.hid (HRm.out.below b)
    replace HRm' := Lib.hid (HRm'.out.below b)
    replace HRz := Lib.hid (HRz.out.below b)
    replace BXm := Lib.hid (BXm.out.below b); replace cm_0 := BXm.out.cell0; replace cm_1 := BXm.out.cell1
    replace HB := Lib.hid (HB.out.trans (b.mono hs)); replace hs := HB.out.size
    clear b
    go_wp2_with fail
    refine (impl_countsR w5 Am Am' nm nm cm cm' t f HRm.out HRm'.out (by omega) (by omega) (ok := true) (ys := [(V : Int), (E : Int), (F : Int)]) (by rw [countsR, if_pos (mapV_iff.2 HM.out), HVV.out, HE.out, HF.out])).mono ?_
    rintro e w6 ⟨v, rfl, o, b⟩
    have hl : ([(V : Int), (E : Int), (F : Int)] : List Int).length = 3 := rfl
    obtain ⟨Aa, ca, rfl, -, -⟩ := o.form' hl
    obtain ⟨ga, rfl, -, -, -⟩ := o.cellAt hl (k := 0) (by omega)
    have HRa := Lib.hid (o.rd hl); clear o hl
    replace HRm := Lib.hid (HRm.out.below b)
    replace HRm' := Lib.hid (HRm'.out.below b)
    replace HRz := Lib.hid (HRz.out.below b)
    replace HRo := Lib.hid (HRo.out.below b)
    replace BXm := Lib.hid (BXm.out.below b); replace cm_0 := BXm.out.cell0; replace cm_1 := BXm.out.cell1
    replace HB := Lib.hid (HB.out.trans (b.mono hs)); replace hs := HB.out.size
    clear b
    have qa1 : w6.cell? ⟨ga, 1, none⟩ = some (.int .i64 (E : Int)) := HRa.out.getg (j := 1) (by omega)
    go_wp2_with fail
    refine region_act [51, 52, 53, 54, 55, 56, 50, 57, 58, 11, 12] (by kernel_rfl) (by kernel_rfl) (fun listed y w' => Below w6.heap.size w6 w' ∧ (listed.getD 0 false = true → y 51 = .agg #[.slice Am nm cm, .slice Am' nm cm']) ∧ (listed.getD 1 false = true → y 52 = .slice (some ⟨ga, 0, none⟩) 3 ca) ∧ (listed.getD 2 false = true → y 53 = .pointer (some ⟨ga, 1, none⟩)) ∧ (listed.getD 3 false = true → y 54 = .int .i64 (E : Int)) ∧ (listed.getD 4 false = true → ∃ A c, y 55 = .slice A E c ∧ Rd w' A E (allN E)) ∧ (listed.getD 5 false = true → ∃ A c, y 56 = .tuple #[.slice A 5 c, .bool true] ∧ Own w' w6.heap.size (.slice A 5 c) [(1 : Int), (F : Int), l2, l3, g]) ∧ (listed.getD 6 false = true → ∃ A c, y 50 = .tuple #[.slice A 5 c, .bool true] ∧ Own w' w6.heap.size (.slice A 5 c) [(1 : Int), (F : Int), l2, l3, g]) ∧ (listed.getD 7 false = true → ∃ A c, y 57 = .slice A 5 c ∧ Own w' w6.heap.size (.slice A 5 c) [(1 : Int), (F : Int), l2, l3, g]) ∧ (listed.getD 8 false = true → y 58 = .bool true) ∧ (listed.getD 9 false = true → ∃ A c, y 11 = .slice A 5 c ∧ Own w' w6.heap.size (.slice A 5 c) [(1 : Int), (F : Int), l2, l3, g]) ∧ (listed.getD 10 false = true → y 12 = .bool true)) ?h0 ?hstep ?hend
    case h0 =>
      refine ⟨below_drewN (Below.refl _ _) 1, ?_, ?_, ?_, ?_, ?_, ?_, ?_, ?_, ?_, ?_, ?_⟩ <;> (intro h; rw [getD_replicate_false] at h; cases h)
    case hstep =>
      intro a0 ha0
      have hz : a0.tmps.size = 127 := by rw [ha0]; rfl
      have b3 : a0.eval (.tmp 3) = .pointer (some ⟨w1.heap.size, 0, none⟩) := by rw [ha0]; rfl
      have b9 : a0.eval (.tmp 9) = .slice (some ⟨ga, 0, none⟩) 3 ca := by rw [ha0]; rfl
      clear ha0
      rintro i o listed y w' ho hi hsz hc hun hdep ⟨hB, h0, h1, h2, h3, h4, h5, h6, h7, h8, h9, h10⟩
      have hi' : i < 11 := hi
      have kp : ∀ j, i ≠ j → (listed.setIfInBounds i true).getD j false = true → listed.getD j false = true := fun j hne h => by rwa [listed_other hne] at h
      rcases (by omega : i = 0 ∨ i = 1 ∨ i = 2 ∨ i = 3 ∨ i = 4 ∨ i = 5 ∨ i = 6 ∨ i = 7 ∨ i = 8 ∨ i = 9 ∨ i = 10) with rfl | rfl | rfl | rfl | rfl | rfl | rfl | rfl | rfl | rfl | rfl
      · cases ho
        have v3 : (actY a0 [51, 52, 53, 54, 55, 56, 50, 57, 58, 11, 12] y).eval (.tmp 3) = .pointer (some ⟨w1.heap.size, 0, none⟩) := by rw [actY_eval (by rw [hz]; decide), if_neg (by decide)]; exact b3
        have e0 := (BXm.out.below hB).cell0; have e1 := (BXm.out.below hB).cell1
        refine opY_value (v := .agg #[.slice Am nm cm, .slice Am' nm cm']) (w1 := w') (d := 51) rfl rfl rfl (by decide) (by
            generalize (actY a0 [51, 52, 53, 54, 55, 56, 50, 57, 58, 11, 12] y).eval = E at *
            go_simp) ?_
        exact ⟨hB, fun _ => upd_same _ _ _, (fun h => by rw [upd_ne _ _ (by decide)]; exact h1 (kp 1 (by decide) h)), (fun h => by rw [upd_ne _ _ (by decide)]; exact h2 (kp 2 (by decide) h)), (fun h => by rw [upd_ne _ _ (by decide)]; exact h3 (kp 3 (by decide) h)), (fun h => by rw [upd_ne _ _ (by decide)]; exact h4 (kp 4 (by decide) h)), (fun h => by rw [upd_ne _ _ (by decide)]; exact h5 (kp 5 (by decide) h)), (fun h => by rw [upd_ne _ _ (by decide)]; exact h6 (kp 6 (by decide) h)), (fun h => by rw [upd_ne _ _ (by decide)]; exact h7 (kp 7 (by decide) h)), (fun h => by rw [upd_ne _ _ (by decide)]; exact h8 (kp 8 (by decide) h)), (fun h => by rw [upd_ne _ _ (by decide)]; exact h9 (kp 9 (by decide) h)), (fun h => by rw [upd_ne _ _ (by decide)]; exact h10 (kp 10 (by decide) h))⟩
      · cases ho
        have v9 : (actY a0 [51, 52, 53, 54, 55, 56, 50, 57, 58, 11, 12] y).eval (.tmp 9) = .slice (some ⟨ga, 0, none⟩) 3 ca := by rw [actY_eval (by rw [hz]; decide), if_neg (by decide)]; exact b9
        refine opY_value (v := .slice (some ⟨ga, 0, none⟩) 3 ca) (w1 := w') (d := 52) rfl rfl rfl (by decide) (by
            generalize (actY a0 [51, 52, 53, 54, 55, 56, 50, 57, 58, 11, 12] y).eval = E at *
            go_simp) ?_
        exact ⟨hB, (fun h => by rw [upd_ne _ _ (by decide)]; exact h0 (kp 0 (by decide) h)), fun _ => upd_same _ _ _, (fun h => by rw [upd_ne _ _ (by decide)]; exact h2 (kp 2 (by decide) h)), (fun h => by rw [upd_ne _ _ (by decide)]; exact h3 (kp 3 (by decide) h)), (fun h => by rw [upd_ne _ _ (by decide)]; exact h4 (kp 4 (by decide) h)), (fun h => by rw [upd_ne _ _ (by decide)]; exact h5 (kp 5 (by decide) h)), (fun h => by rw [upd_ne _ _ (by decide)]; exact h6 (kp 6 (by decide) h)), (fun h => by rw [upd_ne _ _ (by decide)]; exact h7 (kp 7 (by decide) h)), (fun h => by rw [upd_ne _ _ (by decide)]; exact h8 (kp 8 (by decide) h)), (fun h => by rw [upd_ne _ _ (by decide)]; exact h9 (kp 9 (by decide) h)), (fun h => by rw [upd_ne _ _ (by decide)]; exact h10 (kp 10 (by decide) h))⟩
      · cases ho
        have d1 : listed.getD 1 false = true := hdep { on := 1, ground := .data } (by simp) rfl
        have vk : ∀ v, (actY a0 [51, 52, 53, 54, 55, 56, 50, 57, 58, 11, 12] y).eval (.const v) = v := fun _ => rfl
        have v52 : (actY a0 [51, 52, 53, 54, 55, 56, 50, 57, 58, 11, 12] y).eval (.tmp 52) = .slice (some ⟨ga, 0, none⟩) 3 ca := by rw [actY_eval (by rw [hz]; decide), if_pos (by decide)]; exact h1 d1
        refine opY_value (v := .pointer (some ⟨ga, 1, none⟩)) (w1 := w') (d := 53) rfl rfl rfl (by decide) (by
            generalize (actY a0 [51, 52, 53, 54, 55, 56, 50, 57, 58, 11, 12] y).eval = E at *
            go_simp) ?_
        exact ⟨hB, (fun h => by rw [upd_ne _ _ (by decide)]; exact h0 (kp 0 (by decide) h)), (fun h => by rw [upd_ne _ _ (by decide)]; exact h1 (kp 1 (by decide) h)), fun _ => upd_same _ _ _, (fun h => by rw [upd_ne _ _ (by decide)]; exact h3 (kp 3 (by decide) h)), (fun h => by rw [upd_ne _ _ (by decide)]; exact h4 (kp 4 (by decide) h)), (fun h => by rw [upd_ne _ _ (by decide)]; exact h5 (kp 5 (by decide) h)), (fun h => by rw [upd_ne _ _ (by decide)]; exact h6 (kp 6 (by decide) h)), (fun h => by rw [upd_ne _ _ (by decide)]; exact h7 (kp 7 (by decide) h)), (fun h => by rw [upd_ne _ _ (by decide)]; exact h8 (kp 8 (by decide) h)), (fun h => by rw [upd_ne _ _ (by decide)]; exact h9 (kp 9 (by decide) h)), (fun h => by rw [upd_ne _ _ (by decide)]; exact h10 (kp 10 (by decide) h))⟩
      · cases ho
        have d2 : listed.getD 2 false = true := hdep { on := 2, ground := .data } (by simp) rfl
        have v53 : (actY a0 [51, 52, 53, 54, 55, 56, 50, 57, 58, 11, 12] y).eval (.tmp 53) = .pointer (some ⟨ga, 1, none⟩) := by rw [actY_eval (by rw [hz]; decide), if_pos (by decide)]; exact h2 d2
        have e0 : w'.cell? ⟨ga, 1, none⟩ = some (.int .i64 (E : Int)) := (HRa.out.below hB).getg (j := 1) (by omega)
        refine opY_value (v := .int .i64 (E : Int)) (w1 := w') (d := 54) rfl rfl rfl (by decide) (by
            generalize (actY a0 [51, 52, 53, 54, 55, 56, 50, 57, 58, 11, 12] y).eval = E at *
            go_simp) ?_
        exact ⟨hB, (fun h => by rw [upd_ne _ _ (by decide)]; exact h0 (kp 0 (by decide) h)), (fun h => by rw [upd_ne _ _ (by decide)]; exact h1 (kp 1 (by decide) h)), (fun h => by rw [upd_ne _ _ (by decide)]; exact h2 (kp 2 (by decide) h)), fun _ => upd_same _ _ _, (fun h => by rw [upd_ne _ _ (by decide)]; exact h4 (kp 4 (by decide) h)), (fun h => by rw [upd_ne _ _ (by decide)]; exact h5 (kp 5 (by decide) h)), (fun h => by rw [upd_ne _ _ (by decide)]; exact h6 (kp 6 (by decide) h)), (fun h => by rw [upd_ne _ _ (by decide)]; exact h7 (kp 7 (by decide) h)), (fun h => by rw [upd_ne _ _ (by decide)]; exact h8 (kp 8 (by decide) h)), (fun h => by rw [upd_ne _ _ (by decide)]; exact h9 (kp 9 (by decide) h)), (fun h => by rw [upd_ne _ _ (by decide)]; exact h10 (kp 10 (by decide) h))⟩
      · cases ho
        have d3 : listed.getD 3 false = true := hdep { on := 3, ground := .data } (by simp) rfl
        have v54 : (actY a0 [51, 52, 53, 54, 55, 56, 50, 57, 58, 11, 12] y).eval (.tmp 54) = .int .i64 (E : Int) := by rw [actY_eval (by rw [hz]; decide), if_pos (by decide)]; exact h3 d3
        have vf : ∀ f, (actY a0 [51, 52, 53, 54, 55, 56, 50, 57, 58, 11, 12] y).eval (.func f) = .func (.func f) #[] #[] := fun _ => rfl
        refine opY_call (f := 25) (args := #[.int .i64 (E : Int)]) (w1 := w') (d := 55) rfl rfl rfl (by decide) (by
            generalize (actY a0 [51, 52, 53, 54, 55, 56, 50, 57, 58, 11, 12] y).eval = E at *
            go_simp) ?_
        refine (allOf_any _ E (by omega)).mono ?_
        rintro e w5 ⟨v, rfl, o, b⟩
        obtain ⟨Ag, cg, rfl, -, -⟩ := o.form' (allN_len E)
        exact ⟨_, rfl, hB.trans (b.mono hB.size), (fun h => by rw [upd_ne _ _ (by decide)]; exact h0 (kp 0 (by decide) h)), (fun h => by rw [upd_ne _ _ (by decide)]; exact h1 (kp 1 (by decide) h)), (fun h => by rw [upd_ne _ _ (by decide)]; exact h2 (kp 2 (by decide) h)), (fun h => by rw [upd_ne _ _ (by decide)]; exact h3 (kp 3 (by decide) h)), fun _ => ⟨Ag, cg, upd_same _ _ _, o.rd (allN_len E)⟩, (fun h => by obtain ⟨A, c, e, o⟩ := h5 (kp 5 (by decide) h); exact ⟨A, c, by rw [upd_ne _ _ (by decide)]; exact e, o.below b⟩), (fun h => by obtain ⟨A, c, e, o⟩ := h6 (kp 6 (by decide) h); exact ⟨A, c, by rw [upd_ne _ _ (by decide)]; exact e, o.below b⟩), (fun h => by obtain ⟨A, c, e, o⟩ := h7 (kp 7 (by decide) h); exact ⟨A, c, by rw [upd_ne _ _ (by decide)]; exact e, o.below b⟩), (fun h => by rw [upd_ne _ _ (by decide)]; exact h8 (kp 8 (by decide) h)), (fun h => by obtain ⟨A, c, e, o⟩ := h9 (kp 9 (by decide) h); exact ⟨A, c, by rw [upd_ne _ _ (by decide)]; exact e, o.below b⟩), (fun h => by rw [upd_ne _ _ (by decide)]; exact h10 (kp 10 (by decide) h))⟩
      · cases ho
        have d0 : listed.getD 0 false = true := hdep { on := 0, ground := .data } (by simp) rfl
        have d4 : listed.getD 4 false = true := hdep { on := 4, ground := .data } (by simp) rfl
        obtain ⟨Ag, cg, hg, hrg⟩ := h4 d4
        have v51 : (actY a0 [51, 52, 53, 54, 55, 56, 50, 57, 58, 11, 12] y).eval (.tmp 51) = .agg #[.slice Am nm cm, .slice Am' nm cm'] := by rw [actY_eval (by rw [hz]; decide), if_pos (by decide)]; exact h0 d0
        have v55 : (actY a0 [51, 52, 53, 54, 55, 56, 50, 57, 58, 11, 12] y).eval (.tmp 55) = .slice Ag E cg := by rw [actY_eval (by rw [hz]; decide), if_pos (by decide)]; exact hg
        have vf : ∀ f, (actY a0 [51, 52, 53, 54, 55, 56, 50, 57, 58, 11, 12] y).eval (.func f) = .func (.func f) #[] #[] := fun _ => rfl
        refine opY_call (f := 12) (args := #[.agg #[.slice Am nm cm, .slice Am' nm cm'], .slice Ag E cg]) (w1 := w') (d := 56) rfl rfl rfl (by decide) (by
            generalize (actY a0 [51, 52, 53, 54, 55, 56, 50, 57, 58, 11, 12] y).eval = E at *
            go_simp) ?_
        refine (impl_ccR _ Am Am' nm nm cm cm' t f (HRm.out.below hB) (HRm'.out.below hB) (by omega) (by omega) Ag cg E (allN E) hrg (by omega) (ok := true) (ys := [(1 : Int), (F : Int), l2, l3, g]) C1.out).mono ?_
        rintro e w5 ⟨v, rfl, o, b⟩
        obtain ⟨Al, cl, rfl, -, -⟩ := o.form' (n := 5) rfl
        have o' := o.mono (lo' := w6.heap.size) hB.size
        exact ⟨_, rfl, hB.trans (b.mono hB.size), (fun h => by rw [upd_ne _ _ (by decide)]; exact h0 (kp 0 (by decide) h)), (fun h => by rw [upd_ne _ _ (by decide)]; exact h1 (kp 1 (by decide) h)), (fun h => by rw [upd_ne _ _ (by decide)]; exact h2 (kp 2 (by decide) h)), (fun h => by rw [upd_ne _ _ (by decide)]; exact h3 (kp 3 (by decide) h)), (fun h => by obtain ⟨A, c, e, o⟩ := h4 (kp 4 (by decide) h); exact ⟨A, c, by rw [upd_ne _ _ (by decide)]; exact e, o.below b⟩), fun _ => ⟨Al, cl, upd_same _ _ _, o'⟩, (fun h => by obtain ⟨A, c, e, o⟩ := h6 (kp 6 (by decide) h); exact ⟨A, c, by rw [upd_ne _ _ (by decide)]; exact e, o.below b⟩), (fun h => by obtain ⟨A, c, e, o⟩ := h7 (kp 7 (by decide) h); exact ⟨A, c, by rw [upd_ne _ _ (by decide)]; exact e, o.below b⟩), (fun h => by rw [upd_ne _ _ (by decide)]; exact h8 (kp 8 (by decide) h)), (fun h => by obtain ⟨A, c, e, o⟩ := h9 (kp 9 (by decide) h); exact ⟨A, c, by rw [upd_ne _ _ (by decide)]; exact e, o.below b⟩), (fun h => by rw [upd_ne _ _ (by decide)]; exact h10 (kp 10 (by decide) h))⟩
      · cases ho
        have d5 : listed.getD 5 false = true := hdep { on := 5, ground := .data } (by simp) rfl
        obtain ⟨A, c, hu, ow⟩ := h5 d5
        have v56 : (actY a0 [51, 52, 53, 54, 55, 56, 50, 57, 58, 11, 12] y).eval (.tmp 56) = .tuple #[.slice A 5 c, .bool true] := by rw [actY_eval (by rw [hz]; decide), if_pos (by decide)]; exact hu
        refine opY_value (v := .tuple #[.slice A 5 c, .bool true]) (w1 := w') (d := 50) rfl rfl rfl (by decide) (by
            generalize (actY a0 [51, 52, 53, 54, 55, 56, 50, 57, 58, 11, 12] y).eval = E at *
            go_simp) ?_
        exact ⟨hB, (fun h => by rw [upd_ne _ _ (by decide)]; exact h0 (kp 0 (by decide) h)), (fun h => by rw [upd_ne _ _ (by decide)]; exact h1 (kp 1 (by decide) h)), (fun h => by rw [upd_ne _ _ (by decide)]; exact h2 (kp 2 (by decide) h)), (fun h => by rw [upd_ne _ _ (by decide)]; exact h3 (kp 3 (by decide) h)), (fun h => by rw [upd_ne _ _ (by decide)]; exact h4 (kp 4 (by decide) h)), (fun h => by rw [upd_ne _ _ (by decide)]; exact h5 (kp 5 (by decide) h)), fun _ => ⟨A, c, upd_same _ _ _, ow⟩, (fun h => by rw [upd_ne _ _ (by decide)]; exact h7 (kp 7 (by decide) h)), (fun h => by rw [upd_ne _ _ (by decide)]; exact h8 (kp 8 (by decide) h)), (fun h => by rw [upd_ne _ _ (by decide)]; exact h9 (kp 9 (by decide) h)), (fun h => by rw [upd_ne _ _ (by decide)]; exact h10 (kp 10 (by decide) h))⟩
      · cases ho
        have d6 : listed.getD 6 false = true := hdep { on := 6, ground := .data } (by simp) rfl
        obtain ⟨A, c, hu, ow⟩ := h6 d6
        have v50 : (actY a0 [51, 52, 53, 54, 55, 56, 50, 57, 58, 11, 12] y).eval (.tmp 50) = .tuple #[.slice A 5 c, .bool true] := by rw [actY_eval (by rw [hz]; decide), if_pos (by decide)]; exact hu
        refine opY_value (v := .slice A 5 c) (w1 := w') (d := 57) rfl rfl rfl (by decide) (by
            generalize (actY a0 [51, 52, 53, 54, 55, 56, 50, 57, 58, 11, 12] y).eval = E at *
            go_simp) ?_
        exact ⟨hB, (fun h => by rw [upd_ne _ _ (by decide)]; exact h0 (kp 0 (by decide) h)), (fun h => by rw [upd_ne _ _ (by decide)]; exact h1 (kp 1 (by decide) h)), (fun h => by rw [upd_ne _ _ (by decide)]; exact h2 (kp 2 (by decide) h)), (fun h => by rw [upd_ne _ _ (by decide)]; exact h3 (kp 3 (by decide) h)), (fun h => by rw [upd_ne _ _ (by decide)]; exact h4 (kp 4 (by decide) h)), (fun h => by rw [upd_ne _ _ (by decide)]; exact h5 (kp 5 (by decide) h)), (fun h => by rw [upd_ne _ _ (by decide)]; exact h6 (kp 6 (by decide) h)), fun _ => ⟨A, c, upd_same _ _ _, ow⟩, (fun h => by rw [upd_ne _ _ (by decide)]; exact h8 (kp 8 (by decide) h)), (fun h => by rw [upd_ne _ _ (by decide)]; exact h9 (kp 9 (by decide) h)), (fun h => by rw [upd_ne _ _ (by decide)]; exact h10 (kp 10 (by decide) h))⟩
      · cases ho
        have d6 : listed.getD 6 false = true := hdep { on := 6, ground := .data } (by simp) rfl
        obtain ⟨A, c, hu, ow⟩ := h6 d6
        have v50 : (actY a0 [51, 52, 53, 54, 55, 56, 50, 57, 58, 11, 12] y).eval (.tmp 50) = .tuple #[.slice A 5 c, .bool true] := by rw [actY_eval (by rw [hz]; decide), if_pos (by decide)]; exact hu
        refine opY_value (v := .bool true) (w1 := w') (d := 58) rfl rfl rfl (by decide) (by
            generalize (actY a0 [51, 52, 53, 54, 55, 56, 50, 57, 58, 11, 12] y).eval = E at *
            go_simp) ?_
        exact ⟨hB, (fun h => by rw [upd_ne _ _ (by decide)]; exact h0 (kp 0 (by decide) h)), (fun h => by rw [upd_ne _ _ (by decide)]; exact h1 (kp 1 (by decide) h)), (fun h => by rw [upd_ne _ _ (by decide)]; exact h2 (kp 2 (by decide) h)), (fun h => by rw [upd_ne _ _ (by decide)]; exact h3 (kp 3 (by decide) h)), (fun h => by rw [upd_ne _ _ (by decide)]; exact h4 (kp 4 (by decide) h)), (fun h => by rw [upd_ne _ _ (by decide)]; exact h5 (kp 5 (by decide) h)), (fun h => by rw [upd_ne _ _ (by decide)]; exact h6 (kp 6 (by decide) h)), (fun h => by rw [upd_ne _ _ (by decide)]; exact h7 (kp 7 (by decide) h)), fun _ => upd_same _ _ _, (fun h => by rw [upd_ne _ _ (by decide)]; exact h9 (kp 9 (by decide) h)), (fun h => by rw [upd_ne _ _ (by decide)]; exact h10 (kp 10 (by decide) h))⟩
      · cases ho
        have d7 : listed.getD 7 false = true := hdep { on := 7, ground := .data } (by simp) rfl
        obtain ⟨A, c, hu, ow⟩ := h7 d7
        have v57 : (actY a0 [51, 52, 53, 54, 55, 56, 50, 57, 58, 11, 12] y).eval (.tmp 57) = .slice A 5 c := by rw [actY_eval (by rw [hz]; decide), if_pos (by decide)]; exact hu
        refine opY_value (v := .slice A 5 c) (w1 := w') (d := 11) rfl rfl rfl (by decide) (by
            generalize (actY a0 [51, 52, 53, 54, 55, 56, 50, 57, 58, 11, 12] y).eval = E at *
            go_simp) ?_
        exact ⟨hB, (fun h => by rw [upd_ne _ _ (by decide)]; exact h0 (kp 0 (by decide) h)), (fun h => by rw [upd_ne _ _ (by decide)]; exact h1 (kp 1 (by decide) h)), (fun h => by rw [upd_ne _ _ (by decide)]; exact h2 (kp 2 (by decide) h)), (fun h => by rw [upd_ne _ _ (by decide)]; exact h3 (kp 3 (by decide) h)), (fun h => by rw [upd_ne _ _ (by decide)]; exact h4 (kp 4 (by decide) h)), (fun h => by rw [upd_ne _ _ (by decide)]; exact h5 (kp 5 (by decide) h)), (fun h => by rw [upd_ne _ _ (by decide)]; exact h6 (kp 6 (by decide) h)), (fun h => by rw [upd_ne _ _ (by decide)]; exact h7 (kp 7 (by decide) h)), (fun h => by rw [upd_ne _ _ (by decide)]; exact h8 (kp 8 (by decide) h)), fun _ => ⟨A, c, upd_same _ _ _, ow⟩, (fun h => by rw [upd_ne _ _ (by decide)]; exact h10 (kp 10 (by decide) h))⟩
      · cases ho
        have d8 : listed.getD 8 false = true := hdep { on := 8, ground := .data } (by simp) rfl
        have v58 : (actY a0 [51, 52, 53, 54, 55, 56, 50, 57, 58, 11, 12] y).eval (.tmp 58) = .bool true := by rw [actY_eval (by rw [hz]; decide), if_pos (by decide)]; exact h8 d8
        refine opY_value (v := .bool true) (w1 := w') (d := 12) rfl rfl rfl (by decide) (by
            generalize (actY a0 [51, 52, 53, 54, 55, 56, 50, 57, 58, 11, 12] y).eval = E at *
            go_simp) ?_
        exact ⟨hB, (fun h => by rw [upd_ne _ _ (by decide)]; exact h0 (kp 0 (by decide) h)), (fun h => by rw [upd_ne _ _ (by decide)]; exact h1 (kp 1 (by decide) h)), (fun h => by rw [upd_ne _ _ (by decide)]; exact h2 (kp 2 (by decide) h)), (fun h => by rw [upd_ne _ _ (by decide)]; exact h3 (kp 3 (by decide) h)), (fun h => by rw [upd_ne _ _ (by decide)]; exact h4 (kp 4 (by decide) h)), (fun h => by rw [upd_ne _ _ (by decide)]; exact h5 (kp 5 (by decide) h)), (fun h => by rw [upd_ne _ _ (by decide)]; exact h6 (kp 6 (by decide) h)), (fun h => by rw [upd_ne _ _ (by decide)]; exact h7 (kp 7 (by decide) h)), (fun h => by rw [upd_ne _ _ (by decide)]; exact h8 (kp 8 (by decide) h)), (fun h => by rw [upd_ne _ _ (by decide)]; exact h9 (kp 9 (by decide) h)), fun _ => upd_same _ _ _⟩
    case hend =>
      rintro listed y wb hall ⟨hB, -, -, -, -, -, -, -, -, -, h9, h10⟩
      obtain ⟨Al, cl, hg, ow⟩ := h9 (hall 9 (by decide))
      have hy := h10 (hall 10 (by decide))
      obtain ⟨gl, rfl, -, -, -⟩ := ow.cellAt (n := 5) rfl (k := 0) (by omega)
      simp only [actY, putAll, List.foldl_cons, List.foldl_nil, hg, hy]
      go_simp
      generalize y 51 = z51
      generalize y 52 = z52
      generalize y 53 = z53
      generalize y 54 = z54
      generalize y 55 = z55
      generalize y 56 = z56
      generalize y 50 = z50
      generalize y 57 = z57
      generalize y 58 = z58
      have HRl := Lib.hid (ow.rd (n := 5) rfl)
      have b := hB
      clear hg hy h9 h10 hall hB ow
      replace HRm := Lib.hid (HRm.out.below b)
      replace HRm' := Lib.hid (HRm'.out.below b)
      replace HRz := Lib.hid (HRz.out.below b)
      replace HRo := Lib.hid (HRo.out.below b)
      replace HRa := Lib.hid (HRa.out.below b)
      replace BXm := Lib.hid (BXm.out.below b); replace cm_0 := BXm.out.cell0; replace cm_1 := BXm.out.cell1
      replace HB := Lib.hid (HB.out.trans (b.mono hs)); replace hs := HB.out.size
      clear b
      go_wp2_with fail
      obtain ⟨we, hwe⟩ : ∃ we, wb.alloc (.cells #[] 3) = we := ⟨_, rfl⟩
      rw [hwe]
      have b : Below wb.heap.size wb we := by rw [← hwe]; exact (Below.refl _ _).alloc (Nat.le_refl _) _
      replace HRm := Lib.hid (HRm.out.below b)
      replace HRm' := Lib.hid (HRm'.out.below b)
      replace HRz := Lib.hid (HRz.out.below b)
      replace HRo := Lib.hid (HRo.out.below b)
      replace HRa := Lib.hid (HRa.out.below b)
      replace HRl := Lib.hid (HRl.out.below b)
      replace BXm := Lib.hid (BXm.out.below b); replace cm_0 := BXm.out.cell0; replace cm_1 := BXm.out.cell1
      replace HB := Lib.hid (HB.out.trans (b.mono hs)); replace hs := HB.out.size
      clear b
      refine (impl_ccR we Am Am' nm nm cm cm' t f HRm.out HRm'.out (by omega) (by omega) (some ⟨wb.heap.size, 0, none⟩) 0 0 [] ⟨rfl, fun h => absurd h (by omega)⟩ (by omega) (ok := true) (ys := [(V : Int), (V : Int), q2, q3, q4]) C0.out).mono ?_
      rintro e wf ⟨v, rfl, o, b⟩
      obtain ⟨Aq, cq, rfl, -, -⟩ := o.form' (n := 5) rfl
      obtain ⟨gq, rfl, -, -, -⟩ := o.cellAt (n := 5) rfl (k := 0) (by omega)
      have HRq := Lib.hid (o.rd (n := 5) rfl); clear o hwe
      replace HRm := Lib.hid (HRm.out.below b)
      replace HRm' := Lib.hid (HRm'.out.below b)
      replace HRz := Lib.hid (HRz.out.below b)
      replace HRo := Lib.hid (HRo.out.below b)
      replace HRa := Lib.hid (HRa.out.below b)
      replace HRl := Lib.hid (HRl.out.below b)
      replace BXm := Lib.hid (BXm.out.below b); replace cm_0 := BXm.out.cell0; replace cm_1 := BXm.out.cell1
      replace HB := Lib.hid (HB.out.trans (b.mono hs)); replace hs := HB.out.size
      clear b
      have qa0 : wf.cell? ⟨ga, 0, none⟩ = some (.int .i64 (V : Int)) := HRa.out.getg (j := 0) (by omega)
      have qa1 : wf.cell? ⟨ga, 1, none⟩ = some (.int .i64 (E : Int)) := HRa.out.getg (j := 1) (by omega)
      have qa2 : wf.cell? ⟨ga, 2, none⟩ = some (.int .i64 (F : Int)) := HRa.out.getg (j := 2) (by omega)
      have ql0 : wf.cell? ⟨gl, 0, none⟩ = some (.int .i64 (1 : Int)) := HRl.out.getg (j := 0) (by omega)
      have ql1 : wf.cell? ⟨gl, 1, none⟩ = some (.int .i64 (F : Int)) := HRl.out.getg (j := 1) (by omega)
      have ql4 : wf.cell? ⟨gl, 4, none⟩ = some (.int .i64 g) := HRl.out.getg (j := 4) (by omega)
      have qq0 : wf.cell? ⟨gq, 0, none⟩ = some (.int .i64 (V : Int)) := HRq.out.getg (j := 0) (by omega)
      have qq1 : wf.cell? ⟨gq, 1, none⟩ = some (.int .i64 (V : Int)) := HRq.out.getg (j := 1) (by omega)
      have ka0 : ∀ p : Above wf, p.to.cell? ⟨ga, 0, none⟩ = some (.int .i64 (V : Int)) := fun p => (HRa.out.below p.b).getg (j := 0) (by omega)
      have ka1 : ∀ p : Above wf, p.to.cell? ⟨ga, 1, none⟩ = some (.int .i64 (E : Int)) := fun p => (HRa.out.below p.b).getg (j := 1) (by omega)
      have ka2 : ∀ p : Above wf, p.to.cell? ⟨ga, 2, none⟩ = some (.int .i64 (F : Int)) := fun p => (HRa.out.below p.b).getg (j := 2) (by omega)
      have kl0 : ∀ p : Above wf, p.to.cell? ⟨gl, 0, none⟩ = some (.int .i64 (1 : Int)) := fun p => (HRl.out.below p.b).getg (j := 0) (by omega)
      have kl1 : ∀ p : Above wf, p.to.cell? ⟨gl, 1, none⟩ = some (.int .i64 (F : Int)) := fun p => (HRl.out.below p.b).getg (j := 1) (by omega)
      have kl4 : ∀ p : Above wf, p.to.cell? ⟨gl, 4, none⟩ = some (.int .i64 g) := fun p => (HRl.out.below p.b).getg (j := 4) (by omega)
      have kq0 : ∀ p : Above wf, p.to.cell? ⟨gq, 0, none⟩ = some (.int .i64 (V : Int)) := fun p => (HRq.out.below p.b).getg (j := 0) (by omega)
      have kq1 : ∀ p : Above wf, p.to.cell? ⟨gq, 1, none⟩ = some (.int .i64 (V : Int)) := fun p => (HRq.out.below p.b).getg (j := 1) (by omega)
      have km_0 := fun p : Above wf => (BXm.out.below p.b).cell0; have km_1 := fun p : Above wf => (BXm.out.below p.b).cell1
      have HCm : Hid (∀ p : Above wf, Calls Try.prog 21 #[.agg #[.slice Am nm cm, .slice Am' nm cm']] p.to fun e w'' => e = .returned (.int .i64 g) ∧ ∃ q : Above wf, w'' = q.to) := fun p => Above.calls (impl_genusR _ Am Am' nm nm cm cm' t f (HRm.out.below p.b) (HRm'.out.below p.b) (by omega) (by omega) HG.out)
      go_wp2_with fail
      refine wp_region_quiet_above (by kernel_rfl) (by kernel_rfl) ?_
      repeat (quiet_step (first | (go_at_call 21; with_reducible exact HCm.out _)))
      refine wpQuiet_nil ?_
      intro _ hw'
      obtain ⟨pq, hw''⟩ := hw'
      subst hw''
      go_wp2
      go_ret
      exact ⟨rfl, HB.out.trans (pq.b.mono hs)⟩
  | false =>
    have HV := Lib.hid hv; clear hv
    go_wp2_with fail
    refine (impl_chV w2 Am Am' nm nm' cm cm' t f HRm.out HRm'.out (by omega) (by omega) Az cz nz xs HRz.out (by omega) HV.out).mono ?_
    rintro e w3 ⟨rfl, b⟩
    replace HRm := Lib.hid (HRm.out.below b)
    replace HRm' := Lib.hid (HRm'.out.below b)
    replace HRz := Lib.hid (HRz.out.below b)
    replace BXm := Lib.hid (BXm.out.below b); replace cm_0 := BXm.out.cell0; replace cm_1 := BXm.out.cell1
    replace HB := Lib.hid (HB.out.trans (b.mono hs)); replace hs := HB.out.size
    clear b
    go_wp2_with fail
    refine (spec_chV w3 Am Am' nm nm' cm cm' t f HRm.out HRm'.out (by omega) (by omega) Az cz nz xs HRz.out (by omega) HV.out).mono ?_
    rintro e w4 ⟨rfl, b⟩
    replace HRm := Lib.hid (HRm.out.below b)
    replace HRm' := Lib.hid (HRm'.out.below b)
    replace HRz := Lib.hid (HRz.out.below b)
    replace BXm := Lib.hid (BXm.out.below b); replace cm_0 := BXm.out.cell0; replace cm_1 := BXm.out.cell1
    replace HB := Lib.hid (HB.out.trans (b.mono hs)); replace hs := HB.out.size
    clear b
    go_wp2_with fail
    go_ret
    exact ⟨rfl, HB.out⟩

end Go.Proofs.Ytjplajljffahmaa
