/-
  The model's l3All: all forms of a genus, put in one after the other.
  The model's l3All by contract.
-/
import Derived.Test.YtakckkmhhedfpaaPut
import Derived.Test.YtakckkmhhedfpaaTutP
import Derived.Test.YtakckkmhhedfpaaAdv
import Derived.Test.YtakckkmhhedfpaaGenus
import Derived.Test.YtakckkmhhedfpaaCopy
import Derived.Test.YtakckkmhhedfpaaSpecPow
namespace Go.Proofs.Ytakckkmhhedfpaa
open Go.RowKit

/-- The form of a permutation with the flip. -/
noncomputable def frm (e : Nat) (t : List Int) : MV (2 * e) :=
  if h : (formT t (flipL e) 0).length = 2 * e ∧ (formF t (flipL e) 0).length = 2 * e then ⟨_, _, h.1, h.2⟩
  else ⟨List.replicate (2 * e) 0, List.replicate (2 * e) 0, by simp, by simp⟩
noncomputable def okT (e : Nat) (g : Int) (t : List Int) : Bool := mapV t (flipL e) && (genusOf t (flipL e) == g)
/-- The forms of genus g of the first i permutations. -/
noncomputable def accL (e : Nat) (g : Int) (i : Nat) : List (MV (2 * e)) := ((((allT e).take i).filter (okT e g)).map (frm e)).foldl (fun a x => putM x a) []
theorem accL_zero (e : Nat) (g : Int) : accL e g 0 = [] := rfl
theorem accL_len {e : Nat} {g : Int} {i : Nat} : (accL e g i).length ≤ i := by
  have h := len_fold ((((allT e).take i).filter (okT e g)).map (frm e)) (acc := [])
  have h2 : (((allT e).take i).filter (okT e g)).length ≤ ((allT e).take i).length := List.length_filter_le _ _
  rw [List.length_map] at h
  rw [List.length_take] at h2
  simp only [List.length_nil] at h
  unfold accL
  omega
theorem accL_yes {e : Nat} {g : Int} {i : Nat} (hi : i < (allT e).length) (h : okT e g ((allT e).getD i []) = true) : accL e g (i + 1) = putM (frm e ((allT e).getD i [])) (accL e g i) := by
  have e0 : (allT e).getD i [] = (allT e)[i] := by rw [List.getD, List.getElem?_eq_getElem hi]; rfl
  rw [e0] at h ⊢
  unfold accL
  rw [List.take_succ_eq_append_getElem hi, List.filter_append, List.map_append, List.foldl_append]
  simp [List.filter, h]
theorem accL_no {e : Nat} {g : Int} {i : Nat} (hi : i < (allT e).length) (h : okT e g ((allT e).getD i []) = false) : accL e g (i + 1) = accL e g i := by
  have e0 : (allT e).getD i [] = (allT e)[i] := by rw [List.getD, List.getElem?_eq_getElem hi]; rfl
  rw [e0] at h
  unfold accL
  rw [List.take_succ_eq_append_getElem hi, List.filter_append, List.map_append, List.foldl_append]
  simp [List.filter, h]
theorem frm_pr {e : Nat} {t : List Int} (hm : IsMap t (flipL e)) (hl : t.length = 2 * e) (h1 : 1 ≤ e) : (frm e t).t = formT t (flipL e) 0 ∧ (frm e t).f = formF t (flipL e) 0 := by
  have h : (formT t (flipL e) 0).length = 2 * e ∧ (formF t (flipL e) 0).length = 2 * e := ⟨by rw [formT_len hm (by omega), hl], by rw [formF_len hm (by omega), hl]⟩
  unfold frm
  rw [dif_pos h]
  exact ⟨rfl, rfl⟩

end Go.Proofs.Ytakckkmhhedfpaa

namespace Go.Proofs.Ytakckkmhhedfpaa
open Go.RowKit

theorem own_cap {w : World} {lo n c : Nat} {A : Option Addr} {xs : List Int} (h : Own w lo (.slice A n c) xs) : n ≤ c := by
  rcases h.2 with ⟨e, _⟩ | ⟨g', cap, cur, e, _, _, hh, _⟩
  · injection e with _ e1 e2; omega
  · injection e with _ e1 e2; omega

/-- Where the loop stands: i permutations are behind it. -/
structure AtI (e : Nat) (gg : Int) (lo : Nat) (w2 : World) (i : Nat) (ov pv : Value) (wz : World) : Prop where
  le : i ≤ (allT e).length
  row : ∃ m gb c, ov = .slice (some ⟨gb, 0, none⟩) m c ∧ (accL e gg i).length = m ∧ RowM wz lo (.slice (some ⟨gb, 0, none⟩) m c) ((accL e gg i).map MV.pr)
  own : Own wz lo pv ((allT e).getD i [])
  b : Below w2.heap.size w2 wz
open Classical in
noncomputable def leftI (e : Nat) (gg : Int) (lo : Nat) (w2 : World) (ov pv : Value) (wz : World) : Nat := leastOf (fun k => ∃ i, AtI e gg lo w2 i ov pv wz ∧ k + i = (allT e).length)

theorem leftI_spec {e : Nat} {gg : Int} {lo i0 : Nat} {w2 wz : World} {ov pv : Value} (h : AtI e gg lo w2 i0 ov pv wz) : ∃ i, AtI e gg lo w2 i ov pv wz ∧ leftI e gg lo w2 ov pv wz + i = (allT e).length :=
  (leastOf_spec (p := fun k => ∃ i, AtI e gg lo w2 i ov pv wz ∧ k + i = (allT e).length) ⟨(allT e).length - i0, i0, h, by have := h.le; omega⟩).1
theorem leftI_step {e : Nat} {gg : Int} {lo i : Nat} {w2 wz wz' : World} {ov pv ov' pv' : Value} (hL : leftI e gg lo w2 ov pv wz + i = (allT e).length) (hi : i < (allT e).length) (h : AtI e gg lo w2 (i + 1) ov' pv' wz') : leftI e gg lo w2 ov' pv' wz' < leftI e gg lo w2 ov pv wz := by
  have hk : ∃ j, AtI e gg lo w2 j ov' pv' wz' ∧ ((allT e).length - (i + 1)) + j = (allT e).length := ⟨i + 1, h, by omega⟩
  have := (leastOf_spec (p := fun k => ∃ i, AtI e gg lo w2 i ov' pv' wz' ∧ k + i = (allT e).length) ⟨_, hk⟩).2 _ hk
  unfold leftI at hL ⊢
  omega
theorem next_at {e i : Nat} (hc : chainB (2 * e) (allT e) = true) (hi : i < (allT e).length) : nextL ((allT e).getD i []) = (allT e).getD (i + 1) [] := by
  obtain ⟨_, hl, h1, h2⟩ := chain_at hc i hi
  by_cases h : i + 1 < (allT e).length
  · exact (h1 h).2
  · have e1 : i + 1 = (allT e).length := by omega
    have e2 : (allT e).getD (i + 1) [] = [] := by rw [e1]; simp [List.getD]
    rw [e2, nextL, hl, if_pos (h2 e1)]

set_option maxHeartbeats 1600000 in
theorem l3All_any (e : Nat) (gg : Int) (w : World) (h1 : 1 ≤ e) (h3 : e ≤ 3) :
    Calls Try.prog 38 #[.int .i64 e, .int .i64 gg] w fun r w' => ∃ gb c, r = .returned (.slice (some ⟨gb, 0, none⟩) (accL e gg (allT e).length).length c) ∧ RowM w' w.heap.size (.slice (some ⟨gb, 0, none⟩) (accL e gg (allT e).length).length c) ((accL e gg (allT e).length).map MV.pr) ∧ Below w.heap.size w w' := by
  obtain ⟨t1, t2, t3⟩ := turns_all h1 h3
  have HCH := Lib.hid t1; have HL1 := Lib.hid t2; have HL2 := Lib.hid t3; clear t1 t2 t3
  obtain ⟨n, hN⟩ : ∃ n, 2 * e = n := ⟨_, rfl⟩
  have hw2 : IntKind.i64.wrap (2 * (e : Int)) = (n : Int) := by rw [IntWalk.i64_in _ (by omega)]; omega
  have HN := Lib.hid hN
  have hn6 : n ≤ 6 := by omega
  have hn2 : 2 ≤ n := by omega
  clear hN
  obtain ⟨Wa, hWa⟩ : ∃ Wa, w.alloc (.cells #[] 35) = Wa := ⟨_, rfl⟩
  have HBa : Hid (Below w.heap.size w Wa) := by rw [← hWa]; exact (Below.refl _ _).alloc (Nat.le_refl _) _
  have HRa : Hid (RowM Wa w.heap.size (.slice (some ⟨w.heap.size, 0, none⟩) 0 0) []) := by rw [← hWa]; exact RowM.new_ (Nat.le_refl _)
  go_enter Try.func38, Try.ntmps38
  go_wp2_with fail
  refine (l3Flip_any e Wa (by omega)).mono ?_
  rintro r w1 ⟨fv, rfl, of, bf⟩
  obtain ⟨F, cF, rfl, rF, -⟩ := of.form' ((flipL_len e).trans HN.out)
  have HOF := Lib.hid of; have HBf := Lib.hid (HBa.out.trans (bf.mono HBa.out.size)); have HR1 := Lib.hid (HRa.out.below bf)
  clear of bf rF
  go_wp2_with fail
  refine (l1Same_pow n w1 (by omega)).mono ?_
  rintro r w2 ⟨pv, rfl, op, bp⟩
  have HOP : Hid (Own w2 w.heap.size pv ((allT e).getD 0 [])) := by rw [Hid, turns_first, HN.out]; exact op.mono HBf.out.size
  have HR2 := Lib.hid (HR1.out.below bp); have HOF2 := Lib.hid (HOF.out.below bp); have HB2 := Lib.hid (HBf.out.trans (bp.mono HBf.out.size))
  clear op bp
  go_wp2_with fail
  go_loopw [5, 7] (fun ov pv wz => ∃ i, AtI e gg w.heap.size w2 i ov pv wz) (fun ov pv wz => leftI e gg w.heap.size w2 ov pv wz)
  case atStart => exact ⟨0, Nat.zero_le _, ⟨0, w.heap.size, 0, rfl, rfl, HR2.out⟩, HOP.out, Below.refl _ _⟩
  case round =>
    obtain ⟨i0, hi0⟩ := hrel
    obtain ⟨i, hat, hL⟩ := leftI_spec hi0
    obtain ⟨hi, ⟨m, gb, c, rfl, hm, hrow⟩, hown, hbr⟩ := hat
    have HL := Lib.hid hL; have hm' := Lib.hid hm; have hrow' := Lib.hid hrow; have hbr' := Lib.hid hbr
    have HS : Hid (w.heap.size ≤ wr.heap.size) := (HB2.out.trans (hbr.mono HB2.out.size)).size
    clear hL hm hrow hbr hi0
    by_cases hlt : i < (allT e).length
    · obtain ⟨hv, hl, -, -⟩ := chain_at HCH.out i hlt
      rw [HN.out] at hl
      have hnx := next_at HCH.out hlt
      obtain ⟨t, ht⟩ : ∃ t, (allT e).getD i [] = t := ⟨_, rfl⟩
      rw [ht] at hv hl hown hnx
      have HNX := Lib.hid hnx; have HT := Lib.hid ht; have HTL := Lib.hid hl
      obtain ⟨A, cA, rfl, rA, -⟩ := hown.form' hl
      have HCA : Hid (n ≤ cA) := own_cap hown
      obtain ⟨Wb, hWb, hxb, hbb, hsb⟩ := Box.local_ wr 35 (.slice A n cA) (.slice F n cF)
      have z0 := hxb.cell0
      have z1 := hxb.cell1
      have HXB := Lib.hid hxb; have HBB := Lib.hid hbb
      have HRA : Hid (∀ W, Below wr.heap.size wr W → Rd W A n t) := fun W hW => rA.below hW
      have HRF : Hid (∀ W, Below wr.heap.size wr W → Rd W F n (flipL e)) := fun W hW => ((Own.rd HOF2.out ((flipL_len e).trans HN.out)).below hbr'.out).below hW
      clear hxb hbb hsb rA hnx ht hl hv hown
      have hn0 : (0 : Int) < (n : Int) := by omega
      by_cases hmv : mapV t (flipL e) = true
      · have hM := mapV_iff.1 hmv
        have HM := Lib.hid hM; have HMV := Lib.hid hmv; clear hM hmv
        go_wp2_with fail
        refine (spec_mapV Wb A F n n cA cF t (flipL e) (HRA.out _ HBB.out) (HRF.out _ HBB.out) (by omega) (by omega) HMV.out).mono ?_
        rintro r W3 ⟨rfl, b3⟩
        have HB3 := Lib.hid (HBB.out.trans (b3.mono HBB.out.size)); have HX3 := Lib.hid (HXB.out.below b3)
        have z2 := HX3.out.cell0; have z3 := HX3.out.cell1
        clear z0 z1 b3
        go_wp2_with fail
        refine (l2Genus_any A F n cA cF t (flipL e) W3 (HRA.out _ HB3.out) (HRF.out _ HB3.out) HM.out).mono ?_
        rintro r W4 ⟨rfl, b4⟩
        have HB4 := Lib.hid (HB3.out.trans (b4.mono HB3.out.size)); have HX4 := Lib.hid (HX3.out.below b4)
        have z4 := HX4.out.cell0; have z5 := HX4.out.cell1
        clear z2 z3 b4
        by_cases hg : genusOf t (flipL e) = gg
        · have hgd : (genusOf t (flipL e) == gg) = true := by simpa using hg
          have HOK : Hid (okT e gg ((allT e).getD i []) = true) := by rw [Hid, HT.out, okT, HMV.out, hgd]; rfl
          clear hg
          go_wp2_with fail
          refine (l2Form_any W4 A F n cA cF 0 t (flipL e) (HRA.out _ HB4.out) (HRF.out _ HB4.out) HM.out (by omega)).mono ?_
          rintro r W5 ⟨u, u', rfl, o5, b5⟩
          have HB5 := Lib.hid (HB4.out.trans (b5.mono HB4.out.size))
          obtain ⟨x, hx⟩ : ∃ x, frm e t = x := ⟨_, rfl⟩
          obtain ⟨p1, p2⟩ := frm_pr HM.out (HTL.out.trans HN.out.symm) h1
          rw [hx] at p1 p2
          rw [← p1, ← p2] at o5
          obtain ⟨A5, c5, A6, c6, rfl, rfl, r5, r6⟩ := o5.form (n := 2 * e) (n' := 2 * e) x.ht x.hf
          have HO5 := Lib.hid o5; have HR5 := Lib.hid r5; have HR6 := Lib.hid r6; have HXX := Lib.hid hx
          clear o5 r5 r6 b5 hx p1 p2
          go_wp2_with fail
          refine (l3Put_any (n := 2 * e) (by omega) (accL e gg i) x gb m c w.heap.size A5 A6 c5 c6 W5 (hrow'.out.below HB5.out) hm'.out (by have := accL_len (e := e) (g := gg) (i := i); have := hm'.out; have := HL2.out; omega) HR5.out HR6.out (by have := HB5.out.size; have := HS.out; omega) (HO5.out.mono (by have := HB4.out.size; have := HS.out; omega))).mono ?_
          rintro r W9 ⟨gb', c', rfl, rw9, b6⟩
          have HB9 : Hid (Below wr.heap.size wr W9) := HB5.out.trans (b6.mono HB5.out.size)
          have HRW := Lib.hid rw9
          clear rw9 b6
          go_wp2_with fail
          have hRN : Rd W9 A n t := HRA.out _ HB9.out
          refine (l3Next_any A n cA _ W9 hRN (by omega) (by omega) HCA.out).mono ?_
          rintro r w9 ⟨v9, rfl, o9, b9⟩
          have HNEW : AtI e gg w.heap.size w2 (i + 1) (.slice (some ⟨gb', 0, none⟩) (putM x (accL e gg i)).length c') v9 w9 := by
            refine ⟨hlt, ⟨_, gb', c', rfl, by rw [accL_yes hlt HOK.out, HT.out, HXX.out], by rw [accL_yes hlt HOK.out, HT.out, HXX.out]; exact HRW.out.below b9⟩, ?_, hbr'.out.trans ((HB9.out.trans (b9.mono HB9.out.size)).mono hbr'.out.size)⟩
            have := o9.mono (show w.heap.size ≤ W9.heap.size by have := HB9.out.size; have := HS.out; omega)
            rw [HNX.out] at this
            exact this
          go_wp2_with fail
          go_roundw
          case rel => exact ⟨i + 1, HNEW⟩
          case measure => exact leftI_step HL.out hlt HNEW
        · have hgd : (genusOf t (flipL e) == gg) = false := by simpa using hg
          have HOK : Hid (okT e gg ((allT e).getD i []) = false) := by rw [Hid, HT.out, okT, hgd]; simp
          clear hg
          go_wp2_with fail
          have HB9 := HB4
          have hRN : Rd W4 A n t := HRA.out _ HB9.out
          refine (l3Next_any A n cA _ W4 hRN (by omega) (by omega) HCA.out).mono ?_
          rintro r w9 ⟨v9, rfl, o9, b9⟩
          have HNEW : AtI e gg w.heap.size w2 (i + 1) (.slice (some ⟨gb, 0, none⟩) m c) v9 w9 := by
            refine ⟨hlt, ⟨m, gb, c, rfl, by rw [accL_no hlt HOK.out]; exact hm'.out, by rw [accL_no hlt HOK.out]; exact (hrow'.out.below HB9.out).below b9⟩, ?_, hbr'.out.trans ((HB9.out.trans (b9.mono HB9.out.size)).mono hbr'.out.size)⟩
            have := o9.mono (show w.heap.size ≤ W4.heap.size by have := HB9.out.size; have := HS.out; omega)
            rw [HNX.out] at this
            exact this
          go_wp2_with fail
          go_roundw
          case rel => exact ⟨i + 1, HNEW⟩
          case measure => exact leftI_step HL.out hlt HNEW
      · have hmv' : mapV t (flipL e) = false := by simpa using hmv
        have HOK : Hid (okT e gg ((allT e).getD i []) = false) := by rw [Hid, HT.out, okT, hmv']; rfl
        have HMV := Lib.hid hmv'; clear hmv hmv'
        go_wp2_with fail
        refine (spec_mapV Wb A F n n cA cF t (flipL e) (HRA.out _ HBB.out) (HRF.out _ HBB.out) (by omega) (by omega) HMV.out).mono ?_
        rintro r W9 ⟨rfl, b3⟩
        have HB9 := Lib.hid (HBB.out.trans (b3.mono HBB.out.size))
        clear z0 z1 b3
        go_wp2_with fail
        have hRN : Rd W9 A n t := HRA.out _ HB9.out
        refine (l3Next_any A n cA _ W9 hRN (by omega) (by omega) HCA.out).mono ?_
        rintro r w9 ⟨v9, rfl, o9, b9⟩
        have HNEW : AtI e gg w.heap.size w2 (i + 1) (.slice (some ⟨gb, 0, none⟩) m c) v9 w9 := by
          refine ⟨hlt, ⟨m, gb, c, rfl, by rw [accL_no hlt HOK.out]; exact hm'.out, by rw [accL_no hlt HOK.out]; exact (hrow'.out.below HB9.out).below b9⟩, ?_, hbr'.out.trans ((HB9.out.trans (b9.mono HB9.out.size)).mono hbr'.out.size)⟩
          have := o9.mono (show w.heap.size ≤ W9.heap.size by have := HB9.out.size; have := HS.out; omega)
          rw [HNX.out] at this
          exact this
        go_wp2_with fail
        go_roundw
        case rel => exact ⟨i + 1, HNEW⟩
        case measure => exact leftI_step HL.out hlt HNEW
    · have hil : i = (allT e).length := by omega
      have h0 : (allT e).getD i [] = [] := by rw [hil]; simp [List.getD]
      have ho := hown
      rw [h0] at ho
      obtain ⟨A, cA, rfl, -, -⟩ := ho.form' (n := 0) rfl
      have HIL := Lib.hid hil
      clear hil h0 ho hown hlt hi
      go_wp2_with fail
      go_ret
      have := HIL.out; subst this
      exact ⟨gb, c, by rw [hm'.out]; rfl, by rw [hm'.out]; exact hrow'.out, HB2.out.trans (hbr'.out.mono HB2.out.size)⟩

end Go.Proofs.Ytakckkmhhedfpaa
