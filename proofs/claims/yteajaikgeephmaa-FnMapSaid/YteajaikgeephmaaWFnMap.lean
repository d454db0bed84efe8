/-
  FnMap: the walk of the law.
-/
import Derived.Test.YteajaikgeephmaaLawMap
import Derived.Test.YteajaikgeephmaaDrawV
import Derived.Test.YteajaikgeephmaaPar3
import Derived.Test.YteajaikgeephmaaCounts
import Derived.Test.YteajaikgeephmaaOrbR
import Derived.Test.YteajaikgeephmaaBack
import Derived.Test.YteajaikgeephmaaMul
namespace Go.Proofs.Yteajaikgeephmaa
open Go.RowKit

theorem sum_zero : ∀ {xs : List Int}, (∀ j, j < xs.length → gi xs j = 0) → xs.sum = 0
  | [], _ => rfl
  | x :: xs, h => by
    have h0 := h 0 (by simp)
    have h1 := sum_zero (xs := xs) (fun j hj => h (j + 1) (by simp; omega))
    rw [List.sum_cons, h1]
    have : gi (x :: xs) 0 = x := rfl
    omega

set_option maxRecDepth 100000 in
set_option maxHeartbeats 3200000 in
theorem walk_FnMap (A0 : Option Addr) (n0 c0 : Nat) (bs0 : List Int) (w : World) (h0 : RdB w A0 n0 bs0) (hm0 : n0 ≤ maxLen ∧ n0 ≤ c0) :
    Calls Try.prog 4 #[.slice A0 n0 c0] w fun e w' => e = .returned (.bool true) ∧ Below w.heap.size w w' := by
  have HB0_0 := Lib.hid h0; have hc0 := hm0.2; have hml0 := hm0.1; clear h0 hm0; unfold maxLen at hml0
  by_cases hbig0 : 1048576 < n0
  · have hd : decide ((1048576 : Int) < n0) = true := by simp; omega
    go_enter Try.func4, Try.ntmps4
    go_wp2
    go_ret
    exact ⟨rfl, Below.refl _ _⟩
  have hd0 : decide ((1048576 : Int) < n0) = false := by simp; omega
  have hnb0 : n0 ≤ 1048576 := by omega
  clear hbig0
  go_enter Try.func4, Try.ntmps4
  go_wp2_with fail
  refine (drawMapValid_any w A0 n0 c0 bs0 HB0_0.out hnb0 hc0).mono ?_
  rintro e w1 ⟨Am, Am', nm, nm', cm, cm', t, f, rfl, r1, r2, hlm, hlm', b⟩
  have HNm := Lib.hid r1.1; have HNm' := Lib.hid r2.1; have HRm := Lib.hid r1; have HRm' := Lib.hid r2; clear r1 r2
  have HB := Lib.hid b; have hs := b.size; clear b
  obtain ⟨w2, hWw2, hx, b, hz⟩ := Box.local_ w1 35 (.slice Am nm cm) (.slice Am' nm' cm')
  have BXm := Lib.hid hx; clear hx hz
  replace HRm := Lib.hid (HRm.out.below b)
  replace HRm' := Lib.hid (HRm'.out.below b)
  replace HB := Lib.hid (HB.out.trans (b.mono hs)); replace hs := HB.out.size
  clear b
  have cm_0 := BXm.out.cell0; have cm_1 := BXm.out.cell1
  obtain ⟨r, hr⟩ : ∃ r, mapV t f = r := ⟨_, rfl⟩
  have HRR := Lib.hid hr; clear hr
  go_wp2_with fail
  refine (impl_mapV w2 Am Am' nm nm' cm cm' t f HRm.out HRm'.out (by omega) (by omega) HRR.out).mono ?_
  rintro e w3 ⟨rfl, b⟩
  replace HRm := Lib.hid (HRm.out.below b)
  replace HRm' := Lib.hid (HRm'.out.below b)
  replace BXm := Lib.hid (BXm.out.below b); replace cm_0 := BXm.out.cell0; replace cm_1 := BXm.out.cell1
  replace HB := Lib.hid (HB.out.trans (b.mono hs)); replace hs := HB.out.size
  clear b
  go_wp2_with fail
  refine (spec_mapV w3 Am Am' nm nm' cm cm' t f HRm.out HRm'.out (by omega) (by omega) HRR.out).mono ?_
  rintro e w4 ⟨rfl, b⟩
  replace HRm := Lib.hid (HRm.out.below b)
  replace HRm' := Lib.hid (HRm'.out.below b)
  replace BXm := Lib.hid (BXm.out.below b); replace cm_0 := BXm.out.cell0; replace cm_1 := BXm.out.cell1
  replace HB := Lib.hid (HB.out.trans (b.mono hs)); replace hs := HB.out.size
  clear b
  cases r with
  | true =>
    have HM := Lib.hid (mapV_iff.1 HRR.out)
    obtain rfl : nm = nm' := by have := HM.out.len; rw [HNm.out, HNm'.out] at this; exact this
    have hn1 : 1 ≤ nm := by have := HM.out.turn.1; rw [HNm.out] at this; exact this
    obtain ⟨V, hV⟩ : ∃ V, cntV t = V := ⟨_, rfl⟩
    obtain ⟨E, hE⟩ : ∃ E, cntE f = E := ⟨_, rfl⟩
    obtain ⟨F, hF⟩ : ∃ F, cntF t f = F := ⟨_, rfl⟩
    have hE2 : 2 * E = nm := by rw [← hE, cntE, flip_even HM.out.flip HM.out.paired]; exact HNm'.out
    have HV := Lib.hid hV; have HE := Lib.hid hE; have HF := Lib.hid hF; clear hV hE hF
    have HBB : Hid (both t f = true) := both_iff.2 ⟨HM.out.turn, HM.out.flip, HM.out.len⟩
    have HFV : Hid (Vld (mulL f t)) := HM.out.dual.turn
    have HOL : Hid ((orbL t f).length = nm) := (orbL_len t f).trans HNm.out
    have HO0 : Hid (∀ j, j < nm → gi (orbL t f) j = 0) := fun j hj => by rw [gi_orbL (by rw [HNm.out]; exact hj), HM.out.whole j (by rw [HNm.out]; exact hj)]; rfl
    have HOS : Hid ((orbL t f).sum = 0) := sum_zero (fun j hj => HO0.out j (by rw [← HOL.out]; exact hj))
    go_wp2_with fail
    refine (impl_orbR w4 Am cm nm t HRm.out (by omega) Am' cm' nm f HRm'.out (by omega) (ok := true) (ys := orbL t f) (by rw [orbR, if_pos HBB.out])).mono ?_
    rintro e w5 ⟨v, rfl, o, b⟩
    have hl : (orbL t f : List Int).length = nm := HOL.out
    obtain ⟨Ao, co, rfl, -, -⟩ := o.form' hl
    have HRo := Lib.hid (o.rd hl); clear o hl
    replace HRm := Lib.hid (HRm.out.below b)
    replace HRm' := Lib.hid (HRm'.out.below b)
    replace BXm := Lib.hid (BXm.out.below b); replace cm_0 := BXm.out.cell0; replace cm_1 := BXm.out.cell1
    replace HB := Lib.hid (HB.out.trans (b.mono hs)); replace hs := HB.out.size
    clear b
    go_wp2_with fail
    refine (impl_countsR w5 Am Am' nm nm cm cm' t f HRm.out HRm'.out (by omega) (by omega) (ok := true) (ys := [(V : Int), (E : Int), (F : Int)]) (by rw [countsR, if_pos (mapV_iff.2 HM.out), HV.out, HE.out, HF.out])).mono ?_
    rintro e w6 ⟨v, rfl, o, b⟩
    have hl : ([(V : Int), (E : Int), (F : Int)] : List Int).length = 3 := rfl
    obtain ⟨Aa, ca, rfl, -, -⟩ := o.form' hl
    obtain ⟨ga, rfl, -, -, -⟩ := o.cellAt hl (k := 0) (by omega)
    have HRa := Lib.hid (o.rd hl); clear o hl
    replace HRm := Lib.hid (HRm.out.below b)
    replace HRm' := Lib.hid (HRm'.out.below b)
    replace HRo := Lib.hid (HRo.out.below b)
    replace BXm := Lib.hid (BXm.out.below b); replace cm_0 := BXm.out.cell0; replace cm_1 := BXm.out.cell1
    replace HB := Lib.hid (HB.out.trans (b.mono hs)); replace hs := HB.out.size
    clear b
    go_wp2_with fail
    refine (impl_facesR w6 Am Am' nm nm cm cm' t f HRm.out HRm'.out (by omega) (by omega) (ok := true) (ys := mulL f t) (by rw [facesR, if_pos (mapV_iff.2 HM.out)])).mono ?_
    rintro e w7 ⟨v, rfl, o, b⟩
    have hl : (mulL f t : List Int).length = nm := (mulL_len _ _).trans HNm'.out
    obtain ⟨Au, cu, rfl, -, -⟩ := o.form' hl
    have HRu := Lib.hid (o.rd hl); clear o hl
    replace HRm := Lib.hid (HRm.out.below b)
    replace HRm' := Lib.hid (HRm'.out.below b)
    replace HRo := Lib.hid (HRo.out.below b)
    replace HRa := Lib.hid (HRa.out.below b)
    replace BXm := Lib.hid (BXm.out.below b); replace cm_0 := BXm.out.cell0; replace cm_1 := BXm.out.cell1
    replace HB := Lib.hid (HB.out.trans (b.mono hs)); replace hs := HB.out.size
    clear b
    go_wp2_with fail
    refine (impl_backR w7 Am cm nm t HRm.out (by omega) (ok := true) (ys := backL t) (by rw [backR, if_pos (vld_true HM.out.turn)])).mono ?_
    rintro e w8 ⟨v, rfl, o, b⟩
    have hl : (backL t : List Int).length = nm := (backL_len _).trans HNm.out
    obtain ⟨Ab, cb, rfl, -, -⟩ := o.form' hl
    have HRb := Lib.hid (o.rd hl); clear o hl
    replace HRm := Lib.hid (HRm.out.below b)
    replace HRm' := Lib.hid (HRm'.out.below b)
    replace HRo := Lib.hid (HRo.out.below b)
    replace HRa := Lib.hid (HRa.out.below b)
    replace HRu := Lib.hid (HRu.out.below b)
    replace BXm := Lib.hid (BXm.out.below b); replace cm_0 := BXm.out.cell0; replace cm_1 := BXm.out.cell1
    replace HB := Lib.hid (HB.out.trans (b.mono hs)); replace hs := HB.out.size
    clear b
    go_wp2_with fail
    refine (impl_mulR w8 Am' cm' nm f HRm'.out (by omega) Au cu nm (mulL f t) HRu.out (by omega) (ok := true) (ys := t) (by rw [mulR, if_pos (both_iff.2 ⟨HM.out.flip, HFV.out, (mulL_len _ _).symm⟩), dual_dual HM.out])).mono ?_
    rintro e w9 ⟨v, rfl, o, b⟩
    have hl : (t : List Int).length = nm := HNm.out
    obtain ⟨Ax, cx, rfl, -, -⟩ := o.form' hl
    have HRx := Lib.hid (o.rd hl); clear o hl
    replace HRm := Lib.hid (HRm.out.below b)
    replace HRm' := Lib.hid (HRm'.out.below b)
    replace HRo := Lib.hid (HRo.out.below b)
    replace HRa := Lib.hid (HRa.out.below b)
    replace HRu := Lib.hid (HRu.out.below b)
    replace HRb := Lib.hid (HRb.out.below b)
    replace BXm := Lib.hid (BXm.out.below b); replace cm_0 := BXm.out.cell0; replace cm_1 := BXm.out.cell1
    replace HB := Lib.hid (HB.out.trans (b.mono hs)); replace hs := HB.out.size
    clear b
    go_wp2_with fail
    refine (impl_mulR w9 Ax cx nm t HRx.out (by omega) Ab cb nm (backL t) HRb.out (by omega) (ok := true) (ys := sameL nm) (by rw [mulR, if_pos (both_iff.2 ⟨HM.out.turn, backL_vld HM.out.turn, (backL_len _).symm⟩), mul_back HM.out.turn, HNm.out])).mono ?_
    rintro e w10 ⟨v, rfl, o, b⟩
    have hl : (sameL nm : List Int).length = nm := by rw [sameL, tab_len]
    obtain ⟨Ay, cy, rfl, -, -⟩ := o.form' hl
    have HRy := Lib.hid (o.rd hl); clear o hl
    replace HRm := Lib.hid (HRm.out.below b)
    replace HRm' := Lib.hid (HRm'.out.below b)
    replace HRo := Lib.hid (HRo.out.below b)
    replace HRa := Lib.hid (HRa.out.below b)
    replace HRu := Lib.hid (HRu.out.below b)
    replace HRb := Lib.hid (HRb.out.below b)
    replace HRx := Lib.hid (HRx.out.below b)
    replace BXm := Lib.hid (BXm.out.below b); replace cm_0 := BXm.out.cell0; replace cm_1 := BXm.out.cell1
    replace HB := Lib.hid (HB.out.trans (b.mono hs)); replace hs := HB.out.size
    clear b
    have qa1 : w10.cell? ⟨ga, 1, none⟩ = some (.int .i64 (E : Int)) := HRa.out.getg (j := 1) (by omega)
    have hEE : ((nm : Int) == 2 * (E : Int)) = true := by simp; omega
    have hE6 : E ≤ 6 := by omega
    have hwr : IntKind.i64.wrap (2 * (E : Int)) = 2 * (E : Int) := IntWalk.i64_in _ (by omega)
    have hls : Hid ((sameL nm).length = nm) := by rw [Hid, sameL, tab_len]
    go_wp2_with fail
    go_region_held3 (fun w' => w'.cell? ⟨w1.heap.size, 0, none⟩ = some (.slice Am nm cm) ∧ w'.cell? ⟨w1.heap.size, 1, none⟩ = some (.slice Am' nm cm') ∧ w'.cell? ⟨ga, 1, none⟩ = some (.int .i64 (E : Int))) (first | go_keep | exact ⟨(BXm.out.below BS2.out).cell0, (BXm.out.below BS2.out).cell1, (HRa.out.below BS2.out).getg (j := 1) (by omega)⟩ | exact ⟨(BXm.out.below BS1.out).cell0, (BXm.out.below BS1.out).cell1, (HRa.out.below BS1.out).getg (j := 1) (by omega)⟩ | exact ⟨(BXm.out.below BS0.out).cell0, (BXm.out.below BS0.out).cell1, (HRa.out.below BS0.out).getg (j := 1) (by omega)⟩) (first
      | (have hchk := BS1.out; clear hchk; go_at_call 18; refine (same_yes _ Ay As nm nm cy cs (sameL nm) (sameL nm) (HRy.out.below BS1.out) HRs.out (by omega) (by omega) rfl).mono ?_; rintro e w13 ⟨rfl, b⟩; have BS2 : Hid (Below w10.heap.size w10 w13) := BS1.out.trans (b.mono BS1.out.size); clear b)
      | (have hchk := BS0.out; clear hchk; go_at_call 19; refine (stayC_any _ nm (by omega)).mono ?_; rintro e w12 ⟨v, rfl, o, b⟩; obtain ⟨As, cs, rfl, -, -⟩ := o.form' hls.out; have HRs := Lib.hid (o.rd hls.out); clear o; have BS1 : Hid (Below w10.heap.size w10 w12) := BS0.out.trans (b.mono BS0.out.size); clear b)
      | (go_at_call 28; refine (sumB_any _ Ao nm co (orbL t f) (HRo.out.drewN _) (by omega) (fun j hj => by rw [HO0.out j hj]; omega) (HOS.out)).mono ?_; rintro e w11 ⟨rfl, b⟩; have BS0 : Hid (Below w10.heap.size w10 w11) := Below.of_drewN b; clear b))
    all_goals
      go_wp2
      go_ret
      exact ⟨rfl, HB.out.trans (BS2.out.mono hs)⟩
  | false =>
    go_wp2_with fail
    go_ret
    exact ⟨rfl, HB.out⟩

end Go.Proofs.Yteajaikgeephmaa
