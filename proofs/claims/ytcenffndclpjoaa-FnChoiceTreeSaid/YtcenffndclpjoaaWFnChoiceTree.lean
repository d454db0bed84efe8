/-
  FnChoiceTree: the walk of the law.
-/
import Derived.Test.YtcenffndclpjoaaLawMap
import Derived.Test.YtcenffndclpjoaaDrawCho
import Derived.Test.YtcenffndclpjoaaSubE
namespace Go.Proofs.Ytcenffndclpjoaa
open Go.RowKit

set_option maxRecDepth 100000 in
set_option maxHeartbeats 6400000 in
theorem walk_FnChoiceTree (A0 : Option Addr) (n0 c0 : Nat) (bs0 : List Int) (w : World) (h0 : RdB w A0 n0 bs0) (hm0 : n0 ≤ maxLen ∧ n0 ≤ c0) :
    Calls Try.prog 4 #[.slice A0 n0 c0] w fun e w' => e = .returned (.bool true) ∧ Below w.heap.size w w' := by
  have HB0_0 := Lib.hid h0; have hc0 := hm0.2; have hml0 := hm0.1; clear h0 hm0; unfold maxLen at hml0
  by_cases hbig0 : 1048576 < n0
  · have hd : decide ((1048576 : Int) < n0) = true := by simp; omega
    go_enter Try.func4, Try.ntmps4
    go_wp2
    go_ret
    exact ⟨rfl, Below.refl _ _⟩
  have hd0 : decide ((1048576 : Int) < n0) = false := by simp; omega
  have hnb0 : n0 ≤ 1048576 := by omega
  clear hbig0
  go_enter Try.func4, Try.ntmps4
  go_wp2_with fail
  refine (drawChoiceTree_any w A0 n0 c0 bs0 HB0_0.out hnb0 hc0).mono ?_
  rintro e w1 ⟨Am, Am', nm, nm', cm, cm', t, f, v, xs, rfl, r1, r2, hlm, hlm', o, hlz, b⟩
  obtain ⟨nz, hn⟩ : ∃ n, xs.length = n := ⟨_, rfl⟩
  rw [hn] at hlz
  obtain ⟨Az, cz, rfl, -, -⟩ := o.form' hn
  have HAZ : Hid (0 < nz → ∃ g, Az = some ⟨g, 0, none⟩ ∧ nz ≤ cz) := fun h0 => by
    rcases o.2 with ⟨e, _⟩ | ⟨g, cap, cur, e, _, _, h3, _⟩
    · injection e with e1 e2 e3; omega
    · injection e with e1 e2 e3; exact ⟨g, e1, by omega⟩
  have HRz := Lib.hid (o.rd hn); have HNz := Lib.hid hn; clear o hn
  have HNm := Lib.hid r1.1; have HNm' := Lib.hid r2.1; have HRm := Lib.hid r1; have HRm' := Lib.hid r2; clear r1 r2
  have HB := Lib.hid b; have hs := b.size; clear b
  obtain ⟨w2, hWw2, hx, b, hz⟩ := Box.local_ w1 25 (.slice Am nm cm) (.slice Am' nm' cm')
  have BXm := Lib.hid hx; clear hx hz
  replace HRm := Lib.hid (HRm.out.below b)
  replace HRm' := Lib.hid (HRm'.out.below b)
  replace HRz := Lib.hid (HRz.out.below b)
  replace HB := Lib.hid (HB.out.trans (b.mono hs)); replace hs := HB.out.size
  clear b
  have cm_0 := BXm.out.cell0; have cm_1 := BXm.out.cell1
  cases hv : treeCB t f xs with
  | true =>
    have hv' := hv
    rw [treeCB, Bool.and_eq_true] at hv'
    obtain ⟨a2, a3, hm, c1, hlen, hq, hx6, hV12, hless⟩ := tree_facts hv'.1 hv'.2
    have HM := Lib.hid hm; have HV := Lib.hid hv
    obtain rfl : nm = nm' := by have := hm.len; rw [HNm.out, HNm'.out] at this; exact this
    obtain ⟨E, hE⟩ : ∃ E, f.length / 2 = E := ⟨_, rfl⟩
    obtain ⟨V, hV⟩ : ∃ V, cntV t = V := ⟨_, rfl⟩
    obtain ⟨F, hF⟩ : ∃ F, cntF t f = F := ⟨_, rfl⟩
    rw [HNz.out] at hlen hx6 hless
    rw [hV] at hlen hV12
    have C1 := Lib.hid c1; have HQ := Lib.hid hq; have HLESS := Lib.hid hless; have HE : Hid (cntE f = E) := hE; have HVV := Lib.hid hV; have HF := Lib.hid hF
    have hw1 : IntKind.i64.wrap ((V : Int) - 1) = (nz : Int) := by rw [← hlen]; exact IntWalk.i64_in _ (by omega)
    have hnn : ((nz : Int) == (nz : Int)) = true := by simp
    clear c1 hq hless hlen hE hV hF hm hv hv'
    go_wp2_with fail
    refine (impl_treeCB w2 Am Am' nm nm cm cm' t f HRm.out HRm'.out (by omega) (by omega) Az cz nz xs HRz.out (by omega) HV.out).mono ?_
    rintro e w3 ⟨rfl, b⟩
    replace HRm := Lib.hid (HRm.out.below b)
    replace HRm' := Lib.hid (HRm'.out.below b)
    replace HRz := Lib.hid (HRz.out.below b)
    replace BXm := Lib.hid (BXm.out.below b); replace cm_0 := BXm.out.cell0; replace cm_1 := BXm.out.cell1
    replace HB := Lib.hid (HB.out.trans (b.mono hs)); replace hs := HB.out.size
    clear b
    go_wp2_with fail
    refine (spec_treeCB w3 Am Am' nm nm cm cm' t f HRm.out HRm'.out (by omega) (by omega) Az cz nz xs HRz.out (by omega) HV.out).mono ?_
    rintro e w4 ⟨rfl, b⟩
    replace HRm := Lib.hid (HRm.out.below b)
    replace HRm' := Lib.hid (HRm'.out.below b)
    replace HRz := Lib.hid (HRz.out.below b)
    replace BXm := Lib.hid (BXm.out.below b); replace cm_0 := BXm.out.cell0; replace cm_1 := BXm.out.cell1
    replace HB := Lib.hid (HB.out.trans (b.mono hs)); replace hs := HB.out.size
    clear b
    go_wp2_with fail
    refine (impl_countsR w4 Am Am' nm nm cm cm' t f HRm.out HRm'.out (by omega) (by omega) (ok := true) (ys := [(V : Int), (E : Int), (F : Int)]) (by rw [countsR, if_pos (mapV_iff.2 HM.out), HVV.out, HE.out, HF.out])).mono ?_
    rintro e w5 ⟨v, rfl, o, b⟩
    have hl : ([(V : Int), (E : Int), (F : Int)] : List Int).length = 3 := rfl
    obtain ⟨Aa, ca, rfl, -, -⟩ := o.form' hl
    obtain ⟨ga, rfl, -, -, -⟩ := o.cellAt hl (k := 0) (by omega)
    have HRa := Lib.hid (o.rd hl); clear o hl
    replace HRm := Lib.hid (HRm.out.below b)
    replace HRm' := Lib.hid (HRm'.out.below b)
    replace HRz := Lib.hid (HRz.out.below b)
    replace BXm := Lib.hid (BXm.out.below b); replace cm_0 := BXm.out.cell0; replace cm_1 := BXm.out.cell1
    replace HB := Lib.hid (HB.out.trans (b.mono hs)); replace hs := HB.out.size
    clear b
    go_wp2_with fail
    refine (impl_ccR w5 Am Am' nm nm cm cm' t f HRm.out HRm'.out (by omega) (by omega) Az cz nz xs HRz.out (by omega) (ok := true) (ys := [(1 : Int), (1 : Int), a2, a3, (0 : Int)]) (C1.out)).mono ?_
    rintro e w6 ⟨v, rfl, o, b⟩
    have hl : ([(1 : Int), (1 : Int), a2, a3, (0 : Int)] : List Int).length = 5 := rfl
    obtain ⟨Al, cl, rfl, -, -⟩ := o.form' hl
    obtain ⟨gl, rfl, -, -, -⟩ := o.cellAt hl (k := 0) (by omega)
    have HRl := Lib.hid (o.rd hl); clear o hl
    replace HRm := Lib.hid (HRm.out.below b)
    replace HRm' := Lib.hid (HRm'.out.below b)
    replace HRz := Lib.hid (HRz.out.below b)
    replace HRa := Lib.hid (HRa.out.below b)
    replace BXm := Lib.hid (BXm.out.below b); replace cm_0 := BXm.out.cell0; replace cm_1 := BXm.out.cell1
    replace HB := Lib.hid (HB.out.trans (b.mono hs)); replace hs := HB.out.size
    clear b
    go_wp2_with fail
    go_loopw [11, 12, 13, 14] (fun iv lv xv sv wr => ∃ i : Nat, iv = .int .i64 i ∧ i ≤ nz ∧ Hid (Below w6.heap.size w6 wr)) (fun iv _ _ _ _ => nz - (intOf iv).toNat)
    case atStart => exact ⟨0, rfl, by omega, Below.refl _ _⟩
    case round =>
      obtain ⟨i, rfl, hi, hb⟩ := hrel
      replace HRm := Lib.hid (HRm.out.below hb.out)
      replace HRm' := Lib.hid (HRm'.out.below hb.out)
      replace HRz := Lib.hid (HRz.out.below hb.out)
      replace HRa := Lib.hid (HRa.out.below hb.out)
      replace HRl := Lib.hid (HRl.out.below hb.out)
      replace BXm := Lib.hid (BXm.out.below hb.out); replace cm_0 := BXm.out.cell0; replace cm_1 := BXm.out.cell1
      replace HB := Lib.hid (HB.out.trans (hb.out.mono hs)); replace hs := HB.out.size
      have HW := hb; clear hb
      by_cases hlt : i < nz
      · obtain ⟨gz, rfl, hcz⟩ := HAZ.out (by omega)
        have hdl : decide ((i : Int) < (nz : Int)) = true := by simp; omega
        obtain ⟨b1, b2, b3, b4, hls⟩ := HLESS.out i hlt
        have HLS := Lib.hid hls
        clear hls
        have HP1 : Hid (Rd wr (some ⟨gz, 0, none⟩) i (xs.take i)) := by
          have := HRz.out.part 0 i (by omega) (by omega)
          rw [List.drop_zero, Nat.sub_zero] at this
          exact this
        have HP2 : Hid (Rd wr (some ⟨gz, i + 1, none⟩) (nz - (i + 1)) (xs.drop (i + 1))) := by
          have := HRz.out.part (i + 1) nz (by omega) (by omega)
          rw [List.take_of_length_le (by rw [HNz.out]; exact Nat.le_refl _), show (⟨gz, 0, none⟩ : Addr).add (i + 1) = ⟨gz, i + 1, none⟩ from by simp [Addr.add]] at this
          exact this
        have hlx : (xs.take i).length = i := by rw [List.length_take, HNz.out]; omega
        have hlx2 : (xs.drop (i + 1)).length = nz - (i + 1) := by rw [List.length_drop, HNz.out]
        have hic : i ≤ cz := by omega
        have hic2 : i + 1 ≤ nz := by omega
        have hic3 : (0 : Int) ≤ (i : Int) + 1 ∧ (i : Int) + 1 ≤ (nz : Int) := by omega
        obtain ⟨ad2, had, HP2⟩ : ∃ ad2 : Addr, (if cz = i + 1 then some (⟨gz, 0, none⟩ : Addr) else some ⟨gz, i + 1, none⟩) = some ad2 ∧ Hid (Rd wr (some ad2) (nz - (i + 1)) (xs.drop (i + 1))) := by
          by_cases hce : cz = i + 1
          · rw [if_pos hce]
            exact ⟨_, rfl, HP2.out.1, fun h0 => absurd h0 (by omega)⟩
          · rw [if_neg hce]
            exact ⟨_, rfl, HP2.out⟩
        have hwi : IntKind.i64.wrap ((i : Int) + 1) = ((i + 1 : Nat) : Int) := IntWalk.i64_in _ (by omega)
        have HL0 : Hid (Own (wr.alloc (.cells #[] 3)) wr.heap.size (.slice (some ⟨wr.heap.size, 0, none⟩) 0 0) []) := World.ownsRow_lit wr #[] 0 (Nat.le_refl _) (Nat.zero_le _) rfl
        have HP3 : Hid (Rd (wr.alloc (.cells #[] 3)) (some ⟨gz, 0, none⟩) i (xs.take i)) := HP1.out.below ((Below.refl _ _).alloc (Nat.le_refl _) _)
        have HBA : Hid (Below wr.heap.size wr (wr.alloc (.cells #[] 3))) := (Below.refl _ wr).alloc (Nat.le_refl _) _
        have hl7 : (xs.take i ++ xs.drop (i + 1)).length = nz - 1 := by rw [List.length_append, hlx, hlx2]; omega
        go_wp2_with fail
        go_region_law (first | (refine step_append_rd (o := ⟨some 60, _, _, _, _, _⟩) (hgd := rfl) (s := .tmp 56) (x := .tmp 59) (t := 23) (ho := rfl) (ht := Try.underlying23) (base := wr.heap.size) (v := .slice (some ⟨wr.heap.size, 0, none⟩) 0 0) (xs := []) (hs := by simp [Act.eval]) (hown := (by first | exact HL0.out | exact HL0.out.below (below_drewN (Below.refl _ _) _))) (ad := ⟨gz, 0, none⟩) (m := i) (c := cz) (row := xs.take i) (hx := by simp [Act.eval]) (hu := (by first | exact HP3.out | exact HP3.out.below (below_drewN (Below.refl _ _) _))) (h63 := by rw [hlx]; simp; omega) (hbase := by simp <;> omega) (h := ?_); intro v5 w5 hown5 hgrow5; have HO5 : Hid (Own w5 wr.heap.size v5 (xs.take i)) := hown5; have HB5 : Hid (Below wr.heap.size wr w5) := (by first | exact HBA.out.grown hgrow5 (by simp <;> omega) (fun j hj => (HL0.out.lt j hj).1) | exact (below_drewN HBA.out _).grown hgrow5 (by simp <;> omega) (fun j hj => (HL0.out.lt j hj).1)); have HP5 := Lib.hid (HP2.out.below HB5.out); clear hown5 hgrow5) | (refine step_append_rd (o := ⟨some 65, _, _, _, _, _⟩) (hgd := rfl) (s := .tmp 60) (x := .tmp 64) (t := 23) (ho := rfl) (ht := Try.underlying23) (base := wr.heap.size) (v := v5) (xs := xs.take i) (hs := by simp [Act.eval]) (hown := HO5.out) (ad := ad2) (m := nz - (i + 1)) (c := cz - (i + 1)) (row := xs.drop (i + 1)) (hx := by simp [Act.eval]) (hu := HP5.out) (h63 := by rw [hlx, hlx2]; omega) (hbase := HB5.out.size) (h := ?_); intro v7 w7 hown7 hgrow7; have HB7 : Hid (Below wr.heap.size wr w7) := HB5.out.grown hgrow7 HB5.out.size (fun j hj => (HO5.out.lt j hj).1); obtain ⟨Ae, ce, rfl, -, -⟩ := hown7.form' hl7; have HRe := Lib.hid (hown7.rd hl7); clear hown7 hgrow7))
        all_goals
          have b := HB7.out
          replace HRm := Lib.hid (HRm.out.below b)
          replace HRm' := Lib.hid (HRm'.out.below b)
          replace HRz := Lib.hid (HRz.out.below b)
          replace HRa := Lib.hid (HRa.out.below b)
          replace HRl := Lib.hid (HRl.out.below b)
          replace BXm := Lib.hid (BXm.out.below b); replace cm_0 := BXm.out.cell0; replace cm_1 := BXm.out.cell1
          replace HB := Lib.hid (HB.out.trans (b.mono hs)); replace hs := HB.out.size
          replace HW := Lib.hid (HW.out.trans (b.mono HW.out.size))
          clear b
          go_simp
          go_wp2_with fail
          refine (impl_ccR w7 Am Am' nm nm cm cm' t f HRm.out HRm'.out (by omega) (by omega) Ae ce (nz - 1) ((xs.take i ++ xs.drop (i + 1))) HRe.out (by omega) (ok := true) (ys := [(2 : Int), b1, b2, b3, b4]) (HLS.out)).mono ?_
          rintro e w8 ⟨v, rfl, o, b⟩
          have hl : ([(2 : Int), b1, b2, b3, b4] : List Int).length = 5 := rfl
          obtain ⟨Ax, cx, rfl, -, -⟩ := o.form' hl
          obtain ⟨gx, rfl, -, -, -⟩ := o.cellAt hl (k := 0) (by omega)
          have HRx := Lib.hid (o.rd hl); clear o hl
          replace HRm := Lib.hid (HRm.out.below b)
          replace HRm' := Lib.hid (HRm'.out.below b)
          replace HRz := Lib.hid (HRz.out.below b)
          replace HRa := Lib.hid (HRa.out.below b)
          replace HRl := Lib.hid (HRl.out.below b)
          replace HRe := Lib.hid (HRe.out.below b)
          replace BXm := Lib.hid (BXm.out.below b); replace cm_0 := BXm.out.cell0; replace cm_1 := BXm.out.cell1
          replace HB := Lib.hid (HB.out.trans (b.mono hs)); replace hs := HB.out.size
          replace HW := Lib.hid (HW.out.trans (b.mono HW.out.size))
          clear b
          have qx0 : w8.cell? ⟨gx, 0, none⟩ = some (.int .i64 (2 : Int)) := HRx.out.getg (j := 0) (by omega)
          go_wp2_with fail
          go_roundw
          case rel => exact ⟨i + 1, rfl, by omega, HW⟩
          case measure => simp [intOf]; omega
      · have hdl : decide ((i : Int) < (nz : Int)) = false := by simp; omega
        have qa0 : wr.cell? ⟨ga, 0, none⟩ = some (.int .i64 (V : Int)) := HRa.out.getg (j := 0) (by omega)
        have ql4 : wr.cell? ⟨gl, 4, none⟩ = some (.int .i64 (0 : Int)) := HRl.out.getg (j := 4) (by omega)
        go_wp2_with fail
        refine (impl_quasiCB wr Am Am' nm nm cm cm' t f HRm.out HRm'.out (by omega) (by omega) Az cz nz xs HRz.out (by omega) HQ.out).mono ?_
        rintro e w7 ⟨rfl, b⟩
        replace HRm := Lib.hid (HRm.out.below b)
        replace HRm' := Lib.hid (HRm'.out.below b)
        replace HRz := Lib.hid (HRz.out.below b)
        replace HRa := Lib.hid (HRa.out.below b)
        replace HRl := Lib.hid (HRl.out.below b)
        replace BXm := Lib.hid (BXm.out.below b); replace cm_0 := BXm.out.cell0; replace cm_1 := BXm.out.cell1
        replace HB := Lib.hid (HB.out.trans (b.mono hs)); replace hs := HB.out.size
        replace HW := Lib.hid (HW.out.trans (b.mono HW.out.size))
        clear b
        go_wp2_with fail
        go_ret
        exact ⟨rfl, HB.out⟩
  | false =>
    have HV := Lib.hid hv; clear hv
    go_wp2_with fail
    refine (impl_treeCB w2 Am Am' nm nm' cm cm' t f HRm.out HRm'.out (by omega) (by omega) Az cz nz xs HRz.out (by omega) HV.out).mono ?_
    rintro e w3 ⟨rfl, b⟩
    replace HRm := Lib.hid (HRm.out.below b)
    replace HRm' := Lib.hid (HRm'.out.below b)
    replace HRz := Lib.hid (HRz.out.below b)
    replace BXm := Lib.hid (BXm.out.below b); replace cm_0 := BXm.out.cell0; replace cm_1 := BXm.out.cell1
    replace HB := Lib.hid (HB.out.trans (b.mono hs)); replace hs := HB.out.size
    clear b
    go_wp2_with fail
    refine (spec_treeCB w3 Am Am' nm nm' cm cm' t f HRm.out HRm'.out (by omega) (by omega) Az cz nz xs HRz.out (by omega) HV.out).mono ?_
    rintro e w4 ⟨rfl, b⟩
    replace HRm := Lib.hid (HRm.out.below b)
    replace HRm' := Lib.hid (HRm'.out.below b)
    replace HRz := Lib.hid (HRz.out.below b)
    replace BXm := Lib.hid (BXm.out.below b); replace cm_0 := BXm.out.cell0; replace cm_1 := BXm.out.cell1
    replace HB := Lib.hid (HB.out.trans (b.mono hs)); replace hs := HB.out.size
    clear b
    go_wp2_with fail
    go_ret
    exact ⟨rfl, HB.out⟩

end Go.Proofs.Ytcenffndclpjoaa
