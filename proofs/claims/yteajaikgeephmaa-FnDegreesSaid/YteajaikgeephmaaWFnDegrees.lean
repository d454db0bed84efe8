/-
  FnDegrees: the walk of the law.
-/
import Derived.Test.YteajaikgeephmaaLawMap
import Derived.Test.YteajaikgeephmaaDrawMs
import Derived.Test.YteajaikgeephmaaPar3
import Derived.Test.YteajaikgeephmaaDual
import Derived.Test.YteajaikgeephmaaCounts
import Derived.Test.YteajaikgeephmaaDegrees
namespace Go.Proofs.Yteajaikgeephmaa
open Go.RowKit

theorem type_small {p : List Int} (hp : Vld p) {j : Nat} (hj : j < (typeL p).length) : 0 ≤ gi (typeL p) j ∧ gi (typeL p) j ≤ 1000 := by
  have hm : gi (typeL p) j ∈ typeL p := by rw [gi_eq hj]; exact List.getElem_mem hj
  have h1 := fromLen_le (cyclesL p) p.length _ hm
  have h2 := hp.2.1
  have h3 : ∀ (cs : List (List Int)) n x, x ∈ fromLen cs n → 0 ≤ x := fun cs n => by
    induction n with
    | zero => intro x h; simp [fromLen] at h
    | succ n ih =>
      intro x h
      rw [fromLen, List.mem_append] at h
      rcases h with h | h
      · have := (List.mem_replicate.1 h).2; omega
      · exact ih x h
  exact ⟨h3 _ _ _ hm, by omega⟩

set_option maxRecDepth 100000 in
set_option maxHeartbeats 3200000 in
theorem walk_FnDegrees (A0 : Option Addr) (n0 c0 : Nat) (bs0 : List Int) (w : World) (h0 : RdB w A0 n0 bs0) (hm0 : n0 ≤ maxLen ∧ n0 ≤ c0) :
    Calls Try.prog 13 #[.slice A0 n0 c0] w fun e w' => e = .returned (.bool true) ∧ Below w.heap.size w w' := by
  have HB0_0 := Lib.hid h0; have hc0 := hm0.2; have hml0 := hm0.1; clear h0 hm0; unfold maxLen at hml0
  by_cases hbig0 : 1048576 < n0
  · have hd : decide ((1048576 : Int) < n0) = true := by simp; omega
    go_enter Try.func13, Try.ntmps13
    go_wp2
    go_ret
    exact ⟨rfl, Below.refl _ _⟩
  have hd0 : decide ((1048576 : Int) < n0) = false := by simp; omega
  have hnb0 : n0 ≤ 1048576 := by omega
  clear hbig0
  go_enter Try.func13, Try.ntmps13
  go_wp2_with fail
  refine (drawMapDegrees_any w A0 n0 c0 bs0 HB0_0.out hnb0 hc0).mono ?_
  rintro e w1 ⟨Am, Am', nm, nm', cm, cm', t, f, rfl, r1, r2, hlm, hlm', b⟩
  have HNm := Lib.hid r1.1; have HNm' := Lib.hid r2.1; have HRm := Lib.hid r1; have HRm' := Lib.hid r2; clear r1 r2
  have HB := Lib.hid b; have hs := b.size; clear b
  obtain ⟨w2, hWw2, hx, b, hz⟩ := Box.local_ w1 35 (.slice Am nm cm) (.slice Am' nm' cm')
  have BXm := Lib.hid hx; clear hx hz
  replace HRm := Lib.hid (HRm.out.below b)
  replace HRm' := Lib.hid (HRm'.out.below b)
  replace HB := Lib.hid (HB.out.trans (b.mono hs)); replace hs := HB.out.size
  clear b
  have cm_0 := BXm.out.cell0; have cm_1 := BXm.out.cell1
  by_cases hv : mapV t f = true
  · have HM := Lib.hid (mapV_iff.1 hv)
    obtain rfl : nm = nm' := by have := HM.out.len; rw [HNm.out, HNm'.out] at this; exact this
    have HD : Hid (IsMap (mulL f t) f) := HM.out.dual
    obtain ⟨V, hV⟩ : ∃ V, cntV t = V := ⟨_, rfl⟩
    obtain ⟨E, hE⟩ : ∃ E, cntE f = E := ⟨_, rfl⟩
    obtain ⟨F, hF⟩ : ∃ F, cntF t f = F := ⟨_, rfl⟩
    have hE2 : 2 * E = nm := by rw [← hE, cntE, flip_even HM.out.flip HM.out.paired]; exact HNm'.out
    have HLV : Hid ((typeL t).length = V) := (typeL_len HM.out.turn).trans hV
    have HLF : Hid ((typeL (mulL f t)).length = F) := (typeL_len HD.out.turn).trans hF
    have hV12 : V ≤ 12 := by have h2 := cyclesL_len (p := t); rw [HNm.out] at h2; rw [← hV, cntV]; omega
    have hF12 : F ≤ 12 := by have h2 := cyclesL_len (p := mulL f t); rw [mulL_len, HNm'.out] at h2; rw [← hF, cntF]; omega
    have HV := Lib.hid hV; have HE := Lib.hid hE; have HF := Lib.hid hF; clear hV hE hF
    have HS1 : Hid ((typeL t).sum = 2 * (E : Int)) := by rw [Hid, type_sum HM.out.turn, HNm.out]; omega
    have HS2 : Hid ((typeL (mulL f t)).sum = 2 * (E : Int)) := by rw [Hid, type_sum HD.out.turn, mulL_len, HNm'.out]; omega
    have HB1 : Hid (∀ j, j < V → 0 ≤ gi (typeL t) j ∧ gi (typeL t) j ≤ 1000) := fun j hj => type_small HM.out.turn (by rw [HLV.out]; exact hj)
    have HB2 : Hid (∀ j, j < F → 0 ≤ gi (typeL (mulL f t)) j ∧ gi (typeL (mulL f t)) j ≤ 1000) := fun j hj => type_small HD.out.turn (by rw [HLF.out]; exact hj)
    go_wp2_with fail
    refine (impl_degreesR w2 Am Am' nm nm cm cm' t f HRm.out HRm'.out (by omega) (by omega) (ok := true) (ys := typeL t) (by rw [degreesR, if_pos (mapV_iff.2 HM.out)])).mono ?_
    rintro e w3 ⟨v, rfl, o, b⟩
    have hl : (typeL t : List Int).length = V := HLV.out
    obtain ⟨Ak, ck, rfl, -, -⟩ := o.form' hl
    have HRk := Lib.hid (o.rd hl); clear o hl
    replace HRm := Lib.hid (HRm.out.below b)
    replace HRm' := Lib.hid (HRm'.out.below b)
    replace BXm := Lib.hid (BXm.out.below b); replace cm_0 := BXm.out.cell0; replace cm_1 := BXm.out.cell1
    replace HB := Lib.hid (HB.out.trans (b.mono hs)); replace hs := HB.out.size
    clear b
    go_wp2_with fail
    refine (spec_degreesR w3 Am Am' nm nm cm cm' t f HRm.out HRm'.out (by omega) (by omega) (ok := true) (ys := typeL t) (by rw [degreesR, if_pos (mapV_iff.2 HM.out)])).mono ?_
    rintro e w4 ⟨v, rfl, o, b⟩
    have hl : (typeL t : List Int).length = V := HLV.out
    obtain ⟨Al, cl, rfl, -, -⟩ := o.form' hl
    have HRl := Lib.hid (o.rd hl); clear o hl
    replace HRm := Lib.hid (HRm.out.below b)
    replace HRm' := Lib.hid (HRm'.out.below b)
    replace HRk := Lib.hid (HRk.out.below b)
    replace BXm := Lib.hid (BXm.out.below b); replace cm_0 := BXm.out.cell0; replace cm_1 := BXm.out.cell1
    replace HB := Lib.hid (HB.out.trans (b.mono hs)); replace hs := HB.out.size
    clear b
    go_wp2_with fail
    refine (same_yes w4 Ak Al V V ck cl (typeL t) (typeL t) HRk.out HRl.out (by omega) (by omega) (rfl)).mono ?_
    rintro e w5 ⟨rfl, b⟩
    replace HRm := Lib.hid (HRm.out.below b)
    replace HRm' := Lib.hid (HRm'.out.below b)
    replace HRk := Lib.hid (HRk.out.below b)
    replace HRl := Lib.hid (HRl.out.below b)
    replace BXm := Lib.hid (BXm.out.below b); replace cm_0 := BXm.out.cell0; replace cm_1 := BXm.out.cell1
    replace HB := Lib.hid (HB.out.trans (b.mono hs)); replace hs := HB.out.size
    clear b
    clear HRl
    go_wp2_with fail
    refine (impl_countsR w5 Am Am' nm nm cm cm' t f HRm.out HRm'.out (by omega) (by omega) (ok := true) (ys := [(V : Int), (E : Int), (F : Int)]) (by rw [countsR, if_pos (mapV_iff.2 HM.out), HV.out, HE.out, HF.out])).mono ?_
    rintro e w6 ⟨v, rfl, o, b⟩
    have hl : ([(V : Int), (E : Int), (F : Int)] : List Int).length = 3 := rfl
    obtain ⟨Aa, ca, rfl, -, -⟩ := o.form' hl
    obtain ⟨ga, rfl, -, -, -⟩ := o.cellAt hl (k := 0) (by omega)
    have HRa := Lib.hid (o.rd hl); clear o hl
    replace HRm := Lib.hid (HRm.out.below b)
    replace HRm' := Lib.hid (HRm'.out.below b)
    replace HRk := Lib.hid (HRk.out.below b)
    replace BXm := Lib.hid (BXm.out.below b); replace cm_0 := BXm.out.cell0; replace cm_1 := BXm.out.cell1
    replace HB := Lib.hid (HB.out.trans (b.mono hs)); replace hs := HB.out.size
    clear b
    go_wp2_with fail
    refine (impl_dualR w6 Am Am' nm nm cm cm' t f HRm.out HRm'.out (by omega) (by omega) (ok := true) (yt := mulL f t) (yf := f) (by rw [dualR, if_pos (mapV_iff.2 HM.out)])).mono ?_
    rintro e w7 ⟨u, u', rfl, o, b⟩
    have hl : (mulL f t : List Int).length = nm := (mulL_len _ _).trans HNm'.out
    have hl' : (f : List Int).length = nm := HNm'.out
    obtain ⟨Ad, cd, Ad', cd', rfl, rfl, r1, r2⟩ := o.form hl hl'
    have HRd := Lib.hid r1; have HRd' := Lib.hid r2; clear o hl hl' r1 r2
    replace HRm := Lib.hid (HRm.out.below b)
    replace HRm' := Lib.hid (HRm'.out.below b)
    replace HRk := Lib.hid (HRk.out.below b)
    replace HRa := Lib.hid (HRa.out.below b)
    replace BXm := Lib.hid (BXm.out.below b); replace cm_0 := BXm.out.cell0; replace cm_1 := BXm.out.cell1
    replace HB := Lib.hid (HB.out.trans (b.mono hs)); replace hs := HB.out.size
    clear b
    obtain ⟨w8, hWw8, hx, b, hz⟩ := Box.local_ w7 35 (.slice Ad nm cd) (.slice Ad' nm cd')
    have BXd := Lib.hid hx; clear hx hz
    replace HRm := Lib.hid (HRm.out.below b)
    replace HRm' := Lib.hid (HRm'.out.below b)
    replace HRk := Lib.hid (HRk.out.below b)
    replace HRa := Lib.hid (HRa.out.below b)
    replace HRd := Lib.hid (HRd.out.below b)
    replace HRd' := Lib.hid (HRd'.out.below b)
    replace BXm := Lib.hid (BXm.out.below b); replace cm_0 := BXm.out.cell0; replace cm_1 := BXm.out.cell1
    replace HB := Lib.hid (HB.out.trans (b.mono hs)); replace hs := HB.out.size
    clear b
    have cd_0 := BXd.out.cell0; have cd_1 := BXd.out.cell1
    go_wp2_with fail
    refine (impl_degreesR w8 Ad Ad' nm nm cd cd' (mulL f t) f HRd.out HRd'.out (by omega) (by omega) (ok := true) (ys := typeL (mulL f t)) (by rw [degreesR, if_pos (mapV_iff.2 HD.out)])).mono ?_
    rintro e w9 ⟨v, rfl, o, b⟩
    have hl : (typeL (mulL f t) : List Int).length = F := HLF.out
    obtain ⟨Ao, co, rfl, -, -⟩ := o.form' hl
    have HRo := Lib.hid (o.rd hl); clear o hl
    replace HRm := Lib.hid (HRm.out.below b)
    replace HRm' := Lib.hid (HRm'.out.below b)
    replace HRk := Lib.hid (HRk.out.below b)
    replace HRa := Lib.hid (HRa.out.below b)
    replace HRd := Lib.hid (HRd.out.below b)
    replace HRd' := Lib.hid (HRd'.out.below b)
    replace BXm := Lib.hid (BXm.out.below b); replace cm_0 := BXm.out.cell0; replace cm_1 := BXm.out.cell1
    replace BXd := Lib.hid (BXd.out.below b); replace cd_0 := BXd.out.cell0; replace cd_1 := BXd.out.cell1
    replace HB := Lib.hid (HB.out.trans (b.mono hs)); replace hs := HB.out.size
    clear b
    have qa0 : w9.cell? ⟨ga, 0, none⟩ = some (.int .i64 (V : Int)) := HRa.out.getg (j := 0) (by omega)
    have qa1 : w9.cell? ⟨ga, 1, none⟩ = some (.int .i64 (E : Int)) := HRa.out.getg (j := 1) (by omega)
    have qa2 : w9.cell? ⟨ga, 2, none⟩ = some (.int .i64 (F : Int)) := HRa.out.getg (j := 2) (by omega)
    have hVV : ((V : Int) == (V : Int)) = true := by simp
    have hFF : ((F : Int) == (F : Int)) = true := by simp
    have hEE : (2 * (E : Int) == 2 * (E : Int)) = true := by simp
    have hE6 : E ≤ 6 := by omega
    have hwr : IntKind.i64.wrap (2 * (E : Int)) = 2 * (E : Int) := IntWalk.i64_in _ (by omega)
    clear hE2
    go_wp2_with fail
    go_region_held3 (fun w' => w'.cell? ⟨ga, 0, none⟩ = some (.int .i64 (V : Int)) ∧ w'.cell? ⟨ga, 1, none⟩ = some (.int .i64 (E : Int)) ∧ w'.cell? ⟨ga, 2, none⟩ = some (.int .i64 (F : Int))) (first | go_keep | exact ⟨(HRa.out.below BS1.out).getg (j := 0) (by omega), (HRa.out.below BS1.out).getg (j := 1) (by omega), (HRa.out.below BS1.out).getg (j := 2) (by omega)⟩ | exact ⟨(HRa.out.below BS0.out).getg (j := 0) (by omega), (HRa.out.below BS0.out).getg (j := 1) (by omega), (HRa.out.below BS0.out).getg (j := 2) (by omega)⟩) (first
      | (have hchk := BS0.out; clear hchk; go_at_call 28; refine (sumB_any _ Ao F co (typeL (mulL f t)) (HRo.out.below BS0.out) (by omega) (HB2.out) (HS2.out)).mono ?_; rintro e w11 ⟨rfl, b⟩; have BS1 : Hid (Below w9.heap.size w9 w11) := BS0.out.trans (b.mono BS0.out.size); clear b)
      | (go_at_call 28; refine (sumB_any _ Ak V ck (typeL t) (HRk.out.drewN _) (by omega) (HB1.out) (HS1.out)).mono ?_; rintro e w10 ⟨rfl, b⟩; have BS0 : Hid (Below w9.heap.size w9 w10) := Below.of_drewN b; clear b))
    all_goals
      go_wp2
      go_ret
      exact ⟨rfl, HB.out.trans (BS1.out.mono hs)⟩
  · have HV := Lib.hid hv
    go_wp2_with fail
    refine (impl_degreesR w2 Am Am' nm nm' cm cm' t f HRm.out HRm'.out (by omega) (by omega) (ok := false) (ys := []) (by rw [degreesR, if_neg HV.out])).mono ?_
    rintro e w3 ⟨v, rfl, o, b⟩
    have hl : ([] : List Int).length = 0 := rfl
    obtain ⟨Ak, ck, rfl, -, -⟩ := o.form' hl
    have HRk := Lib.hid (o.rd hl); clear o hl
    replace HRm := Lib.hid (HRm.out.below b)
    replace HRm' := Lib.hid (HRm'.out.below b)
    replace BXm := Lib.hid (BXm.out.below b); replace cm_0 := BXm.out.cell0; replace cm_1 := BXm.out.cell1
    replace HB := Lib.hid (HB.out.trans (b.mono hs)); replace hs := HB.out.size
    clear b
    go_wp2_with fail
    refine (spec_degreesR w3 Am Am' nm nm' cm cm' t f HRm.out HRm'.out (by omega) (by omega) (ok := false) (ys := []) (by rw [degreesR, if_neg HV.out])).mono ?_
    rintro e w4 ⟨v, rfl, o, b⟩
    have hl : ([] : List Int).length = 0 := rfl
    obtain ⟨Al, cl, rfl, -, -⟩ := o.form' hl
    have HRl := Lib.hid (o.rd hl); clear o hl
    replace HRm := Lib.hid (HRm.out.below b)
    replace HRm' := Lib.hid (HRm'.out.below b)
    replace HRk := Lib.hid (HRk.out.below b)
    replace BXm := Lib.hid (BXm.out.below b); replace cm_0 := BXm.out.cell0; replace cm_1 := BXm.out.cell1
    replace HB := Lib.hid (HB.out.trans (b.mono hs)); replace hs := HB.out.size
    clear b
    go_wp2_with fail
    refine (same_yes w4 Ak Al 0 0 ck cl [] [] HRk.out HRl.out (by omega) (by omega) (rfl)).mono ?_
    rintro e w5 ⟨rfl, b⟩
    replace HRm := Lib.hid (HRm.out.below b)
    replace HRm' := Lib.hid (HRm'.out.below b)
    replace HRk := Lib.hid (HRk.out.below b)
    replace HRl := Lib.hid (HRl.out.below b)
    replace BXm := Lib.hid (BXm.out.below b); replace cm_0 := BXm.out.cell0; replace cm_1 := BXm.out.cell1
    replace HB := Lib.hid (HB.out.trans (b.mono hs)); replace hs := HB.out.size
    clear b
    go_wp2_with fail
    refine (same_yes w5 Ak Al 0 0 ck cl [] [] HRk.out HRl.out (by omega) (by omega) (rfl)).mono ?_
    rintro e w6 ⟨rfl, b⟩
    replace HRm := Lib.hid (HRm.out.below b)
    replace HRm' := Lib.hid (HRm'.out.below b)
    replace HRk := Lib.hid (HRk.out.below b)
    replace HRl := Lib.hid (HRl.out.below b)
    replace BXm := Lib.hid (BXm.out.below b); replace cm_0 := BXm.out.cell0; replace cm_1 := BXm.out.cell1
    replace HB := Lib.hid (HB.out.trans (b.mono hs)); replace hs := HB.out.size
    clear b
    go_wp2_with fail
    go_ret
    exact ⟨rfl, HB.out⟩

end Go.Proofs.Yteajaikgeephmaa
