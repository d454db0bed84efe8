/-
  MapTurns: the model's.
-/
import Derived.Test.YtjpebcomecoheaaCmpM
import Derived.Deep.RegionHeld3
namespace Go.Proofs.Ytjpebcomecoheaa
open Go.RowKit

/-- Whether the form from a dart is that from the dart 0. -/
def sameF (t f : List Int) (r : Nat) : Prop := formT t f r = formT t f 0 ∧ formF t f r = formF t f 0
open Classical in
noncomputable def turnsTo (t f : List Int) : Nat → Nat
  | 0 => 0
  | k + 1 => turnsTo t f k + (if sameF t f k then 1 else 0)
theorem turnsTo_yes {t f : List Int} {k : Nat} (h : sameF t f k) : turnsTo t f (k + 1) = turnsTo t f k + 1 := by rw [turnsTo, if_pos h]
theorem turnsTo_no {t f : List Int} {k : Nat} (h : ¬ sameF t f k) : turnsTo t f (k + 1) = turnsTo t f k := by rw [turnsTo, if_neg h]; rfl
theorem turnsTo_le (t f : List Int) : ∀ k, turnsTo t f k ≤ k
  | 0 => Nat.le_refl _
  | k + 1 => by
    have := turnsTo_le t f k
    by_cases h : sameF t f k
    · rw [turnsTo_yes h]; omega
    · rw [turnsTo_no h]; omega
noncomputable def turnsR (t f : List Int) : Int := if mapV t f = true then (turnsTo t f t.length : Int) else -1
theorem same_cmp {t f : List Int} {r : Nat} (hm : IsMap t f) (hr : r < t.length) : (cmpM (formT t f r) (formF t f r) (formT t f 0) (formF t f 0) = 0 ↔ sameF t f r) ∧ (cmpM (formT t f 0) (formF t f 0) (formT t f r) (formF t f r) = 0 ↔ sameF t f r) := by
  have h1 := formT_len hm hr
  have h2 := formF_len hm hr
  have h3 := formT_len hm (root := 0) (by omega)
  have h4 := formF_len hm (root := 0) (by omega)
  refine ⟨cmpM_zero (h1.trans h3.symm) (h2.trans h4.symm), (cmpM_zero (h3.trans h1.symm) (h4.trans h2.symm)).trans ⟨fun e => ⟨e.1.symm, e.2.symm⟩, fun e => ⟨e.1.symm, e.2.symm⟩⟩⟩

set_option maxHeartbeats 1600000 in
theorem spec_turnsR (w : World) (A A' : Option Addr) (n n' c c' : Nat) (t f : List Int) (h : Rd w A n t) (h' : Rd w A' n' f) (hn : n ≤ 1048576) (hn' : n' ≤ 1048576) {r : Int} (hR : turnsR t f = r) :
    Calls Try.prog 48 #[.agg #[.slice A n c, .slice A' n' c']] w fun e w' => e = .returned (.int .i64 r) ∧ Below w.heap.size w w' := by
  obtain ⟨W0, hW0, hx, hb, hz⟩ := Box.local_ w 38 (.slice A n c) (.slice A' n' c')
  have c0 := hx.cell0
  have c1 := hx.cell1
  have HX := Lib.hid hx; have HB := Lib.hid hb; have H := Lib.hid h; have H' := Lib.hid h'; clear hx hb hz h h'
  by_cases hv : mapV t f = true
  · rw [turnsR, if_pos hv, H.out.1] at hR
    have hm := mapV_iff.1 hv
    obtain rfl : n = n' := hm.same H.out.1 H'.out.1
    have hn12 : n ≤ 12 := by rw [← H.out.1]; exact hm.turn.2.1
    have hn1 : 0 < n := by rw [← H.out.1]; exact hm.turn.1
    have HLT0 : Hid ((formT t f 0).length = n) := (formT_len hm (by rw [H.out.1]; exact hn1)).trans H.out.1
    have HLF0 : Hid ((formF t f 0).length = n) := (formF_len hm (by rw [H.out.1]; exact hn1)).trans H.out.1
    have HM := Lib.hid hm; have HV := Lib.hid hv; have HR := Lib.hid hR; clear hm hv hR
    go_enter Try.func48, Try.ntmps48
    go_wp2_with fail
    refine (spec_mapV W0 A A' n n c c' t f (H.out.below HB.out) (H'.out.below HB.out) hn hn' HV.out).mono ?_
    rintro e w1 ⟨rfl, bl⟩
    have HB1 : Hid (Below W0.heap.size W0 w1) := bl
    clear bl c0 c1
    go_wp2_with fail
    go_loopw [3, 4] (fun s i wr => ∃ k : Nat, k ≤ n ∧ s = .int .i64 (turnsTo t f k) ∧ i = .int .i64 k ∧ Below W0.heap.size W0 wr) (fun _ i _ => n - (intOf i).toNat)
    case atStart => exact ⟨0, Nat.zero_le _, rfl, rfl, HB1.out⟩
    case round =>
      obtain ⟨k, hk, rfl, rfl, hbr⟩ := hrel
      have c0 := (HX.out.below hbr).cell0
      have c1 := (HX.out.below hbr).cell1
      have HB2 := Lib.hid (HB.out.trans (hbr.mono HB.out.size))
      have HBr := Lib.hid hbr; clear hbr
      have hle := turnsTo_le t f k
      by_cases hlt : k < n
      · have HLT : Hid ((formT t f k).length = n) := (formT_len HM.out (by rw [H.out.1]; exact hlt)).trans H.out.1
        have HLF : Hid ((formF t f k).length = n) := (formF_len HM.out (by rw [H.out.1]; exact hlt)).trans H.out.1
        have hsc := (same_cmp HM.out (r := k) (by rw [H.out.1]; exact hlt)).1
        by_cases hs : sameF t f k
        · have HD : Hid ((cmpM (formT t f k) (formF t f k) (formT t f 0) (formF t f 0) == 0) = true) := by rw [Hid]; simpa using hsc.2 hs
          have HS := Lib.hid hs; clear hsc hs
          go_wp2_with fail
          go_region_held3 (fun w' => w'.cell? ⟨w.heap.size, 0, none⟩ = some (.slice A n c) ∧ w'.cell? ⟨w.heap.size, 1, none⟩ = some (.slice A' n c')) (first | go_keep | exact ⟨(HX.out.below BLc.out).cell0, (HX.out.below BLc.out).cell1⟩ | exact ⟨(HX.out.below BLb.out).cell0, (HX.out.below BLb.out).cell1⟩ | exact ⟨(HX.out.below BLa.out).cell0, (HX.out.below BLa.out).cell1⟩) (first
            | (have hchk := BLa.out; clear hchk; go_at_call 90; refine (l2Form_any _ A A' n c c' 0 t f (H.out.below HB3.out) (H'.out.below HB3.out) HM.out hn1).mono ?_; rintro e w3 ⟨v, v', rfl, o, bl⟩; obtain ⟨A5, c5, A6, c6, rfl, rfl, r5, r6⟩ := o.form HLT0.out HLF0.out; have BLb : Hid (Below W0.heap.size W0 w3) := BLa.out.trans (bl.mono BLa.out.size); have R3' : Hid (Rd w3 A3 n (formT t f k)) := R3.out.below bl; have R4' : Hid (Rd w3 A4 n (formF t f k)) := R4.out.below bl; have R5 : Hid (Rd w3 A5 n (formT t f 0)) := r5; have R6 : Hid (Rd w3 A6 n (formF t f 0)) := r6; clear o bl r5 r6)
            | (go_at_call 90; refine (l2Form_any _ A A' n c c' k t f ((H.out.below HB2.out).drewN _) ((H'.out.below HB2.out).drewN _) HM.out hlt).mono ?_; rintro e w2 ⟨v, v', rfl, o, bl⟩; obtain ⟨A3, c3, A4, c4, rfl, rfl, r3, r4⟩ := o.form HLT.out HLF.out; have BLa : Hid (Below W0.heap.size W0 w2) := HBr.out.trans ((Below.of_drewN bl).mono HBr.out.size); have HB3 : Hid (Below w.heap.size w w2) := HB.out.trans (BLa.out.mono HB.out.size); have R3 : Hid (Rd w2 A3 n (formT t f k)) := r3; have R4 : Hid (Rd w2 A4 n (formF t f k)) := r4; clear o bl r3 r4)
            | (go_at_call 93; refine (l2Before_lit w3 A3 A4 A5 A6 n c3 c4 c5 c6 _ _ _ _ R3'.out R4'.out R5.out R6.out hn12 rfl).mono ?_; rintro e w4 ⟨rfl, bl⟩; have BLc : Hid (Below W0.heap.size W0 w4) := BLb.out.trans (bl.mono BLb.out.size); have hd := HD.out; clear bl))
          all_goals
            go_wp2
            go_roundw
            case rel => exact ⟨k + 1, by omega, by rw [turnsTo_yes HS.out]; go_num, by go_num, BLc.out⟩
            case measure => simp [intOf]; omega
        · have HD : Hid ((cmpM (formT t f k) (formF t f k) (formT t f 0) (formF t f 0) == 0) = false) := by rw [Hid]; simpa using fun e => hs (hsc.1 e)
          have HS := Lib.hid hs; clear hsc hs
          go_wp2_with fail
          go_region_held3 (fun w' => w'.cell? ⟨w.heap.size, 0, none⟩ = some (.slice A n c) ∧ w'.cell? ⟨w.heap.size, 1, none⟩ = some (.slice A' n c')) (first | go_keep | exact ⟨(HX.out.below BLc.out).cell0, (HX.out.below BLc.out).cell1⟩ | exact ⟨(HX.out.below BLb.out).cell0, (HX.out.below BLb.out).cell1⟩ | exact ⟨(HX.out.below BLa.out).cell0, (HX.out.below BLa.out).cell1⟩) (first
            | (have hchk := BLa.out; clear hchk; go_at_call 90; refine (l2Form_any _ A A' n c c' 0 t f (H.out.below HB3.out) (H'.out.below HB3.out) HM.out hn1).mono ?_; rintro e w3 ⟨v, v', rfl, o, bl⟩; obtain ⟨A5, c5, A6, c6, rfl, rfl, r5, r6⟩ := o.form HLT0.out HLF0.out; have BLb : Hid (Below W0.heap.size W0 w3) := BLa.out.trans (bl.mono BLa.out.size); have R3' : Hid (Rd w3 A3 n (formT t f k)) := R3.out.below bl; have R4' : Hid (Rd w3 A4 n (formF t f k)) := R4.out.below bl; have R5 : Hid (Rd w3 A5 n (formT t f 0)) := r5; have R6 : Hid (Rd w3 A6 n (formF t f 0)) := r6; clear o bl r5 r6)
            | (go_at_call 90; refine (l2Form_any _ A A' n c c' k t f ((H.out.below HB2.out).drewN _) ((H'.out.below HB2.out).drewN _) HM.out hlt).mono ?_; rintro e w2 ⟨v, v', rfl, o, bl⟩; obtain ⟨A3, c3, A4, c4, rfl, rfl, r3, r4⟩ := o.form HLT.out HLF.out; have BLa : Hid (Below W0.heap.size W0 w2) := HBr.out.trans ((Below.of_drewN bl).mono HBr.out.size); have HB3 : Hid (Below w.heap.size w w2) := HB.out.trans (BLa.out.mono HB.out.size); have R3 : Hid (Rd w2 A3 n (formT t f k)) := r3; have R4 : Hid (Rd w2 A4 n (formF t f k)) := r4; clear o bl r3 r4)
            | (go_at_call 93; refine (l2Before_lit w3 A3 A4 A5 A6 n c3 c4 c5 c6 _ _ _ _ R3'.out R4'.out R5.out R6.out hn12 rfl).mono ?_; rintro e w4 ⟨rfl, bl⟩; have BLc : Hid (Below W0.heap.size W0 w4) := BLb.out.trans (bl.mono BLb.out.size); have hd := HD.out; clear bl))
          all_goals
            go_wp2
            go_roundw
            case rel => exact ⟨k + 1, by omega, by rw [turnsTo_no HS.out], by go_num, BLc.out⟩
            case measure => simp [intOf]; omega
      · have hkn : k = n := by omega
        have HK := Lib.hid hkn; clear hkn
        go_wp2
        go_ret
        exact ⟨ret_int (by rw [HK.out]; exact HR.out), HB2.out⟩
  · have hv' : mapV t f = false := by simpa using hv
    rw [turnsR, if_neg hv] at hR
    subst hR
    have HV := Lib.hid hv'; clear hv hv'
    go_enter Try.func48, Try.ntmps48
    go_wp2_with fail
    refine (spec_mapV W0 A A' n n' c c' t f (H.out.below HB.out) (H'.out.below HB.out) hn hn' HV.out).mono ?_
    rintro e w1 ⟨rfl, bl⟩
    have HB1 : Hid (Below w.heap.size w w1) := HB.out.trans (bl.mono HB.out.size)
    clear bl
    go_wp2
    go_ret
    exact ⟨rfl, HB1.out⟩

end Go.Proofs.Ytjpebcomecoheaa
