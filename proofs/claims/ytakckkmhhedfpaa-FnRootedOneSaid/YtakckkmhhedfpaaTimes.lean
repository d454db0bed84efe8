/-
  MapTurns: the model's.
  MapTurns: the program's: all forms of a map, how often one of them is a given one.
  MapLeast: the first of the least forms: the model's.
-/
import Derived.Test.YtakckkmhhedfpaaCmpM
import Derived.Deep.RegionHeld3
namespace Go.Proofs.Ytakckkmhhedfpaa
open Go.RowKit

/-- Whether the form from a dart is that from the dart 0. -/
def sameF (t f : List Int) (r : Nat) : Prop := formT t f r = formT t f 0 ∧ formF t f r = formF t f 0
open Classical in
noncomputable def turnsTo (t f : List Int) : Nat → Nat
  | 0 => 0
  | k + 1 => turnsTo t f k + (if sameF t f k then 1 else 0)
theorem turnsTo_yes {t f : List Int} {k : Nat} (h : sameF t f k) : turnsTo t f (k + 1) = turnsTo t f k + 1 := by rw [turnsTo, if_pos h]
theorem turnsTo_no {t f : List Int} {k : Nat} (h : ¬ sameF t f k) : turnsTo t f (k + 1) = turnsTo t f k := by rw [turnsTo, if_neg h]; rfl
theorem turnsTo_le (t f : List Int) : ∀ k, turnsTo t f k ≤ k
  | 0 => Nat.le_refl _
  | k + 1 => by
    have := turnsTo_le t f k
    by_cases h : sameF t f k
    · rw [turnsTo_yes h]; omega
    · rw [turnsTo_no h]; omega
noncomputable def turnsR (t f : List Int) : Int := if mapV t f = true then (turnsTo t f t.length : Int) else -1
theorem same_cmp {t f : List Int} {r : Nat} (hm : IsMap t f) (hr : r < t.length) : (cmpM (formT t f r) (formF t f r) (formT t f 0) (formF t f 0) = 0 ↔ sameF t f r) ∧ (cmpM (formT t f 0) (formF t f 0) (formT t f r) (formF t f r) = 0 ↔ sameF t f r) := by
  have h1 := formT_len hm hr
  have h2 := formF_len hm hr
  have h3 := formT_len hm (root := 0) (by omega)
  have h4 := formF_len hm (root := 0) (by omega)
  refine ⟨cmpM_zero (h1.trans h3.symm) (h2.trans h4.symm), (cmpM_zero (h3.trans h1.symm) (h4.trans h2.symm)).trans ⟨fun e => ⟨e.1.symm, e.2.symm⟩, fun e => ⟨e.1.symm, e.2.symm⟩⟩⟩

set_option maxHeartbeats 1600000 in
theorem spec_turnsR (w : World) (A A' : Option Addr) (n n' c c' : Nat) (t f : List Int) (h : Rd w A n t) (h' : Rd w A' n' f) (hn : n ≤ 1048576) (hn' : n' ≤ 1048576) {r : Int} (hR : turnsR t f = r) :
    Calls Try.prog 48 #[.agg #[.slice A n c, .slice A' n' c']] w fun e w' => e = .returned (.int .i64 r) ∧ Below w.heap.size w w' := by
  obtain ⟨W0, hW0, hx, hb, hz⟩ := Box.local_ w 35 (.slice A n c) (.slice A' n' c')
  have c0 := hx.cell0
  have c1 := hx.cell1
  have HX := Lib.hid hx; have HB := Lib.hid hb; have H := Lib.hid h; have H' := Lib.hid h'; clear hx hb hz h h'
  by_cases hv : mapV t f = true
  · rw [turnsR, if_pos hv, H.out.1] at hR
    have hm := mapV_iff.1 hv
    obtain rfl : n = n' := hm.same H.out.1 H'.out.1
    have hn12 : n ≤ 12 := by rw [← H.out.1]; exact hm.turn.2.1
    have hn1 : 0 < n := by rw [← H.out.1]; exact hm.turn.1
    have HLT0 : Hid ((formT t f 0).length = n) := (formT_len hm (by rw [H.out.1]; exact hn1)).trans H.out.1
    have HLF0 : Hid ((formF t f 0).length = n) := (formF_len hm (by rw [H.out.1]; exact hn1)).trans H.out.1
    have HM := Lib.hid hm; have HV := Lib.hid hv; have HR := Lib.hid hR; clear hm hv hR
    go_enter Try.func48, Try.ntmps48
    go_wp2_with fail
    refine (spec_mapV W0 A A' n n c c' t f (H.out.below HB.out) (H'.out.below HB.out) hn hn' HV.out).mono ?_
    rintro e w1 ⟨rfl, bl⟩
    have HB1 : Hid (Below W0.heap.size W0 w1) := bl
    clear bl c0 c1
    go_wp2_with fail
    go_loopw [3, 4] (fun s i wr => ∃ k : Nat, k ≤ n ∧ s = .int .i64 (turnsTo t f k) ∧ i = .int .i64 k ∧ Below W0.heap.size W0 wr) (fun _ i _ => n - (intOf i).toNat)
    case atStart => exact ⟨0, Nat.zero_le _, rfl, rfl, HB1.out⟩
    case round =>
      obtain ⟨k, hk, rfl, rfl, hbr⟩ := hrel
      have c0 := (HX.out.below hbr).cell0
      have c1 := (HX.out.below hbr).cell1
      have HB2 := Lib.hid (HB.out.trans (hbr.mono HB.out.size))
      have HBr := Lib.hid hbr; clear hbr
      have hle := turnsTo_le t f k
      by_cases hlt : k < n
      · have HLT : Hid ((formT t f k).length = n) := (formT_len HM.out (by rw [H.out.1]; exact hlt)).trans H.out.1
        have HLF : Hid ((formF t f k).length = n) := (formF_len HM.out (by rw [H.out.1]; exact hlt)).trans H.out.1
        have hsc := (same_cmp HM.out (r := k) (by rw [H.out.1]; exact hlt)).1
        by_cases hs : sameF t f k
        · have HD : Hid ((cmpM (formT t f k) (formF t f k) (formT t f 0) (formF t f 0) == 0) = true) := by rw [Hid]; simpa using hsc.2 hs
          have HS := Lib.hid hs; clear hsc hs
          go_wp2_with fail
          go_region_held3 (fun w' => w'.cell? ⟨w.heap.size, 0, none⟩ = some (.slice A n c) ∧ w'.cell? ⟨w.heap.size, 1, none⟩ = some (.slice A' n c')) (first | go_keep | exact ⟨(HX.out.below BLc.out).cell0, (HX.out.below BLc.out).cell1⟩ | exact ⟨(HX.out.below BLb.out).cell0, (HX.out.below BLb.out).cell1⟩ | exact ⟨(HX.out.below BLa.out).cell0, (HX.out.below BLa.out).cell1⟩) (first
            | (have hchk := BLa.out; clear hchk; go_at_call 68; refine (l2Form_any _ A A' n c c' 0 t f (H.out.below HB3.out) (H'.out.below HB3.out) HM.out hn1).mono ?_; rintro e w3 ⟨v, v', rfl, o, bl⟩; obtain ⟨A5, c5, A6, c6, rfl, rfl, r5, r6⟩ := o.form HLT0.out HLF0.out; have BLb : Hid (Below W0.heap.size W0 w3) := BLa.out.trans (bl.mono BLa.out.size); have R3' : Hid (Rd w3 A3 n (formT t f k)) := R3.out.below bl; have R4' : Hid (Rd w3 A4 n (formF t f k)) := R4.out.below bl; have R5 : Hid (Rd w3 A5 n (formT t f 0)) := r5; have R6 : Hid (Rd w3 A6 n (formF t f 0)) := r6; clear o bl r5 r6)
            | (go_at_call 68; refine (l2Form_any _ A A' n c c' k t f ((H.out.below HB2.out).drewN _) ((H'.out.below HB2.out).drewN _) HM.out hlt).mono ?_; rintro e w2 ⟨v, v', rfl, o, bl⟩; obtain ⟨A3, c3, A4, c4, rfl, rfl, r3, r4⟩ := o.form HLT.out HLF.out; have BLa : Hid (Below W0.heap.size W0 w2) := HBr.out.trans ((Below.of_drewN bl).mono HBr.out.size); have HB3 : Hid (Below w.heap.size w w2) := HB.out.trans (BLa.out.mono HB.out.size); have R3 : Hid (Rd w2 A3 n (formT t f k)) := r3; have R4 : Hid (Rd w2 A4 n (formF t f k)) := r4; clear o bl r3 r4)
            | (go_at_call 81; refine (l2Before_lit w3 A3 A4 A5 A6 n c3 c4 c5 c6 _ _ _ _ R3'.out R4'.out R5.out R6.out hn12 rfl).mono ?_; rintro e w4 ⟨rfl, bl⟩; have BLc : Hid (Below W0.heap.size W0 w4) := BLb.out.trans (bl.mono BLb.out.size); have hd := HD.out; clear bl))
          all_goals
            go_wp2
            go_roundw
            case rel => exact ⟨k + 1, by omega, by rw [turnsTo_yes HS.out]; go_num, by go_num, BLc.out⟩
            case measure => simp [intOf]; omega
        · have HD : Hid ((cmpM (formT t f k) (formF t f k) (formT t f 0) (formF t f 0) == 0) = false) := by rw [Hid]; simpa using fun e => hs (hsc.1 e)
          have HS := Lib.hid hs; clear hsc hs
          go_wp2_with fail
          go_region_held3 (fun w' => w'.cell? ⟨w.heap.size, 0, none⟩ = some (.slice A n c) ∧ w'.cell? ⟨w.heap.size, 1, none⟩ = some (.slice A' n c')) (first | go_keep | exact ⟨(HX.out.below BLc.out).cell0, (HX.out.below BLc.out).cell1⟩ | exact ⟨(HX.out.below BLb.out).cell0, (HX.out.below BLb.out).cell1⟩ | exact ⟨(HX.out.below BLa.out).cell0, (HX.out.below BLa.out).cell1⟩) (first
            | (have hchk := BLa.out; clear hchk; go_at_call 68; refine (l2Form_any _ A A' n c c' 0 t f (H.out.below HB3.out) (H'.out.below HB3.out) HM.out hn1).mono ?_; rintro e w3 ⟨v, v', rfl, o, bl⟩; obtain ⟨A5, c5, A6, c6, rfl, rfl, r5, r6⟩ := o.form HLT0.out HLF0.out; have BLb : Hid (Below W0.heap.size W0 w3) := BLa.out.trans (bl.mono BLa.out.size); have R3' : Hid (Rd w3 A3 n (formT t f k)) := R3.out.below bl; have R4' : Hid (Rd w3 A4 n (formF t f k)) := R4.out.below bl; have R5 : Hid (Rd w3 A5 n (formT t f 0)) := r5; have R6 : Hid (Rd w3 A6 n (formF t f 0)) := r6; clear o bl r5 r6)
            | (go_at_call 68; refine (l2Form_any _ A A' n c c' k t f ((H.out.below HB2.out).drewN _) ((H'.out.below HB2.out).drewN _) HM.out hlt).mono ?_; rintro e w2 ⟨v, v', rfl, o, bl⟩; obtain ⟨A3, c3, A4, c4, rfl, rfl, r3, r4⟩ := o.form HLT.out HLF.out; have BLa : Hid (Below W0.heap.size W0 w2) := HBr.out.trans ((Below.of_drewN bl).mono HBr.out.size); have HB3 : Hid (Below w.heap.size w w2) := HB.out.trans (BLa.out.mono HB.out.size); have R3 : Hid (Rd w2 A3 n (formT t f k)) := r3; have R4 : Hid (Rd w2 A4 n (formF t f k)) := r4; clear o bl r3 r4)
            | (go_at_call 81; refine (l2Before_lit w3 A3 A4 A5 A6 n c3 c4 c5 c6 _ _ _ _ R3'.out R4'.out R5.out R6.out hn12 rfl).mono ?_; rintro e w4 ⟨rfl, bl⟩; have BLc : Hid (Below W0.heap.size W0 w4) := BLb.out.trans (bl.mono BLb.out.size); have hd := HD.out; clear bl))
          all_goals
            go_wp2
            go_roundw
            case rel => exact ⟨k + 1, by omega, by rw [turnsTo_no HS.out], by go_num, BLc.out⟩
            case measure => simp [intOf]; omega
      · have hkn : k = n := by omega
        have HK := Lib.hid hkn; clear hkn
        go_wp2
        go_ret
        exact ⟨ret_int (by rw [HK.out]; exact HR.out), HB2.out⟩
  · have hv' : mapV t f = false := by simpa using hv
    rw [turnsR, if_neg hv] at hR
    subst hR
    have HV := Lib.hid hv'; clear hv hv'
    go_enter Try.func48, Try.ntmps48
    go_wp2_with fail
    refine (spec_mapV W0 A A' n n' c c' t f (H.out.below HB.out) (H'.out.below HB.out) hn hn' HV.out).mono ?_
    rintro e w1 ⟨rfl, bl⟩
    have HB1 : Hid (Below w.heap.size w w1) := HB.out.trans (bl.mono HB.out.size)
    clear bl
    go_wp2
    go_ret
    exact ⟨rfl, HB1.out⟩

end Go.Proofs.Ytakckkmhhedfpaa

namespace Go.Proofs.Ytakckkmhhedfpaa
open Go.RowKit

def FormsAt (w : World) (g n k : Nat) (t f : List Int) : Prop :=
  ∃ cs : Array Value, w.heap[g]? = some (.cells cs 35 (0, 0)) ∧ cs.size = n * 2 ∧ ∀ j, j < k → ∃ u u', cs[j * 2]? = some u ∧ cs[j * 2 + 1]? = some u' ∧ OwnM w (g + 1) u u' (formT t f j) (formF t f j)
section
variable {w w' : World} {g n k : Nat} {t f : List Int}
theorem FormsAt.lt (h : FormsAt w g n k t f) : g < w.heap.size := by
  obtain ⟨cs, hg, -⟩ := h
  exact (Array.getElem?_eq_some_iff.1 hg).1
theorem FormsAt.below (h : FormsAt w g n k t f) (hb : Below w.heap.size w w') : FormsAt w' g n k t f := by
  have hl := h.lt
  obtain ⟨cs, hg, hs, hj⟩ := h
  refine ⟨cs, (hb.block g hl).trans hg, hs, fun j hjk => ?_⟩
  obtain ⟨u, u', h1, h2, o⟩ := hj j hjk
  exact ⟨u, u', h1, h2, o.below hb⟩
theorem FormsAt.cells (h : FormsAt w g n k t f) {j : Nat} (hj : j < n) : ∃ u u', w.cell? ⟨g, j * 2, none⟩ = some u ∧ w.cell? ⟨g, j * 2 + 1, none⟩ = some u' ∧ w.frozen? ⟨g, j * 2, none⟩ = false ∧ w.frozen? ⟨g, j * 2 + 1, none⟩ = false := by
  obtain ⟨cs, hg, hs, -⟩ := h
  refine ⟨cs[j * 2]'(by omega), cs[j * 2 + 1]'(by omega), ?_, ?_, frozen_of_row w g _ _ _ hg, frozen_of_row w g _ _ _ hg⟩
  · rw [cell_of_row w g _ _ _ (0, 0) hg, Array.getElem?_eq_getElem (by omega)]
  · rw [cell_of_row w g _ _ _ (0, 0) hg, Array.getElem?_eq_getElem (by omega)]
theorem FormsAt.read (h : FormsAt w g n k t f) {j : Nat} (hj : j < k) : ∃ u u', w.cell? ⟨g, j * 2, none⟩ = some u ∧ w.cell? ⟨g, j * 2 + 1, none⟩ = some u' ∧ OwnM w (g + 1) u u' (formT t f j) (formF t f j) := by
  obtain ⟨cs, hg, hs, hh⟩ := h
  obtain ⟨u, u', h1, h2, o⟩ := hh j hj
  exact ⟨u, u', by rw [cell_of_row w g _ _ _ (0, 0) hg, h1], by rw [cell_of_row w g _ _ _ (0, 0) hg, h2], o⟩
theorem FormsAt.store (h : FormsAt w g n k t f) (hk : k < n) {u u' : Value} (o : OwnM w (g + 1) u u' (formT t f k) (formF t f k)) :
    FormsAt ((w.setCell ⟨g, k * 2, none⟩ u).setCell ⟨g, k * 2 + 1, none⟩ u') g n (k + 1) t f := by
  have hgr : w.grownBy ((w.setCell ⟨g, k * 2, none⟩ u).setCell ⟨g, k * 2 + 1, none⟩ u') (some g) := grownBy_trans (grown_set _ _ _ _) (grown_set _ _ _ _)
  have hc : Chg g (g + 1) w ((w.setCell ⟨g, k * 2, none⟩ u).setCell ⟨g, k * 2 + 1, none⟩ u') := Chg.of_grown hgr (fun b e => by cases e; omega)
  obtain ⟨cs, hg, hs, hh⟩ := h
  refine ⟨_, set_row2 (set_row2 hg), by simpa using hs, fun j hj => ?_⟩
  have keep : ∀ {v v' : Value} {a b : List Int}, OwnM w (g + 1) v v' a b → OwnM ((w.setCell ⟨g, k * 2, none⟩ u).setCell ⟨g, k * 2 + 1, none⟩ u') (g + 1) v v' a b := fun om =>
    om.chg hc (fun b hb => .inr (om.turn.lt b hb).1) (fun b hb => .inr (om.flip.lt b hb).1)
  by_cases e : j = k
  · subst e
    refine ⟨u, u', ?_, ?_, keep o⟩
    · rw [Array.getElem?_setIfInBounds_ne (by omega), Array.getElem?_setIfInBounds_self_of_lt (by omega)]
    · rw [Array.getElem?_setIfInBounds_self_of_lt (by rw [Array.size_setIfInBounds]; omega)]
  · obtain ⟨v, v', h1, h2, om⟩ := hh j (by omega)
    refine ⟨v, v', ?_, ?_, keep om⟩
    · rw [Array.getElem?_setIfInBounds_ne (by omega), Array.getElem?_setIfInBounds_ne (by omega)]; exact h1
    · rw [Array.getElem?_setIfInBounds_ne (by omega), Array.getElem?_setIfInBounds_ne (by omega)]; exact h2
theorem FormsAt.made {lo c : Nat} {xs : List Value} (h : w.ownsRow lo 35 2 (.slice (some ⟨g, 0, none⟩) n c) n xs) (hc : c = n) : FormsAt w g n 0 t f := by
  subst hc
  rcases h.2 with ⟨h', _⟩ | ⟨g', cap', cur, h', _, hg, _, _, hs, _⟩
  · simp at h'
  · injection h' with h1 h2 h3
    simp only [Option.some.injEq, Addr.mk.injEq, and_true] at h1
    subst h1; subst h3
    exact ⟨cur, hg, hs, fun j hj => absurd hj (by omega)⟩
end
theorem info_map : (Try.prog.info? 35).map (fun i => (i.zero, i.size, i.bytes)) = some (some (.agg #[.slice none 0 0, .slice none 0 0]), 2, 48) := by kernel_rfl

set_option maxHeartbeats 1600000 in
theorem forms_any (w : World) (x : Nat) (A A' : Option Addr) (n c c' : Nat) (t f : List Int) (hx : Box2 w x A n c A' n c') (h : Rd w A n t) (h' : Rd w A' n f) (hm : IsMap t f) :
    Calls Try.prog 106 #[.pointer (some ⟨x, 0, none⟩)] w fun e w' => ∃ g, e = .returned (.slice (some ⟨g, 0, none⟩) n n) ∧ w.heap.size ≤ g ∧ FormsAt w' g n n t f ∧ Below w.heap.size w w' := by
  obtain ⟨i0, hi, hz0, hz1, hz2⟩ := info_parts info_map
  have hn12 : n ≤ 12 := by rw [← h.1]; exact hm.turn.2.1
  have c0 := hx.cell0
  have c1 := hx.cell1
  have HZ := Lib.hid (And.intro hz1 hz2)
  have HX := Lib.hid hx; have H := Lib.hid h; have H' := Lib.hid h'; have HM := Lib.hid hm; clear hx h h' hm
  go_enter Try.func106, Try.ntmps106
  go_wp2_with (at_make; refine wpList_make_full _ rfl _ _ 24 rfl w.heap.size 35 i0 (.agg #[.slice none 0 0, .slice none 0 0]) 2 Try.underlying24 hi hz0 hz1 .i64 .i64 _ _ n rfl rfl rfl rfl (by rw [hz2]; omega) (by unfold maxLen; omega) (Nat.le_refl _) ?_; intro w1 hown1 hgrow1)
  have hb1 := below_of_grown hgrow1 (Nat.le_refl _) (fun k hk => by cases hk)
  have HF1 : Hid (FormsAt w1 w.heap.size n 0 t f) := FormsAt.made hown1 rfl
  have HB1 := Lib.hid hb1
  clear hown1 hgrow1 hz0 hz1 hz2 hi HZ hb1 c0 c1
  go_loopw [13] (fun i wr => ∃ k : Nat, k ≤ n ∧ i = .int .i64 k ∧ FormsAt wr w.heap.size n k t f ∧ Below w.heap.size w wr) (fun i _ => n - (intOf i).toNat)
  case atStart => exact ⟨0, Nat.zero_le _, rfl, HF1.out, HB1.out⟩
  case round =>
    obtain ⟨k, hk, rfl, hf, hb⟩ := hrel
    have HF := Lib.hid hf; have HB := Lib.hid hb; clear hf hb
    by_cases hlt : k < n
    · go_wp2_with fail
      refine (form_any _ x A A' n c c' k t f (HX.out.below HB.out) (H.out.below HB.out) (H'.out.below HB.out) HM.out hlt).mono ?_
      rintro e w2 ⟨u, u', rfl, o, bl⟩
      obtain ⟨A3, c3, A4, c4, rfl, rfl, -, -⟩ := o.form ((formT_len HM.out (by rw [H.out.1]; exact hlt)).trans H.out.1) ((formF_len HM.out (by rw [H.out.1]; exact hlt)).trans H.out.1)
      have hf2 := HF.out.below bl
      obtain ⟨v, v', e0, e1, e2, e3⟩ := hf2.cells hlt
      have HF2 := Lib.hid (hf2.store hlt (o.mono HF.out.lt))
      have HB2 := Lib.hid (((HB.out.trans (bl.mono HB.out.size)).setCell (p := ⟨w.heap.size, k * 2, none⟩) (Nat.le_refl _) (.slice A3 n c3)).setCell (p := ⟨w.heap.size, k * 2 + 1, none⟩) (Nat.le_refl _) (.slice A4 n c4))
      clear hf2 o bl
      go_wp2
      go_roundw
      case rel => exact ⟨k + 1, by omega, by go_num, HF2.out, HB2.out⟩
      case measure => simp [intOf]; omega
    · have hkn : k = n := by omega
      have HK := Lib.hid hkn; clear hkn
      go_wp2
      go_ret
      exact ⟨_, rfl, Nat.le_refl _, by have := HF.out; rw [HK.out] at this; exact this, HB.out⟩

/-- How many of the first darts of a map have a given form. -/
def formIs (t f bt bf : List Int) (r : Nat) : Prop := formT t f r = bt ∧ formF t f r = bf
open Classical in
noncomputable def timesTo (t f bt bf : List Int) : Nat → Nat
  | 0 => 0
  | k + 1 => timesTo t f bt bf k + (if formIs t f bt bf k then 1 else 0)
theorem timesTo_yes {t f bt bf : List Int} {k : Nat} (h : formIs t f bt bf k) : timesTo t f bt bf (k + 1) = timesTo t f bt bf k + 1 := by rw [timesTo, if_pos h]
theorem timesTo_no {t f bt bf : List Int} {k : Nat} (h : ¬ formIs t f bt bf k) : timesTo t f bt bf (k + 1) = timesTo t f bt bf k := by rw [timesTo, if_neg h]; rfl
theorem timesTo_le (t f bt bf : List Int) : ∀ k, timesTo t f bt bf k ≤ k
  | 0 => Nat.le_refl _
  | k + 1 => by
    have := timesTo_le t f bt bf k
    by_cases h : formIs t f bt bf k
    · rw [timesTo_yes h]; omega
    · rw [timesTo_no h]; omega
theorem times_turns (t f : List Int) : ∀ k, timesTo t f (formT t f 0) (formF t f 0) k = turnsTo t f k
  | 0 => rfl
  | k + 1 => by
    by_cases h : sameF t f k
    · rw [turnsTo_yes h, timesTo_yes h, times_turns t f k]
    · rw [turnsTo_no h, timesTo_no h, times_turns t f k]

set_option maxHeartbeats 1600000 in
theorem times_any (w : World) (x y : Nat) (A A' B B' : Option Addr) (n c c' d d' : Nat) (t f bt bf : List Int) (hx : Box2 w x A n c A' n c') (hy : Box2 w y B n d B' n d') (h : Rd w A n t) (h' : Rd w A' n f) (k : Rd w B n bt) (k' : Rd w B' n bf) (hm : IsMap t f) :
    Calls Try.prog 82 #[.pointer (some ⟨x, 0, none⟩), .pointer (some ⟨y, 0, none⟩)] w fun e w' => e = .returned (.int .i64 (timesTo t f bt bf n)) ∧ Below w.heap.size w w' := by
  have hn12 : n ≤ 12 := by rw [← h.1]; exact hm.turn.2.1
  have HX := Lib.hid hx; have HY := Lib.hid hy; have H := Lib.hid h; have H' := Lib.hid h'; have K := Lib.hid k; have K' := Lib.hid k'; have HM := Lib.hid hm; clear hx hy h h' k k' hm
  go_enter Try.func82, Try.ntmps82
  go_wp2_with fail
  refine (forms_any w x A A' n c c' t f HX.out H.out H'.out HM.out).mono ?_
  rintro e w1 ⟨g, rfl, -, hf, bl⟩
  have HF1 := Lib.hid hf; have HB1 := Lib.hid bl; clear hf bl
  go_wp2_with fail
  go_loopw [5, 11] (fun s i wr => ∃ k : Nat, k ≤ n ∧ s = .int .i64 (timesTo t f bt bf k) ∧ i = .int .i64 k ∧ Below w.heap.size w wr ∧ FormsAt wr g n n t f) (fun _ i _ => n - (intOf i).toNat)
  case atStart => exact ⟨0, Nat.zero_le _, rfl, rfl, HB1.out, HF1.out⟩
  case round =>
    obtain ⟨k, hk, rfl, rfl, hb, hf⟩ := hrel
    have HB := Lib.hid hb; have HF := Lib.hid hf; clear hb hf
    have hle := timesTo_le t f bt bf k
    by_cases hlt : k < n
    · obtain ⟨u, u', e0, e1, o⟩ := HF.out.read hlt
      have hl1 : (formT t f k).length = n := (formT_len HM.out (by rw [H.out.1]; exact hlt)).trans H.out.1
      have hl2 : (formF t f k).length = n := (formF_len HM.out (by rw [H.out.1]; exact hlt)).trans H.out.1
      obtain ⟨A3, c3, A4, c4, rfl, rfl, r3, r4⟩ := o.form hl1 hl2
      have hcm : cmpM bt bf (formT t f k) (formF t f k) = 0 ↔ formIs t f bt bf k := (cmpM_zero (K.out.1.trans hl1.symm) (K'.out.1.trans hl2.symm)).trans ⟨fun e => ⟨e.1.symm, e.2.symm⟩, fun e => ⟨e.1.symm, e.2.symm⟩⟩
      obtain ⟨W0, hW0, hz, hb0, -⟩ := Box.local_ wr 35 (.slice none 0 0) (.slice none 0 0)
      have z0 := hz.cell0; have z1 := hz.cell1; have z2 := hz.frozen 0; have z3 := hz.frozen 1
      obtain ⟨q1, q2⟩ := hz.store2 (.slice A3 n c3) (.slice A4 n c4)
      have HQ1 : Hid (Box2 ((W0.setCell ⟨wr.heap.size, 0, none⟩ (.slice A3 n c3)).setCell ⟨wr.heap.size, 1, none⟩ (.slice A4 n c4)) wr.heap.size A3 n c3 A4 n c4) := q1
      have hbq : Below wr.heap.size wr ((W0.setCell ⟨wr.heap.size, 0, none⟩ (.slice A3 n c3)).setCell ⟨wr.heap.size, 1, none⟩ (.slice A4 n c4)) := hb0.grown q2 hb0.size (fun k hk => by cases hk; omega)
      have HBQ := Lib.hid hbq
      have HR3 := Lib.hid (r3.below hbq); have HR4 := Lib.hid (r4.below hbq)
      have HBW := Lib.hid (HB.out.trans (hbq.mono HB.out.size))
      have hFe := (HF.out.below hb0).read hlt
      obtain ⟨p, p', e2, e3, -⟩ := hFe
      have s0 : W0.cell? ⟨g, k * 2, none⟩ = some (.slice A3 n c3) := (hb0.cell (p := ⟨g, k * 2, none⟩) HF.out.lt).trans e0
      have s1 : W0.cell? ⟨g, k * 2 + 1, none⟩ = some (.slice A4 n c4) := (hb0.cell (p := ⟨g, k * 2 + 1, none⟩) HF.out.lt).trans e1
      clear r3 r4 o hz q1 q2 hb0 hbq e2 e3 hl1 hl2
      by_cases hs : formIs t f bt bf k
      · have HD : Hid (cmpM bt bf (formT t f k) (formF t f k) = 0) := hcm.2 hs
        have HS := Lib.hid hs; clear hcm hs
        go_wp2_with fail
        refine (compare_lit _ y wr.heap.size B B' A3 A4 n d d' c3 c4 bt bf _ _ (HY.out.below HBW.out) HQ1.out (K.out.below HBW.out) (K'.out.below HBW.out) HR3.out HR4.out hn12 HD.out).mono ?_
        rintro e w2 ⟨rfl, bl⟩
        have HB2 := Lib.hid (HBW.out.trans (bl.mono HBW.out.size))
        have HF2 := Lib.hid (HF.out.below (HBQ.out.trans (bl.mono HBQ.out.size)))
        clear bl z0 z1 z2 z3
        go_wp2
        go_roundw
        case rel => exact ⟨k + 1, by omega, by rw [timesTo_yes HS.out]; go_num, by go_num, HB2.out, HF2.out⟩
        case measure => simp [intOf]; omega
      · obtain ⟨r, hr⟩ : ∃ r, cmpM bt bf (formT t f k) (formF t f k) = r := ⟨_, rfl⟩
        have hd : (r == 0) = false := by rw [← hr]; simpa using fun e => hs (hcm.1 e)
        have HD := Lib.hid hr
        have HS := Lib.hid hs; clear hcm hs hr
        go_wp2_with fail
        refine (compare_lit _ y wr.heap.size B B' A3 A4 n d d' c3 c4 bt bf _ _ (HY.out.below HBW.out) HQ1.out (K.out.below HBW.out) (K'.out.below HBW.out) HR3.out HR4.out hn12 HD.out).mono ?_
        rintro e w2 ⟨rfl, bl⟩
        have HB2 := Lib.hid (HBW.out.trans (bl.mono HBW.out.size))
        have HF2 := Lib.hid (HF.out.below (HBQ.out.trans (bl.mono HBQ.out.size)))
        clear bl z0 z1 z2 z3
        go_wp2
        go_roundw
        case rel => exact ⟨k + 1, by omega, by rw [timesTo_no HS.out], by go_num, HB2.out, HF2.out⟩
        case measure => simp [intOf]; omega
    · have hkn : k = n := by omega
      have HK := Lib.hid hkn; clear hkn
      go_wp2
      go_ret
      exact ⟨ret_int (by rw [HK.out]), HB.out⟩

end Go.Proofs.Ytakckkmhhedfpaa

namespace Go.Proofs.Ytakckkmhhedfpaa
open Go.RowKit

/-- Which of the forms from the darts 0 to k is the first of the least. -/
def leastTo (t f : List Int) : Nat → Nat
  | 0 => 0
  | k + 1 => if cmpM (formT t f (k + 1)) (formF t f (k + 1)) (formT t f (leastTo t f k)) (formF t f (leastTo t f k)) < 0 then k + 1 else leastTo t f k
theorem leastTo_le (t f : List Int) : ∀ k, leastTo t f k ≤ k
  | 0 => Nat.le_refl _
  | k + 1 => by
    have := leastTo_le t f k
    rw [leastTo]
    split <;> omega
theorem leastTo_yes {t f : List Int} {k : Nat} (hk : 1 ≤ k) (h : cmpM (formT t f k) (formF t f k) (formT t f (leastTo t f (k - 1))) (formF t f (leastTo t f (k - 1))) < 0) : leastTo t f k = k := by
  obtain ⟨j, rfl⟩ : ∃ j, k = j + 1 := ⟨k - 1, by omega⟩
  rw [Nat.add_sub_cancel] at h
  rw [leastTo, if_pos h]
theorem leastTo_no {t f : List Int} {k : Nat} (hk : 1 ≤ k) (h : ¬ cmpM (formT t f k) (formF t f k) (formT t f (leastTo t f (k - 1))) (formF t f (leastTo t f (k - 1))) < 0) : leastTo t f k = leastTo t f (k - 1) := by
  obtain ⟨j, rfl⟩ : ∃ j, k = j + 1 := ⟨k - 1, by omega⟩
  rw [Nat.add_sub_cancel] at h ⊢
  rw [leastTo, if_neg h]
noncomputable def leastR (t f : List Int) : Bool × List Int × List Int := if mapV t f = true then (true, formT t f (leastTo t f (t.length - 1)), formF t f (leastTo t f (t.length - 1))) else (false, [], [])
theorem leastR_len {t f yt yf : List Int} {ok : Bool} (h : leastR t f = (ok, yt, yf)) : yt.length ≤ 12 ∧ yf.length ≤ 12 := by
  unfold leastR at h
  split at h
  · rename_i hb
    injection h with _ h; injection h with h1 h2
    have hm := mapV_iff.1 hb
    have h1' := hm.turn.1
    have hl := leastTo_le t f (t.length - 1)
    rw [← h1, ← h2, formT_len hm (by omega), formF_len hm (by omega)]; exact ⟨hm.turn.2.1, hm.turn.2.1⟩
  · injection h with _ h; injection h with h1 h2; rw [← h1, ← h2]; simp

theorem OwnM.set {w : World} {lo g : Nat} {u u' v v' : Value} {t f : List Int} (o : OwnM w lo u u' t f) (h1 : ∀ b, u.ownBlock = some b → b ≠ g) (h2 : ∀ b, u'.ownBlock = some b → b ≠ g) :
    OwnM ((w.setCell ⟨g, 0, none⟩ v).setCell ⟨g, 1, none⟩ v') lo u u' t f := by
  have hc : Chg g (g + 1) w ((w.setCell ⟨g, 0, none⟩ v).setCell ⟨g, 1, none⟩ v') := Chg.of_grown (grownBy_trans (grown_set _ _ _ _) (grown_set _ _ _ _)) (fun b e => by cases e; omega)
  exact o.chg hc (fun b hb => by have := h1 b hb; omega) (fun b hb => by have := h2 b hb; omega)

/-- A variable, apart from the lists that it names, that holds a map. -/
structure Best (w : World) (lo g : Nat) (n : Nat) (t f : List Int) (u u' : Value) : Prop where
  box : Box w g 35 u u'
  own : OwnM w lo u u' t f
  one : ∀ b, u.ownBlock = some b → b ≠ g
  two : ∀ b, u'.ownBlock = some b → b ≠ g
theorem Best.below {w w' : World} {lo g n : Nat} {t f : List Int} {u u' : Value} (h : Best w lo g n t f u u') (hb : Below w.heap.size w w') : Best w' lo g n t f u u' := ⟨h.box.below hb, h.own.below hb, h.one, h.two⟩

set_option maxHeartbeats 3200000 in
theorem l2Least_any (w : World) (A A' : Option Addr) (n c c' : Nat) (t f : List Int) (h : Rd w A n t) (h' : Rd w A' n f) (hm : IsMap t f) :
    Calls Try.prog 77 #[.agg #[.slice A n c, .slice A' n c']] w fun e w' => ∃ u u', e = .returned (.agg #[u, u']) ∧ OwnM w' w.heap.size u u' (formT t f (leastTo t f (n - 1))) (formF t f (leastTo t f (n - 1))) ∧ Below w.heap.size w w' := by
  have hn12 : n ≤ 12 := by rw [← h.1]; exact hm.turn.2.1
  have hn1 : 0 < n := by rw [← h.1]; exact hm.turn.1
  have HLT : Hid (∀ k, k < n → (formT t f k).length = n) := fun k hk => (formT_len hm (by rw [h.1]; exact hk)).trans h.1
  have HLF : Hid (∀ k, k < n → (formF t f k).length = n) := fun k hk => (formF_len hm (by rw [h.1]; exact hk)).trans h.1
  obtain ⟨W0, hW0, hx, hy, hbl, hz⟩ := two_boxes w 35 35 (.slice A n c) (.slice A' n c') (.slice none 0 0) (.slice none 0 0)
  have c0 := hx.cell0
  have c1 := hx.cell1
  have HX := Lib.hid hx; have HY := Lib.hid hy; have HB := Lib.hid hbl; have HZ := Lib.hid hz; have H := Lib.hid h; have H' := Lib.hid h'; have HM := Lib.hid hm; clear hx hy hbl hz h h' hm
  go_enter Try.func77, Try.ntmps77
  go_wp2_with fail
  refine (l2Form_any W0 A A' n c c' 0 t f (H.out.below HB.out) (H'.out.below HB.out) HM.out hn1).mono ?_
  rintro e w1 ⟨u, u', rfl, o, bl⟩
  obtain ⟨A3, c3, A4, c4, rfl, rfl, -, -⟩ := o.form (HLT.out 0 hn1) (HLF.out 0 hn1)
  obtain ⟨W3, hW3, hz, hb3, hs3⟩ := Box.local_ w1 35 (.slice none 0 0) (.slice none 0 0)
  have z0 := hz.cell0; have z1 := hz.cell1; have z2 := hz.frozen 0; have z3 := hz.frozen 1
  obtain ⟨q1, q2⟩ := hz.store2 (.slice A3 n c3) (.slice A4 n c4)
  obtain ⟨g, hg⟩ : ∃ g, w1.heap.size = g := ⟨_, rfl⟩
  have hbq : Below w1.heap.size w1 ((W3.setCell ⟨w1.heap.size, 0, none⟩ (.slice A3 n c3)).setCell ⟨w1.heap.size, 1, none⟩ (.slice A4 n c4)) := hb3.grown q2 hb3.size (fun k hk => by cases hk; omega)
  have hlt1 := o.turn.lt; have hlt2 := o.flip.lt
  have HBE : Hid (Best ((W3.setCell ⟨w1.heap.size, 0, none⟩ (.slice A3 n c3)).setCell ⟨w1.heap.size, 1, none⟩ (.slice A4 n c4)) W0.heap.size w1.heap.size n (formT t f (leastTo t f 0)) (formF t f (leastTo t f 0)) (.slice A3 n c3) (.slice A4 n c4)) :=
    ⟨q1, o.below hbq, fun b hb => by have := hlt1 b hb; omega, fun b hb => by have := hlt2 b hb; omega⟩
  have HB0 : Hid (Below W0.heap.size W0 ((W3.setCell ⟨w1.heap.size, 0, none⟩ (.slice A3 n c3)).setCell ⟨w1.heap.size, 1, none⟩ (.slice A4 n c4))) := bl.trans (hbq.mono bl.size)
  have HGS : Hid (W0.heap.size ≤ w1.heap.size) := bl.size
  clear hlt1 hlt2 hbq q1 q2 hz hb3 hs3 o bl hg g
  go_wp2_with fail
  go_loopw [4] (fun i wr => ∃ (k : Nat) (B B' : Option Addr) (d d' : Nat), 1 ≤ k ∧ k ≤ n ∧ i = .int .i64 k ∧ Below W0.heap.size W0 wr ∧ Best wr W0.heap.size w1.heap.size n (formT t f (leastTo t f (k - 1))) (formF t f (leastTo t f (k - 1))) (.slice B n d) (.slice B' n d')) (fun i _ => n - (intOf i).toNat)
  case atStart => exact ⟨1, A3, A4, c3, c4, Nat.le_refl _, hn1, rfl, HB0.out, HBE.out⟩
  case round =>
    clear z0 z1 z2 z3 c0 c1
    obtain ⟨k, B, B', d, d', hk1, hk, rfl, hb, hbe⟩ := hrel
    have HBr := Lib.hid hb; have HBE2 := Lib.hid hbe; clear hb hbe
    have c0 := (HX.out.below HBr.out).cell0
    have c1 := (HX.out.below HBr.out).cell1
    have HB2 := Lib.hid (HB.out.trans (HBr.out.mono HB.out.size))
    have hle := leastTo_le t f (k - 1)
    by_cases hlt : k < n
    · go_wp2_with fail
      refine (l2Form_any _ A A' n c c' k t f (H.out.below HB2.out) (H'.out.below HB2.out) HM.out hlt).mono ?_
      rintro e w2 ⟨v, v', rfl, o, bl⟩
      obtain ⟨A5, c5, A6, c6, rfl, rfl, r5, r6⟩ := o.form (HLT.out k hlt) (HLF.out k hlt)
      obtain ⟨W4, hW4, hz, hb4, hs4⟩ := Box.local_ w2 35 (.slice none 0 0) (.slice none 0 0)
      have z0 := hz.cell0; have z1 := hz.cell1; have z2 := hz.frozen 0; have z3 := hz.frozen 1
      obtain ⟨q1, q2⟩ := hz.store2 (.slice A5 n c5) (.slice A6 n c6)
      have hbq : Below w2.heap.size w2 ((W4.setCell ⟨w2.heap.size, 0, none⟩ (.slice A5 n c5)).setCell ⟨w2.heap.size, 1, none⟩ (.slice A6 n c6)) := hb4.grown q2 hb4.size (fun k hk => by cases hk; omega)
      have x0 := q1.cell0; have x1 := q1.cell1
      have hbe := (HBE2.out.below bl).below hbq
      have y0 := hbe.box.cell0; have y1 := hbe.box.cell1
      have HO5 := Lib.hid ((o.below hbq).mono HBr.out.size)
      have HO5s : Hid (∀ b, (Value.slice A5 n c5).ownBlock = some b → wr.heap.size ≤ b) := fun b hb => (o.turn.lt b hb).1
      have HO6s : Hid (∀ b, (Value.slice A6 n c6).ownBlock = some b → wr.heap.size ≤ b) := fun b hb => (o.flip.lt b hb).1
      have HR5 := Lib.hid (r5.below hbq); have HR6 := Lib.hid (r6.below hbq)
      have HBE3 := Lib.hid hbe
      have HQ1 := Lib.hid q1
      have HBr2 := HBr.out.trans (bl.mono HBr.out.size)
      have HBr3 := Lib.hid (HBr2.trans (hbq.mono HBr2.size))
      have hgw : w1.heap.size < wr.heap.size := HBE2.out.box.lt
      obtain ⟨B3, d3, B4, d4, e3, e4, r7, r8⟩ := hbe.own.form (HLT.out _ (by omega)) (HLF.out _ (by omega))
      injection e3 with e31 e32 e33; injection e4 with e41 e42 e43
      subst e31; subst e33; subst e41; subst e43
      have HR7 := Lib.hid r7; have HR8 := Lib.hid r8
      clear o bl hz hb4 hs4 q1 q2 hbq hbe HBr2 r5 r6 r7 r8
      by_cases hs : cmpM (formT t f k) (formF t f k) (formT t f (leastTo t f (k - 1))) (formF t f (leastTo t f (k - 1))) < 0
      · have HL := Lib.hid (leastTo_yes hk1 hs)
        obtain ⟨r, hr⟩ : ∃ r, cmpM (formT t f k) (formF t f k) (formT t f (leastTo t f (k - 1))) (formF t f (leastTo t f (k - 1))) = r := ⟨_, rfl⟩
        rw [hr] at hs
        have HR := Lib.hid hr; clear hr
        go_wp2_with fail
        refine (l2Before_lit _ A5 A6 B B' n c5 c6 d d' _ _ _ _ HR5.out HR6.out HR7.out HR8.out hn12 HR.out).mono ?_
        rintro e w5 ⟨rfl, bl⟩
        have hbe := HBE3.out.below bl
        have HBr4 := Lib.hid (HBr3.out.trans (bl.mono HBr3.out.size))
        have x0 := (HQ1.out.below bl).cell0; have x1 := (HQ1.out.below bl).cell1
        have y0 := hbe.box.cell0; have y1 := hbe.box.cell1; have y2 := hbe.box.frozen 0; have y3 := hbe.box.frozen 1
        have HBEn : Hid (Best ((w5.setCell ⟨w1.heap.size, 0, none⟩ (.slice A5 n c5)).setCell ⟨w1.heap.size, 1, none⟩ (.slice A6 n c6)) W0.heap.size w1.heap.size n (formT t f (leastTo t f (k + 1 - 1))) (formF t f (leastTo t f (k + 1 - 1))) (.slice A5 n c5) (.slice A6 n c6)) := by
          have n1 : ∀ b, (Value.slice A5 n c5).ownBlock = some b → b ≠ w1.heap.size := fun b hb => by have := HO5s.out b hb; omega
          have n2 : ∀ b, (Value.slice A6 n c6).ownBlock = some b → b ≠ w1.heap.size := fun b hb => by have := HO6s.out b hb; omega
          rw [Nat.add_sub_cancel, HL.out]
          exact ⟨(hbe.box.store2 _ _).1, (HO5.out.below bl).set n1 n2, n1, n2⟩
        have HBn := Lib.hid ((HBr4.out.setCell (p := ⟨w1.heap.size, 0, none⟩) HGS.out (.slice A5 n c5)).setCell (p := ⟨w1.heap.size, 1, none⟩) HGS.out (.slice A6 n c6))
        clear hbe bl z0 z1 z2 z3
        go_wp2
        go_roundw
        case rel => exact ⟨k + 1, A5, A6, c5, c6, by omega, by omega, by go_num, HBn.out, HBEn.out⟩
        case measure => simp [intOf]; omega
      · have HL := Lib.hid (leastTo_no hk1 hs)
        obtain ⟨r, hr⟩ : ∃ r, cmpM (formT t f k) (formF t f k) (formT t f (leastTo t f (k - 1))) (formF t f (leastTo t f (k - 1))) = r := ⟨_, rfl⟩
        rw [hr] at hs
        have HR := Lib.hid hr; clear hr
        go_wp2_with fail
        refine (l2Before_lit _ A5 A6 B B' n c5 c6 d d' _ _ _ _ HR5.out HR6.out HR7.out HR8.out hn12 HR.out).mono ?_
        rintro e w5 ⟨rfl, bl⟩
        have hbe := HBE3.out.below bl
        have HBr4 := Lib.hid (HBr3.out.trans (bl.mono HBr3.out.size))
        have HBEn : Hid (Best w5 W0.heap.size w1.heap.size n (formT t f (leastTo t f (k + 1 - 1))) (formF t f (leastTo t f (k + 1 - 1))) (.slice B n d) (.slice B' n d')) := by
          rw [Nat.add_sub_cancel, HL.out]; exact hbe
        clear hbe bl z0 z1 z2 z3
        go_wp2
        go_roundw
        case rel => exact ⟨k + 1, B, B', d, d', by omega, by omega, by go_num, HBr4.out, HBEn.out⟩
        case measure => simp [intOf]; omega
    · have hkn : k = n := by omega
      have HK := Lib.hid hkn; clear hkn
      have hy := HY.out.below HBr.out
      have e0 := hy.cell0; have e1 := hy.cell1; have e2 := hy.frozen 0; have e3 := hy.frozen 1
      have y0 := HBE2.out.box.cell0; have y1 := HBE2.out.box.cell1
      obtain ⟨hq1, hq2⟩ := hy.store2 (.slice B n d) (.slice B' n d')
      have k0 := hq1.cell0; have k1 := hq1.cell1
      have hs2 := HZ.out
      have HD := Lib.hid (pair_done HBE2.out.own.turn HBE2.out.own.flip HBE2.out.own.apart HB2.out hq2 (by omega) (by omega))
      clear hq1 hq2 hy
      go_wp2_with fail
      exact bodyPost_ret (v := .agg #[.slice B n d, .slice B' n d']) (by simp [results, Try.results77, go_sem, k0, k1]) rfl ⟨_, _, rfl, by have h1 := HD.out.1; rw [HK.out] at h1; exact h1, HD.out.2⟩

end Go.Proofs.Ytakckkmhhedfpaa
