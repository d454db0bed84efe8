/-
  MapSame: the model's.
-/
import Derived.Test.YteajaikgeephmaaSameB
import Derived.Deep.RegionHeld3
namespace Go.Proofs.Yteajaikgeephmaa
open Go.RowKit

set_option maxHeartbeats 3200000 in
theorem spec_sameM (w : World) (A A' : Option Addr) (n n' c c' : Nat) (t f : List Int) (h : Rd w A n t) (h' : Rd w A' n' f) (hn : n ≤ 1048576) (hn' : n' ≤ 1048576) (B B' : Option Addr) (m m' d d' : Nat) (t2 f2 : List Int) (k : Rd w B m t2) (k' : Rd w B' m' f2) (hm : m ≤ 1048576) (hm' : m' ≤ 1048576) (hv0 : mapV t f = true) {r : Bool} (hR : sameR t f t2 f2 = r) :
    Calls Try.prog 49 #[.agg #[.slice A n c, .slice A' n' c'], .agg #[.slice B m d, .slice B' m' d']] w fun e w' => e = .returned (.bool r) ∧ Below w.heap.size w w' := by
  obtain ⟨W0, hW0, hx, hy, hbl, hz⟩ := two_boxes w 35 35 (.slice A n c) (.slice A' n' c') (.slice B m d) (.slice B' m' d')
  have c0 := hx.cell0
  have c1 := hx.cell1
  have d0 := hy.cell0
  have d1 := hy.cell1
  have HX := Lib.hid hx; have HY := Lib.hid hy; have HB := Lib.hid hbl; have H := Lib.hid h; have H' := Lib.hid h'; have K := Lib.hid k; have K' := Lib.hid k'; clear hx hy hbl hz h h' k k'
  by_cases hv : mapV t f = true
  · by_cases hv2 : mapV t2 f2 = true
    · have hi := mapV_iff.1 hv
      have hi2 := mapV_iff.1 hv2
      obtain rfl : n = n' := hi.same H.out.1 H'.out.1
      obtain rfl : m = m' := hi2.same K.out.1 K'.out.1
      have hn12 : n ≤ 12 := by rw [← H.out.1]; exact hi.turn.2.1
      have hm12 : m ≤ 12 := by rw [← K.out.1]; exact hi2.turn.2.1
      have hn1 : 0 < n := by rw [← H.out.1]; exact hi.turn.1
      have hm1 : 0 < m := by rw [← K.out.1]; exact hi2.turn.1
      have HV := Lib.hid hv; have HV2 := Lib.hid hv2; have HM := Lib.hid hi; have HM2 := Lib.hid hi2
      by_cases hl : t.length = t2.length
      · obtain rfl : n = m := by rw [← H.out.1, ← K.out.1]; exact hl
        have hls := least_same hi hi2 hl
        by_cases hs : ∃ y, y < t2.length ∧ formIs t2 f2 (formT t f 0) (formF t f 0) y
        · obtain rfl : true = r := by rw [← hR, sameR_yes hv hv2 hl hs]
          clear hR hv hv2 hi hi2
          have HLT : Hid ((formT t f (leastTo t f (n - 1))).length = n) := (formT_len HM.out (by have := leastTo_le t f (n - 1); rw [H.out.1]; omega)).trans H.out.1
          have HLF : Hid ((formF t f (leastTo t f (n - 1))).length = n) := (formF_len HM.out (by have := leastTo_le t f (n - 1); rw [H.out.1]; omega)).trans H.out.1
          have HLT2 : Hid ((formT t2 f2 (leastTo t2 f2 (n - 1))).length = n) := (formT_len HM2.out (by have := leastTo_le t2 f2 (n - 1); rw [K.out.1]; omega)).trans K.out.1
          have HLF2 : Hid ((formF t2 f2 (leastTo t2 f2 (n - 1))).length = n) := (formF_len HM2.out (by have := leastTo_le t2 f2 (n - 1); rw [K.out.1]; omega)).trans K.out.1
          rw [H.out.1, K.out.1] at hls
          rw [K.out.1] at hs
          have HQ : Hid (cmpM (formT t f (leastTo t f (n - 1))) (formF t f (leastTo t f (n - 1))) (formT t2 f2 (leastTo t2 f2 (n - 1))) (formF t2 f2 (leastTo t2 f2 (n - 1))) = 0) := hls.2 hs
          clear hls hs hl
          go_enter Try.func49, Try.ntmps49
          go_wp2_with fail
          go_region_held3 (fun w' => w'.cell? ⟨w.heap.size, 0, none⟩ = some (.slice A n c) ∧ w'.cell? ⟨w.heap.size, 1, none⟩ = some (.slice A' n c') ∧ w'.cell? ⟨w.heap.size + 1, 0, none⟩ = some (.slice B n d) ∧ w'.cell? ⟨w.heap.size + 1, 1, none⟩ = some (.slice B' n d')) (first | go_keep | exact ⟨(HX.out.below BL5.out).cell0, (HX.out.below BL5.out).cell1, (HY.out.below BL5.out).cell0, (HY.out.below BL5.out).cell1⟩ | exact ⟨(HX.out.below BL4.out).cell0, (HX.out.below BL4.out).cell1, (HY.out.below BL4.out).cell0, (HY.out.below BL4.out).cell1⟩ | exact ⟨(HX.out.below BL3.out).cell0, (HX.out.below BL3.out).cell1, (HY.out.below BL3.out).cell0, (HY.out.below BL3.out).cell1⟩ | exact ⟨(HX.out.below BL2.out).cell0, (HX.out.below BL2.out).cell1, (HY.out.below BL2.out).cell0, (HY.out.below BL2.out).cell1⟩ | exact ⟨(HX.out.below BL1.out).cell0, (HX.out.below BL1.out).cell1, (HY.out.below BL1.out).cell0, (HY.out.below BL1.out).cell1⟩) (first
            | (have hchk := BL1.out; clear hchk; go_at_call 23; refine (spec_mapV _ B B' n n d d' t2 f2 (K.out.below HBa.out) (K'.out.below HBa.out) hm hm' HV2.out).mono ?_; rintro e w2 ⟨rfl, bl⟩; have BL2 : Hid (Below W0.heap.size W0 w2) := BL1.out.trans (bl.mono BL1.out.size); have HBb : Hid (Below w.heap.size w w2) := HB.out.trans (BL2.out.mono HB.out.size); have xb0 := (HX.out.below BL2.out).cell0; have xb1 := (HX.out.below BL2.out).cell1; have yb0 := (HY.out.below BL2.out).cell0; have yb1 := (HY.out.below BL2.out).cell1; clear bl)
            | (go_at_call 23; refine (spec_mapV _ A A' n n c c' t f ((H.out.below HB.out).drewN _) ((H'.out.below HB.out).drewN _) hn hn' HV.out).mono ?_; rintro e w1 ⟨rfl, bl⟩; have BL1 : Hid (Below W0.heap.size W0 w1) := Below.of_drewN bl; have HBa : Hid (Below w.heap.size w w1) := HB.out.trans (BL1.out.mono HB.out.size); have xa0 := (HX.out.below BL1.out).cell0; have xa1 := (HX.out.below BL1.out).cell1; have ya0 := (HY.out.below BL1.out).cell0; have ya1 := (HY.out.below BL1.out).cell1; clear bl)
            | (have hchk := BL3.out; clear hchk; go_at_call 95; refine (l2Least_any _ B B' n d d' t2 f2 (K.out.below HBc.out) (K'.out.below HBc.out) HM2.out).mono ?_; rintro e w4 ⟨v, v', rfl, o, bl⟩; obtain ⟨A5, c5, A6, c6, rfl, rfl, r5, r6⟩ := o.form HLT2.out HLF2.out; have BL4 : Hid (Below W0.heap.size W0 w4) := BL3.out.trans (bl.mono BL3.out.size); have R3' := Lib.hid (R3.out.below bl); have R4' := Lib.hid (R4.out.below bl); have R5 := Lib.hid r5; have R6 := Lib.hid r6; clear o bl r5 r6)
            | (go_at_call 95; refine (l2Least_any _ A A' n c c' t f (H.out.below HBb.out) (H'.out.below HBb.out) HM.out).mono ?_; rintro e w3 ⟨v, v', rfl, o, bl⟩; obtain ⟨A3, c3, A4, c4, rfl, rfl, r3, r4⟩ := o.form HLT.out HLF.out; have BL3 : Hid (Below W0.heap.size W0 w3) := BL2.out.trans (bl.mono BL2.out.size); have HBc : Hid (Below w.heap.size w w3) := HB.out.trans (BL3.out.mono HB.out.size); have R3 := Lib.hid r3; have R4 := Lib.hid r4; clear o bl r3 r4)
            | (go_at_call 94; refine (l2Before_lit _ A3 A4 A5 A6 n c3 c4 c5 c6 _ _ _ _ R3'.out R4'.out R5.out R6.out hn12 HQ.out).mono ?_; rintro e w5 ⟨rfl, bl⟩; have BL5 : Hid (Below W0.heap.size W0 w5) := BL4.out.trans (bl.mono BL4.out.size); clear bl))
          all_goals
            go_wp2
            go_ret
            exact ⟨rfl, HB.out.trans (BL5.out.mono HB.out.size)⟩
        · obtain rfl : false = r := by rw [← hR, sameR_no (fun e => hs e.2.2.2)]
          clear hR hv hv2 hi hi2
          have HLT : Hid ((formT t f (leastTo t f (n - 1))).length = n) := (formT_len HM.out (by have := leastTo_le t f (n - 1); rw [H.out.1]; omega)).trans H.out.1
          have HLF : Hid ((formF t f (leastTo t f (n - 1))).length = n) := (formF_len HM.out (by have := leastTo_le t f (n - 1); rw [H.out.1]; omega)).trans H.out.1
          have HLT2 : Hid ((formT t2 f2 (leastTo t2 f2 (n - 1))).length = n) := (formT_len HM2.out (by have := leastTo_le t2 f2 (n - 1); rw [K.out.1]; omega)).trans K.out.1
          have HLF2 : Hid ((formF t2 f2 (leastTo t2 f2 (n - 1))).length = n) := (formF_len HM2.out (by have := leastTo_le t2 f2 (n - 1); rw [K.out.1]; omega)).trans K.out.1
          rw [H.out.1, K.out.1] at hls
          rw [K.out.1] at hs
          obtain ⟨q, hq⟩ : ∃ q, cmpM (formT t f (leastTo t f (n - 1))) (formF t f (leastTo t f (n - 1))) (formT t2 f2 (leastTo t2 f2 (n - 1))) (formF t2 f2 (leastTo t2 f2 (n - 1))) = q := ⟨_, rfl⟩
          have hd : (q == 0) = false := by rw [← hq]; simpa using fun e => hs (hls.1 e)
          have HQ := Lib.hid hq
          clear hls hs hl hq
          go_enter Try.func49, Try.ntmps49
          go_wp2_with fail
          go_region_held3 (fun w' => w'.cell? ⟨w.heap.size, 0, none⟩ = some (.slice A n c) ∧ w'.cell? ⟨w.heap.size, 1, none⟩ = some (.slice A' n c') ∧ w'.cell? ⟨w.heap.size + 1, 0, none⟩ = some (.slice B n d) ∧ w'.cell? ⟨w.heap.size + 1, 1, none⟩ = some (.slice B' n d')) (first | go_keep | exact ⟨(HX.out.below BL5.out).cell0, (HX.out.below BL5.out).cell1, (HY.out.below BL5.out).cell0, (HY.out.below BL5.out).cell1⟩ | exact ⟨(HX.out.below BL4.out).cell0, (HX.out.below BL4.out).cell1, (HY.out.below BL4.out).cell0, (HY.out.below BL4.out).cell1⟩ | exact ⟨(HX.out.below BL3.out).cell0, (HX.out.below BL3.out).cell1, (HY.out.below BL3.out).cell0, (HY.out.below BL3.out).cell1⟩ | exact ⟨(HX.out.below BL2.out).cell0, (HX.out.below BL2.out).cell1, (HY.out.below BL2.out).cell0, (HY.out.below BL2.out).cell1⟩ | exact ⟨(HX.out.below BL1.out).cell0, (HX.out.below BL1.out).cell1, (HY.out.below BL1.out).cell0, (HY.out.below BL1.out).cell1⟩) (first
            | (have hchk := BL1.out; clear hchk; go_at_call 23; refine (spec_mapV _ B B' n n d d' t2 f2 (K.out.below HBa.out) (K'.out.below HBa.out) hm hm' HV2.out).mono ?_; rintro e w2 ⟨rfl, bl⟩; have BL2 : Hid (Below W0.heap.size W0 w2) := BL1.out.trans (bl.mono BL1.out.size); have HBb : Hid (Below w.heap.size w w2) := HB.out.trans (BL2.out.mono HB.out.size); have xb0 := (HX.out.below BL2.out).cell0; have xb1 := (HX.out.below BL2.out).cell1; have yb0 := (HY.out.below BL2.out).cell0; have yb1 := (HY.out.below BL2.out).cell1; clear bl)
            | (go_at_call 23; refine (spec_mapV _ A A' n n c c' t f ((H.out.below HB.out).drewN _) ((H'.out.below HB.out).drewN _) hn hn' HV.out).mono ?_; rintro e w1 ⟨rfl, bl⟩; have BL1 : Hid (Below W0.heap.size W0 w1) := Below.of_drewN bl; have HBa : Hid (Below w.heap.size w w1) := HB.out.trans (BL1.out.mono HB.out.size); have xa0 := (HX.out.below BL1.out).cell0; have xa1 := (HX.out.below BL1.out).cell1; have ya0 := (HY.out.below BL1.out).cell0; have ya1 := (HY.out.below BL1.out).cell1; clear bl)
            | (have hchk := BL3.out; clear hchk; go_at_call 95; refine (l2Least_any _ B B' n d d' t2 f2 (K.out.below HBc.out) (K'.out.below HBc.out) HM2.out).mono ?_; rintro e w4 ⟨v, v', rfl, o, bl⟩; obtain ⟨A5, c5, A6, c6, rfl, rfl, r5, r6⟩ := o.form HLT2.out HLF2.out; have BL4 : Hid (Below W0.heap.size W0 w4) := BL3.out.trans (bl.mono BL3.out.size); have R3' := Lib.hid (R3.out.below bl); have R4' := Lib.hid (R4.out.below bl); have R5 := Lib.hid r5; have R6 := Lib.hid r6; clear o bl r5 r6)
            | (go_at_call 95; refine (l2Least_any _ A A' n c c' t f (H.out.below HBb.out) (H'.out.below HBb.out) HM.out).mono ?_; rintro e w3 ⟨v, v', rfl, o, bl⟩; obtain ⟨A3, c3, A4, c4, rfl, rfl, r3, r4⟩ := o.form HLT.out HLF.out; have BL3 : Hid (Below W0.heap.size W0 w3) := BL2.out.trans (bl.mono BL2.out.size); have HBc : Hid (Below w.heap.size w w3) := HB.out.trans (BL3.out.mono HB.out.size); have R3 := Lib.hid r3; have R4 := Lib.hid r4; clear o bl r3 r4)
            | (go_at_call 94; refine (l2Before_lit _ A3 A4 A5 A6 n c3 c4 c5 c6 _ _ _ _ R3'.out R4'.out R5.out R6.out hn12 HQ.out).mono ?_; rintro e w5 ⟨rfl, bl⟩; have BL5 : Hid (Below W0.heap.size W0 w5) := BL4.out.trans (bl.mono BL4.out.size); clear bl))
          all_goals
            go_wp2
            go_ret
            exact ⟨rfl, HB.out.trans (BL5.out.mono HB.out.size)⟩
      · obtain rfl : false = r := by rw [← hR, sameR_no (fun e => hl e.2.2.1)]
        have hnm : n ≠ m := by rw [← H.out.1, ← K.out.1]; exact hl
        clear hR hv hv2 hi hi2 hl
        have hd : ((n : Int) == m) = false := by simp; omega
        go_enter Try.func49, Try.ntmps49
        go_wp2_with fail
        first | (go_region_with (first
          | (have hchk := BL1.out; clear hchk; go_at_call 23; refine (spec_mapV _ B B' m m d d' t2 f2 (K.out.below HBa.out) (K'.out.below HBa.out) hm hm' HV2.out).mono ?_; rintro e w2 ⟨rfl, bl⟩; have BL2 : Hid (Below W0.heap.size W0 w2) := BL1.out.trans (bl.mono BL1.out.size); have HBb : Hid (Below w.heap.size w w2) := HB.out.trans (BL2.out.mono HB.out.size); have xb0 := (HX.out.below BL2.out).cell0; have xb1 := (HX.out.below BL2.out).cell1; have yb0 := (HY.out.below BL2.out).cell0; have yb1 := (HY.out.below BL2.out).cell1; clear bl)
          | (go_at_call 23; refine (spec_mapV _ A A' n n c c' t f ((H.out.below HB.out).drewN _) ((H'.out.below HB.out).drewN _) hn hn' HV.out).mono ?_; rintro e w1 ⟨rfl, bl⟩; have BL1 : Hid (Below W0.heap.size W0 w1) := Below.of_drewN bl; have HBa : Hid (Below w.heap.size w w1) := HB.out.trans (BL1.out.mono HB.out.size); have xa0 := (HX.out.below BL1.out).cell0; have xa1 := (HX.out.below BL1.out).cell1; have ya0 := (HY.out.below BL1.out).cell0; have ya1 := (HY.out.below BL1.out).cell1; clear bl))) | fail
        all_goals
          go_wp2
          go_ret
          exact ⟨rfl, HB.out.trans (BL2.out.mono HB.out.size)⟩
    · obtain rfl : false = r := by rw [← hR, sameR_no (fun e => hv2 e.2.1)]
      exact spec_sameB w A A' n n' c c' t f H.out H'.out hn hn' B B' m m' d d' t2 f2 K.out K'.out hm hm' hv (Bool.eq_false_iff.2 hv2)
  · exact absurd hv0 hv

end Go.Proofs.Yteajaikgeephmaa
