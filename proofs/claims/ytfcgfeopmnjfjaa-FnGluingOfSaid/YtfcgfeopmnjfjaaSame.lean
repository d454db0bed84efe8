/-
  MapSame: the program's.
-/
import Derived.Test.YtfcgfeopmnjfjaaSameD
import Derived.Test.YtfcgfeopmnjfjaaNe
import Derived.Deep.RegionHeld3
namespace Go.Proofs.Ytfcgfeopmnjfjaa
open Go.RowKit

set_option maxHeartbeats 3200000 in
theorem impl_sameR (w : World) (A A' : Option Addr) (n n' c c' : Nat) (t f : List Int) (h : Rd w A n t) (h' : Rd w A' n' f) (hn : n ≤ 1048576) (hn' : n' ≤ 1048576) (B B' : Option Addr) (m m' d d' : Nat) (t2 f2 : List Int) (k : Rd w B m t2) (k' : Rd w B' m' f2) (hm : m ≤ 1048576) (hm' : m' ≤ 1048576) {r : Bool} (hR : sameR t f t2 f2 = r) :
    Calls Try.prog 54 #[.agg #[.slice A n c, .slice A' n' c'], .agg #[.slice B m d, .slice B' m' d']] w fun e w' => e = .returned (.bool r) ∧ Below w.heap.size w w' := by
  obtain ⟨W0, hW0, hx, hy, hbl, hz⟩ := two_boxes w 36 36 (.slice A n c) (.slice A' n' c') (.slice B m d) (.slice B' m' d')
  have c0 := hx.cell0
  have c1 := hx.cell1
  have d0 := hy.cell0
  have d1 := hy.cell1
  have HX := Lib.hid hx; have HY := Lib.hid hy; have HB := Lib.hid hbl; have H := Lib.hid h; have H' := Lib.hid h'; have K := Lib.hid k; have K' := Lib.hid k'; clear hx hy hbl hz h h' k k'
  by_cases hv : mapV t f = true
  · by_cases hv2 : mapV t2 f2 = true
    · have hi := mapV_iff.1 hv
      have hi2 := mapV_iff.1 hv2
      obtain rfl : n = n' := hi.same H.out.1 H'.out.1
      obtain rfl : m = m' := hi2.same K.out.1 K'.out.1
      have hn12 : n ≤ 12 := by rw [← H.out.1]; exact hi.turn.2.1
      have hm12 : m ≤ 12 := by rw [← K.out.1]; exact hi2.turn.2.1
      have hn1 : 0 < n := by rw [← H.out.1]; exact hi.turn.1
      have hm1 : 0 < m := by rw [← K.out.1]; exact hi2.turn.1
      have HV := Lib.hid hv; have HV2 := Lib.hid hv2; have HM := Lib.hid hi; have HM2 := Lib.hid hi2
      by_cases hl : t.length = t2.length
      · obtain rfl : n = m := by rw [← H.out.1, ← K.out.1]; exact hl
        have hls := least_same hi hi2 hl
        by_cases hs : ∃ y, y < t2.length ∧ formIs t2 f2 (formT t f 0) (formF t f 0) y
        · obtain rfl : true = r := by rw [← hR, sameR_yes hv hv2 hl hs]
          clear hR hv hv2 hi hi2
          have HLT : Hid ((formT t f 0).length = n) := (formT_len HM.out (by rw [H.out.1]; exact hn1)).trans H.out.1
          have HLF : Hid ((formF t f 0).length = n) := (formF_len HM.out (by rw [H.out.1]; exact hn1)).trans H.out.1
          have hq := (times_pos (t := t2) (f := f2) (bt := formT t f 0) (bf := formF t f 0) n).2 (by rw [K.out.1] at hs; exact hs)
          obtain ⟨q, hq2⟩ : ∃ q, timesTo t2 f2 (formT t f 0) (formF t f 0) n = q := ⟨_, rfl⟩
          rw [hq2] at hq
          have HQ2 := Lib.hid hq2
          clear hls hs hl hq2
          go_enter Try.func54, Try.ntmps54
          go_wp2_with fail
          refine (valid_lit w.heap.size A A' n n c c' t f W0 HX.out (H.out.below HB.out) (H'.out.below HB.out) hn hn' HV.out).mono ?_
          rintro e w1 ⟨rfl, bl⟩
          have HX1 := Lib.hid (HX.out.below bl); have HY1 : Hid (Box w1 (w.heap.size + 1) 36 _ _) := HY.out.below bl; have HB1 := Lib.hid (HB.out.trans (bl.mono HB.out.size)); clear bl
          go_wp2_with fail
          refine (valid_lit (w.heap.size + 1) B B' n n d d' t2 f2 w1 HY1.out (K.out.below HB1.out) (K'.out.below HB1.out) hm hm' HV2.out).mono ?_
          rintro e w2 ⟨rfl, bl⟩
          have HX2 := Lib.hid (HX1.out.below bl); have HY2 : Hid (Box w2 (w.heap.size + 1) 36 _ _) := HY1.out.below bl; have HB2 := Lib.hid (HB1.out.trans (bl.mono HB1.out.size)); clear bl
          go_wp2_with fail
          refine (form_any w2 w.heap.size A A' n c c' 0 t f HX2.out (H.out.below HB2.out) (H'.out.below HB2.out) HM.out hn1).mono ?_
          rintro e w3 ⟨u, u', rfl, o, bl⟩
          obtain ⟨A3, c3, A4, c4, rfl, rfl, r3, r4⟩ := o.form HLT.out HLF.out
          obtain ⟨W3, hW3, hz, hb3, -⟩ := Box.local_ w3 36 (.slice none 0 0) (.slice none 0 0)
          have z0 := hz.cell0; have z1 := hz.cell1; have z2 := hz.frozen 0; have z3 := hz.frozen 1
          obtain ⟨q1, q2⟩ := hz.store2 (.slice A3 n c3) (.slice A4 n c4)
          have HQ1 : Hid (Box2 ((W3.setCell ⟨w3.heap.size, 0, none⟩ (.slice A3 n c3)).setCell ⟨w3.heap.size, 1, none⟩ (.slice A4 n c4)) w3.heap.size A3 n c3 A4 n c4) := q1
          have hbq : Below w3.heap.size w3 ((W3.setCell ⟨w3.heap.size, 0, none⟩ (.slice A3 n c3)).setCell ⟨w3.heap.size, 1, none⟩ (.slice A4 n c4)) := hb3.grown q2 hb3.size (fun k hk => by cases hk; omega)
          have HR3 := Lib.hid (r3.below hbq); have HR4 := Lib.hid (r4.below hbq)
          have HY3 : Hid (Box2 ((W3.setCell ⟨w3.heap.size, 0, none⟩ (.slice A3 n c3)).setCell ⟨w3.heap.size, 1, none⟩ (.slice A4 n c4)) (w.heap.size + 1) B n d B' n d') := (HY2.out.below bl).below hbq
          have HB3 := HB2.out.trans (bl.mono HB2.out.size)
          have HB4 := Lib.hid (HB3.trans (hbq.mono HB3.size))
          clear r3 r4 o bl hz q1 q2 hb3 hbq HB3
          go_wp2_with fail
          refine (times_any _ (w.heap.size + 1) w3.heap.size B B' A3 A4 n d d' c3 c4 t2 f2 _ _ HY3.out HQ1.out (K.out.below HB4.out) (K'.out.below HB4.out) HR3.out HR4.out HM2.out).mono ?_
          rintro e w4 ⟨rfl, bl⟩
          rw [HQ2.out]
          have HB5 := Lib.hid (HB4.out.trans (bl.mono HB4.out.size)); clear bl
          go_wp2
          go_ret
          exact ⟨rfl, HB5.out⟩
        · obtain rfl : false = r := by rw [← hR, sameR_no (fun e => hs e.2.2.2)]
          clear hR hv hv2 hi hi2
          have HLT : Hid ((formT t f 0).length = n) := (formT_len HM.out (by rw [H.out.1]; exact hn1)).trans H.out.1
          have HLF : Hid ((formF t f 0).length = n) := (formF_len HM.out (by rw [H.out.1]; exact hn1)).trans H.out.1
          have hq : ¬ 0 < timesTo t2 f2 (formT t f 0) (formF t f 0) n := fun e => hs (by have := (times_pos n).1 e; rw [K.out.1]; exact this)
          obtain ⟨q, hq2⟩ : ∃ q, timesTo t2 f2 (formT t f 0) (formF t f 0) n = q := ⟨_, rfl⟩
          rw [hq2] at hq
          obtain rfl : q = 0 := by omega
          have HQ2 := Lib.hid hq2
          clear hls hs hl hq2 hq
          go_enter Try.func54, Try.ntmps54
          go_wp2_with fail
          refine (valid_lit w.heap.size A A' n n c c' t f W0 HX.out (H.out.below HB.out) (H'.out.below HB.out) hn hn' HV.out).mono ?_
          rintro e w1 ⟨rfl, bl⟩
          have HX1 := Lib.hid (HX.out.below bl); have HY1 : Hid (Box w1 (w.heap.size + 1) 36 _ _) := HY.out.below bl; have HB1 := Lib.hid (HB.out.trans (bl.mono HB.out.size)); clear bl
          go_wp2_with fail
          refine (valid_lit (w.heap.size + 1) B B' n n d d' t2 f2 w1 HY1.out (K.out.below HB1.out) (K'.out.below HB1.out) hm hm' HV2.out).mono ?_
          rintro e w2 ⟨rfl, bl⟩
          have HX2 := Lib.hid (HX1.out.below bl); have HY2 : Hid (Box w2 (w.heap.size + 1) 36 _ _) := HY1.out.below bl; have HB2 := Lib.hid (HB1.out.trans (bl.mono HB1.out.size)); clear bl
          go_wp2_with fail
          refine (form_any w2 w.heap.size A A' n c c' 0 t f HX2.out (H.out.below HB2.out) (H'.out.below HB2.out) HM.out hn1).mono ?_
          rintro e w3 ⟨u, u', rfl, o, bl⟩
          obtain ⟨A3, c3, A4, c4, rfl, rfl, r3, r4⟩ := o.form HLT.out HLF.out
          obtain ⟨W3, hW3, hz, hb3, -⟩ := Box.local_ w3 36 (.slice none 0 0) (.slice none 0 0)
          have z0 := hz.cell0; have z1 := hz.cell1; have z2 := hz.frozen 0; have z3 := hz.frozen 1
          obtain ⟨q1, q2⟩ := hz.store2 (.slice A3 n c3) (.slice A4 n c4)
          have HQ1 : Hid (Box2 ((W3.setCell ⟨w3.heap.size, 0, none⟩ (.slice A3 n c3)).setCell ⟨w3.heap.size, 1, none⟩ (.slice A4 n c4)) w3.heap.size A3 n c3 A4 n c4) := q1
          have hbq : Below w3.heap.size w3 ((W3.setCell ⟨w3.heap.size, 0, none⟩ (.slice A3 n c3)).setCell ⟨w3.heap.size, 1, none⟩ (.slice A4 n c4)) := hb3.grown q2 hb3.size (fun k hk => by cases hk; omega)
          have HR3 := Lib.hid (r3.below hbq); have HR4 := Lib.hid (r4.below hbq)
          have HY3 : Hid (Box2 ((W3.setCell ⟨w3.heap.size, 0, none⟩ (.slice A3 n c3)).setCell ⟨w3.heap.size, 1, none⟩ (.slice A4 n c4)) (w.heap.size + 1) B n d B' n d') := (HY2.out.below bl).below hbq
          have HB3 := HB2.out.trans (bl.mono HB2.out.size)
          have HB4 := Lib.hid (HB3.trans (hbq.mono HB3.size))
          clear r3 r4 o bl hz q1 q2 hb3 hbq HB3
          go_wp2_with fail
          refine (times_any _ (w.heap.size + 1) w3.heap.size B B' A3 A4 n d d' c3 c4 t2 f2 _ _ HY3.out HQ1.out (K.out.below HB4.out) (K'.out.below HB4.out) HR3.out HR4.out HM2.out).mono ?_
          rintro e w4 ⟨rfl, bl⟩
          rw [HQ2.out]
          have HB5 := Lib.hid (HB4.out.trans (bl.mono HB4.out.size)); clear bl
          go_wp2
          go_ret
          exact ⟨rfl, HB5.out⟩
      · obtain rfl : false = r := by rw [← hR, sameR_no (fun e => hl e.2.2.1)]
        have hnm : n ≠ m := by rw [← H.out.1, ← K.out.1]; exact hl
        clear hR hv hv2 hi hi2 hl
        have HLT : Hid ((formT t f 0).length = n) := (formT_len HM.out (by rw [H.out.1]; exact hn1)).trans H.out.1
        have HLF : Hid ((formF t f 0).length = n) := (formF_len HM.out (by rw [H.out.1]; exact hn1)).trans H.out.1
        go_enter Try.func54, Try.ntmps54
        go_wp2_with fail
        refine (valid_lit w.heap.size A A' n n c c' t f W0 HX.out (H.out.below HB.out) (H'.out.below HB.out) hn hn' HV.out).mono ?_
        rintro e w1 ⟨rfl, bl⟩
        have HX1 := Lib.hid (HX.out.below bl); have HY1 : Hid (Box w1 (w.heap.size + 1) 36 _ _) := HY.out.below bl; have HB1 := Lib.hid (HB.out.trans (bl.mono HB.out.size)); clear bl
        go_wp2_with fail
        refine (valid_lit (w.heap.size + 1) B B' m m d d' t2 f2 w1 HY1.out (K.out.below HB1.out) (K'.out.below HB1.out) hm hm' HV2.out).mono ?_
        rintro e w2 ⟨rfl, bl⟩
        have HX2 := Lib.hid (HX1.out.below bl); have HY2 : Hid (Box w2 (w.heap.size + 1) 36 _ _) := HY1.out.below bl; have HB2 := Lib.hid (HB1.out.trans (bl.mono HB1.out.size)); clear bl
        go_wp2_with fail
        refine (form_any w2 w.heap.size A A' n c c' 0 t f HX2.out (H.out.below HB2.out) (H'.out.below HB2.out) HM.out hn1).mono ?_
        rintro e w3 ⟨u, u', rfl, o, bl⟩
        obtain ⟨A3, c3, A4, c4, rfl, rfl, r3, r4⟩ := o.form HLT.out HLF.out
        obtain ⟨W3, hW3, hz, hb3, -⟩ := Box.local_ w3 36 (.slice none 0 0) (.slice none 0 0)
        have z0 := hz.cell0; have z1 := hz.cell1; have z2 := hz.frozen 0; have z3 := hz.frozen 1
        obtain ⟨q1, q2⟩ := hz.store2 (.slice A3 n c3) (.slice A4 n c4)
        have HQ1 : Hid (Box2 ((W3.setCell ⟨w3.heap.size, 0, none⟩ (.slice A3 n c3)).setCell ⟨w3.heap.size, 1, none⟩ (.slice A4 n c4)) w3.heap.size A3 n c3 A4 n c4) := q1
        have hbq : Below w3.heap.size w3 ((W3.setCell ⟨w3.heap.size, 0, none⟩ (.slice A3 n c3)).setCell ⟨w3.heap.size, 1, none⟩ (.slice A4 n c4)) := hb3.grown q2 hb3.size (fun k hk => by cases hk; omega)
        have HR3 := Lib.hid (r3.below hbq); have HR4 := Lib.hid (r4.below hbq)
        have HY3 : Hid (Box2 ((W3.setCell ⟨w3.heap.size, 0, none⟩ (.slice A3 n c3)).setCell ⟨w3.heap.size, 1, none⟩ (.slice A4 n c4)) (w.heap.size + 1) B m d B' m d') := (HY2.out.below bl).below hbq
        have HB3 := HB2.out.trans (bl.mono HB2.out.size)
        have HB4 := Lib.hid (HB3.trans (hbq.mono HB3.size))
        clear r3 r4 o bl hz q1 q2 hb3 hbq HB3
        go_wp2_with fail
        refine (times_ne _ (w.heap.size + 1) w3.heap.size B B' A3 A4 m n d d' c3 c4 t2 f2 _ _ HY3.out HQ1.out (K.out.below HB4.out) (K'.out.below HB4.out) HR3.out HR4.out HM2.out hn12 hnm).mono ?_
        rintro e w4 ⟨rfl, bl⟩
        have HB5 := Lib.hid (HB4.out.trans (bl.mono HB4.out.size)); clear bl
        go_wp2
        go_ret
        exact ⟨rfl, HB5.out⟩
    · obtain rfl : false = r := by rw [← hR, sameR_no (fun e => hv2 e.2.1)]
      have HV := Lib.hid hv
      have HV2 : Hid (mapV t2 f2 = false) := Bool.eq_false_iff.2 hv2
      clear hR hv hv2
      go_enter Try.func54, Try.ntmps54
      go_wp2_with fail
      refine (valid_lit w.heap.size A A' n n' c c' t f W0 HX.out (H.out.below HB.out) (H'.out.below HB.out) hn hn' HV.out).mono ?_
      rintro e w1 ⟨rfl, bl⟩
      have HX1 := Lib.hid (HX.out.below bl); have HY1 : Hid (Box w1 (w.heap.size + 1) 36 _ _) := HY.out.below bl; have HB1 := Lib.hid (HB.out.trans (bl.mono HB.out.size)); clear bl
      go_wp2_with fail
      refine (valid_lit (w.heap.size + 1) B B' m m' d d' t2 f2 w1 HY1.out (K.out.below HB1.out) (K'.out.below HB1.out) hm hm' HV2.out).mono ?_
      rintro e w2 ⟨rfl, bl⟩
      have HX2 := Lib.hid (HX1.out.below bl); have HY2 : Hid (Box w2 (w.heap.size + 1) 36 _ _) := HY1.out.below bl; have HB2 := Lib.hid (HB1.out.trans (bl.mono HB1.out.size)); clear bl
      go_wp2
      go_ret
      exact ⟨rfl, HB2.out⟩
  · obtain rfl : false = r := by rw [← hR, sameR_no (fun e => hv e.1)]
    have HV : Hid (mapV t f = false) := Bool.eq_false_iff.2 hv
    clear hR hv
    go_enter Try.func54, Try.ntmps54
    go_wp2_with fail
    refine (valid_lit w.heap.size A A' n n' c c' t f W0 HX.out (H.out.below HB.out) (H'.out.below HB.out) hn hn' HV.out).mono ?_
    rintro e w1 ⟨rfl, bl⟩
    have HX1 := Lib.hid (HX.out.below bl); have HY1 : Hid (Box w1 (w.heap.size + 1) 36 _ _) := HY.out.below bl; have HB1 := Lib.hid (HB.out.trans (bl.mono HB.out.size)); clear bl
    go_wp2
    go_ret
    exact ⟨rfl, HB1.out⟩

end Go.Proofs.Ytfcgfeopmnjfjaa
