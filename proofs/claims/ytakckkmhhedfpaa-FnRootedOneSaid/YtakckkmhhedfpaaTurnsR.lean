/-
  MapTurns: the program's.
-/
import Derived.Test.YtakckkmhhedfpaaTimes
namespace Go.Proofs.Ytakckkmhhedfpaa
open Go.RowKit

set_option maxHeartbeats 1600000 in
theorem impl_turnsR (w : World) (A A' : Option Addr) (n n' c c' : Nat) (t f : List Int) (h : Rd w A n t) (h' : Rd w A' n' f) (hn : n ≤ 1048576) (hn' : n' ≤ 1048576) {r : Int} (hR : turnsR t f = r) :
    Calls Try.prog 49 #[.agg #[.slice A n c, .slice A' n' c']] w fun e w' => e = .returned (.int .i64 r) ∧ Below w.heap.size w w' := by
  obtain ⟨W0, hW0, hx, hb, hz⟩ := Box.local_ w 35 (.slice A n c) (.slice A' n' c')
  have HX := Lib.hid hx; have HB := Lib.hid hb; have H := Lib.hid h; have H' := Lib.hid h'; clear hx hb hz h h'
  by_cases hv : mapV t f = true
  · rw [turnsR, if_pos hv, H.out.1] at hR
    have hm := mapV_iff.1 hv
    obtain rfl : n = n' := hm.same H.out.1 H'.out.1
    have hn1 : 0 < n := by rw [← H.out.1]; exact hm.turn.1
    have HLT0 : Hid ((formT t f 0).length = n) := (formT_len hm (by rw [H.out.1]; exact hn1)).trans H.out.1
    have HLF0 : Hid ((formF t f 0).length = n) := (formF_len hm (by rw [H.out.1]; exact hn1)).trans H.out.1
    have HM := Lib.hid hm; have HV := Lib.hid hv; have HR := Lib.hid hR; clear hm hv hR
    go_enter Try.func49, Try.ntmps49
    go_wp2_with fail
    refine (valid_lit w.heap.size A A' n n c c' t f W0 HX.out (H.out.below HB.out) (H'.out.below HB.out) hn hn' HV.out).mono ?_
    rintro e w1 ⟨rfl, bl⟩
    have HX1 := Lib.hid (HX.out.below bl); have HB1 := Lib.hid (HB.out.trans (bl.mono HB.out.size)); clear bl
    go_wp2_with fail
    refine (form_any w1 w.heap.size A A' n c c' 0 t f HX1.out (H.out.below HB1.out) (H'.out.below HB1.out) HM.out hn1).mono ?_
    rintro e w2 ⟨u, u', rfl, o, bl⟩
    obtain ⟨A3, c3, A4, c4, rfl, rfl, r3, r4⟩ := o.form HLT0.out HLF0.out
    obtain ⟨W3, hW3, hz, hb3, -⟩ := Box.local_ w2 35 (.slice none 0 0) (.slice none 0 0)
    have z0 := hz.cell0; have z1 := hz.cell1; have z2 := hz.frozen 0; have z3 := hz.frozen 1
    obtain ⟨q1, q2⟩ := hz.store2 (.slice A3 n c3) (.slice A4 n c4)
    have HQ1 : Hid (Box2 ((W3.setCell ⟨w2.heap.size, 0, none⟩ (.slice A3 n c3)).setCell ⟨w2.heap.size, 1, none⟩ (.slice A4 n c4)) w2.heap.size A3 n c3 A4 n c4) := q1
    have hbq : Below w2.heap.size w2 ((W3.setCell ⟨w2.heap.size, 0, none⟩ (.slice A3 n c3)).setCell ⟨w2.heap.size, 1, none⟩ (.slice A4 n c4)) := hb3.grown q2 hb3.size (fun k hk => by cases hk; omega)
    have HR3 := Lib.hid (r3.below hbq); have HR4 := Lib.hid (r4.below hbq)
    have HX3 := Lib.hid ((HX1.out.below bl).below hbq)
    have HB2 := HB1.out.trans (bl.mono HB1.out.size)
    have HB3 := Lib.hid (HB2.trans (hbq.mono HB2.size))
    clear r3 r4 o bl hz q1 q2 hb3 hbq HB2
    go_wp2_with fail
    refine (times_any _ w.heap.size w2.heap.size A A' A3 A4 n c c' c3 c4 t f _ _ HX3.out HQ1.out (H.out.below HB3.out) (H'.out.below HB3.out) HR3.out HR4.out HM.out).mono ?_
    rintro e w4 ⟨rfl, bl⟩
    have HB4 := Lib.hid (HB3.out.trans (bl.mono HB3.out.size)); clear bl
    go_wp2
    go_ret
    exact ⟨ret_int (by rw [times_turns]; exact HR.out), HB4.out⟩
  · have hv' : mapV t f = false := by simpa using hv
    rw [turnsR, if_neg hv] at hR
    subst hR
    have HV := Lib.hid hv'; clear hv hv'
    go_enter Try.func49, Try.ntmps49
    go_wp2_with fail
    refine (valid_lit w.heap.size A A' n n' c c' t f W0 HX.out (H.out.below HB.out) (H'.out.below HB.out) hn hn' HV.out).mono ?_
    rintro e w1 ⟨rfl, bl⟩
    have HB1 : Hid (Below w.heap.size w w1) := HB.out.trans (bl.mono HB.out.size)
    clear bl
    go_wp2
    go_ret
    exact ⟨rfl, HB1.out⟩

end Go.Proofs.Ytakckkmhhedfpaa
