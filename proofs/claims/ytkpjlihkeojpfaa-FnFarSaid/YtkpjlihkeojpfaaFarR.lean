/-
  MapFar: the model's and the program's.
-/
import Derived.Test.YtkpjlihkeojpfaaDartR
import Derived.Test.YtkpjlihkeojpfaaFarD
import Derived.Test.YtkpjlihkeojpfaaFarS
namespace Go.Proofs.Ytkpjlihkeojpfaa
open Go.RowKit

noncomputable def farR (t f : List Int) (x y : Int) : Int := if mapV t f = true ∧ dartB t.length x = true ∧ dartB t.length y = true then gi (farL t f x.toNat) y.toNat else -1

set_option maxHeartbeats 1600000 in
theorem spec_farR (w : World) (A A' : Option Addr) (n n' c c' : Nat) (t f : List Int) (h : Rd w A n t) (h' : Rd w A' n' f) (hn : n ≤ 1048576) (hn' : n' ≤ 1048576) (x : Int) (_hw : (Lit.int .i64 x).wf = true) (y : Int) (_hwy : (Lit.int .i64 y).wf = true) {r : Int} (hR : farR t f x y = r) :
    Calls Try.prog 6 #[.agg #[.slice A n c, .slice A' n' c'], .int .i64 x, .int .i64 y] w fun e w' => e = .returned (.int .i64 r) ∧ Below w.heap.size w w' := by
  have hb0 : Below w.heap.size w (w.alloc (.cells #[.slice A n c, .slice A' n' c'] 25)) := (Below.refl _ _).alloc (Nat.le_refl _) _
  have hbx := Box2.new w A n c A' n' c'
  obtain ⟨W0, hW0⟩ : ∃ W0, w.alloc (.cells #[.slice A n c, .slice A' n' c'] 25) = W0 := ⟨_, rfl⟩
  rw [hW0] at hb0 hbx
  have c0 := hbx.cell0
  have c1 := hbx.cell1
  have HL : Hid (t.length = n) := h.1
  have HB0 := Lib.hid hb0; have HBX := Lib.hid hbx; have H := Lib.hid h; have H' := Lib.hid h'; clear hb0 hbx h h'
  obtain ⟨o1, ho1⟩ : ∃ o, (mapV t f && dartB n x) = o := ⟨_, rfl⟩
  obtain ⟨o2, ho2⟩ : ∃ o, (mapV t f && dartB n y) = o := ⟨_, rfl⟩
  have HO1 := Lib.hid ho1; have HO2 := Lib.hid ho2
  go_enter Try.func6, Try.ntmps6
  go_wp2_with fail
  refine (l2Dart_lit W0 A A' n n' c c' t f (H.out.below HB0.out) (H'.out.below HB0.out) hn hn' x HO1.out).mono ?_
  rintro e w1 ⟨rfl, bl⟩
  clear c0 c1
  have c0 := (HBX.out.below bl).cell0
  have c1 := (HBX.out.below bl).cell1
  have HBX1 := Lib.hid (HBX.out.below bl)
  have HB1 := Lib.hid (HB0.out.trans (bl.mono HB0.out.size)); clear bl
  cases o1 with
  | false =>
    have hr : r = -1 := by
      rw [← hR, farR, if_neg]; intro hc
      rw [HL.out] at hc; rw [hc.1, hc.2.1] at ho1; simp at ho1
    subst hr
    clear ho1 ho2 hR
    go_wp2_with fail
    go_ret
    exact ⟨rfl, HB1.out⟩
  | true =>
    clear ho1 ho2
    go_wp2_with fail
    refine (l2Dart_lit w1 A A' n n' c c' t f (H.out.below HB1.out) (H'.out.below HB1.out) hn hn' y HO2.out).mono ?_
    rintro e w2 ⟨rfl, bl⟩
    clear c0 c1
    have c0 := (HBX1.out.below bl).cell0
    have c1 := (HBX1.out.below bl).cell1
    have HB2 := Lib.hid (HB1.out.trans (bl.mono HB1.out.size)); clear bl
    cases o2 with
    | false =>
      have hr : r = -1 := by
        rw [← hR, farR, if_neg]; intro hc
        have ho2 := HO2.out
        rw [HL.out] at hc; rw [hc.1, hc.2.2] at ho2; simp at ho2
      subst hr
      clear hR
      go_wp2_with fail
      go_ret
      exact ⟨rfl, HB2.out⟩
    | true =>
      have h1 := HO1.out; have h2 := HO2.out
      simp only [Bool.and_eq_true] at h1 h2
      have hm := mapV_iff.1 h1.1
      have hx := h1.2; have hy := h2.2
      rw [dartB] at hx hy
      have hx := of_decide_eq_true hx; have hy := of_decide_eq_true hy
      obtain ⟨p, rfl⟩ := Int.eq_ofNat_of_zero_le hx.1
      obtain ⟨q, rfl⟩ := Int.eq_ofNat_of_zero_le hy.1
      have hp : p < n := by omega
      have hq : q < n := by omega
      obtain rfl : n = n' := hm.same H.out.1 H'.out.1
      rw [farR, if_pos (by rw [HL.out]; exact ⟨h1.1, h1.2, h2.2⟩), Int.toNat_natCast, Int.toNat_natCast] at hR
      have HR := Lib.hid hR; have HM := Lib.hid hm; clear hR hm h1 h2
      go_wp2_with fail
      refine (l2Fars_any A A' n c c' t f w2 (H.out.below HB2.out) (H'.out.below HB2.out) HM.out p hp).mono ?_
      rintro e w3 ⟨v, rfl, o, b⟩
      have hlen : (farL t f p).length = n := (far_is HM.out (by rw [HL.out]; exact hp)).len.trans HL.out
      obtain ⟨A3, c3, rfl, -, -⟩ := o.form' hlen
      obtain ⟨g, rfl, hg, hcq, -⟩ := o.cellAt hlen hq
      rw [HR.out] at hcq
      have HB3 := Lib.hid (HB2.out.trans (b.mono HB2.out.size))
      clear o b hlen
      go_wp2_with fail
      go_ret
      exact ⟨rfl, HB3.out⟩

set_option maxHeartbeats 1600000 in
theorem impl_farR (w : World) (A A' : Option Addr) (n n' c c' : Nat) (t f : List Int) (h : Rd w A n t) (h' : Rd w A' n' f) (hn : n ≤ 1048576) (hn' : n' ≤ 1048576) (x : Int) (_hw : (Lit.int .i64 x).wf = true) (y : Int) (_hwy : (Lit.int .i64 y).wf = true) {r : Int} (hR : farR t f x y = r) :
    Calls Try.prog 5 #[.agg #[.slice A n c, .slice A' n' c'], .int .i64 x, .int .i64 y] w fun e w' => e = .returned (.int .i64 r) ∧ Below w.heap.size w w' := by
  have hb0 : Below w.heap.size w (w.alloc (.cells #[.slice A n c, .slice A' n' c'] 25)) := (Below.refl _ _).alloc (Nat.le_refl _) _
  have hbx := Box2.new w A n c A' n' c'
  obtain ⟨W0, hW0⟩ : ∃ W0, w.alloc (.cells #[.slice A n c, .slice A' n' c'] 25) = W0 := ⟨_, rfl⟩
  rw [hW0] at hb0 hbx
  have HL : Hid (t.length = n) := h.1
  have HB0 := Lib.hid hb0; have HBX := Lib.hid hbx; have H := Lib.hid h; have H' := Lib.hid h'; clear hb0 hbx h h'
  obtain ⟨o0, ho0⟩ : ∃ o, mapV t f = o := ⟨_, rfl⟩
  obtain ⟨o1, ho1⟩ : ∃ o, dartB n x = o := ⟨_, rfl⟩
  obtain ⟨o2, ho2⟩ : ∃ o, dartB n y = o := ⟨_, rfl⟩
  have HO0 := Lib.hid ho0; have HO1 := Lib.hid ho1; have HO2 := Lib.hid ho2
  clear ho0 ho1 ho2
  have hno : ¬ (o0 = true ∧ o1 = true ∧ o2 = true) → r = -1 := fun hc => by
    rw [← hR, farR, if_neg]; intro h
    rw [HL.out, HO0.out, HO1.out, HO2.out] at h
    exact hc h
  go_enter Try.func5, Try.ntmps5
  go_wp2_with fail
  refine (valid_lit w.heap.size A A' n n' c c' t f W0 HBX.out (H.out.below HB0.out) (H'.out.below HB0.out) hn hn' HO0.out).mono ?_
  rintro e w1 ⟨rfl, bl⟩
  have HBX1 := Lib.hid (HBX.out.below bl)
  have HB1 := Lib.hid (HB0.out.trans (bl.mono HB0.out.size)); clear bl
  cases o0 with
  | false =>
    obtain rfl := hno (by simp)
    clear hno hR
    go_wp2_with fail
    go_ret
    exact ⟨rfl, HB1.out⟩
  | true =>
    go_wp2_with fail
    refine (hasDart_lit w1 w.heap.size A A' n n' c c' HBX1.out x HO1.out).mono ?_
    rintro e w' ⟨rfl, rfl⟩
    cases o1 with
    | false =>
      obtain rfl := hno (by simp)
      clear hno hR
      go_wp2_with fail
      go_ret
      exact ⟨rfl, HB1.out⟩
    | true =>
      go_wp2_with fail
      refine (hasDart_lit w1 w.heap.size A A' n n' c c' HBX1.out y HO2.out).mono ?_
      rintro e w' ⟨rfl, rfl⟩
      cases o2 with
      | false =>
        obtain rfl := hno (by simp)
        clear hno hR
        go_wp2_with fail
        go_ret
        exact ⟨rfl, HB1.out⟩
      | true =>
        clear hno
        have hm := mapV_iff.1 HO0.out
        have hx := HO1.out; have hy := HO2.out
        rw [dartB] at hx hy
        have hx := of_decide_eq_true hx; have hy := of_decide_eq_true hy
        obtain ⟨p, rfl⟩ := Int.eq_ofNat_of_zero_le hx.1
        obtain ⟨q, rfl⟩ := Int.eq_ofNat_of_zero_le hy.1
        have hp : p < n := by omega
        have hq : q < n := by omega
        obtain rfl : n = n' := hm.same H.out.1 H'.out.1
        rw [farR, if_pos (by rw [HL.out]; exact ⟨HO0.out, HO1.out, HO2.out⟩), Int.toNat_natCast, Int.toNat_natCast] at hR
        have HR := Lib.hid hR; have HM := Lib.hid hm; clear hR hm
        go_wp2_with fail
        refine (distances_any w.heap.size A A' n c c' t f w1 HBX1.out (H.out.below HB1.out) (H'.out.below HB1.out) HM.out p hp).mono ?_
        rintro e w3 ⟨v, rfl, o, b⟩
        have hlen : (farL t f p).length = n := (far_is HM.out (by rw [HL.out]; exact hp)).len.trans HL.out
        obtain ⟨A3, c3, rfl, -, -⟩ := o.form' hlen
        obtain ⟨g, rfl, hg, hcq, -⟩ := o.cellAt hlen hq
        rw [HR.out] at hcq
        have HB3 := Lib.hid (HB1.out.trans (b.mono HB1.out.size))
        clear o b hlen
        go_wp2_with fail
        go_ret
        exact ⟨rfl, HB3.out⟩
end Go.Proofs.Ytkpjlihkeojpfaa
