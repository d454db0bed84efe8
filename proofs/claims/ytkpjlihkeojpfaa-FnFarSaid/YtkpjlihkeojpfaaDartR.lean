/-
  The check of a dart: the model's and the program's (as in XFormR, for a seat without MapForm).
-/
import Derived.Test.YtkpjlihkeojpfaaCopy
namespace Go.Proofs.Ytkpjlihkeojpfaa
open Go.RowKit

def dartB (n : Nat) (r : Int) : Bool := decide (0 ≤ r ∧ r < n)
theorem dartB_in (n : Nat) (r : Int) : inB r 0 ((n : Int) - 1) = dartB n r := by
  by_cases h : 0 ≤ r ∧ r < n
  · rw [inB_true h.1 (by omega), dartB, decide_eq_true h]
  · rw [inB_false (fun e => h ⟨e.1, by omega⟩), dartB, decide_eq_false h]

set_option maxHeartbeats 1600000 in
theorem l2Dart_lit (w : World) (A A' : Option Addr) (n n' c c' : Nat) (t f : List Int) (h : Rd w A n t) (h' : Rd w A' n' f) (hn : n ≤ 1048576) (hn' : n' ≤ 1048576) (r : Int) {ok : Bool} (hR : (mapV t f && dartB n r) = ok) :
    Calls Try.prog 14 #[.agg #[.slice A n c, .slice A' n' c'], .int .i64 r] w fun e w' => e = .returned (.bool ok) ∧ Below w.heap.size w w' := by
  have hb0 : Below w.heap.size w (w.alloc (.cells #[.slice A n c, .slice A' n' c'] 25)) := (Below.refl _ _).alloc (Nat.le_refl _) _
  have hbx := Box2.new w A n c A' n' c'
  have c0 := hbx.cell0
  have c1 := hbx.cell1
  have HB0 := Lib.hid hb0; have HBX := Lib.hid hbx; have H := Lib.hid h; have H' := Lib.hid h'; clear hb0 hbx h h'
  by_cases hv : mapV t f = true
  · rw [hv, Bool.true_and] at hR
    have HV := Lib.hid hv; have HR := Lib.hid ((dartB_in n r).trans hR); clear hv hR
    go_enter Try.func14, Try.ntmps14
    go_wp2_with fail
    refine (spec_mapV _ A A' n n' c c' t f (H.out.below HB0.out) (H'.out.below HB0.out) hn hn' HV.out).mono ?_
    rintro e w1 ⟨rfl, bl⟩
    have c0 := (HBX.out.below bl).cell0
    have c1 := (HBX.out.below bl).cell1
    have HB1 := Lib.hid (HB0.out.trans (bl.mono HB0.out.size)); clear bl
    go_wp2_with fail
    refine (l6In_any _ _ _ _).mono ?_
    rintro e w' ⟨rfl, rfl⟩
    rw [HR.out]
    go_wp2
    go_ret
    exact ⟨rfl, HB1.out⟩
  · have hv' : mapV t f = false := by simpa using hv
    rw [hv', Bool.false_and] at hR
    subst hR
    have HV := Lib.hid hv'; clear hv hv'
    go_enter Try.func14, Try.ntmps14
    go_wp2_with fail
    refine (spec_mapV _ A A' n n' c c' t f (H.out.below HB0.out) (H'.out.below HB0.out) hn hn' HV.out).mono ?_
    rintro e w1 ⟨rfl, bl⟩
    have HB1 := Lib.hid (HB0.out.trans (bl.mono HB0.out.size)); clear bl
    go_wp2
    go_ret
    exact ⟨rfl, HB1.out⟩

set_option maxHeartbeats 1600000 in
theorem hasDart_lit (w : World) (x : Nat) (A A' : Option Addr) (n n' c c' : Nat) (hx : Box2 w x A n c A' n' c') (r : Int) {ok : Bool} (hR : dartB n r = ok) :
    Calls Try.prog 12 #[.pointer (some ⟨x, 0, none⟩), .int .i64 r] w fun e w' => e = .returned (.bool ok) ∧ w = w' := by
  have c0 := hx.cell0
  clear hx
  by_cases hr : 0 ≤ r
  · by_cases hr' : r < n
    · have hok : ok = true := by rw [← hR, dartB, decide_eq_true ⟨hr, hr'⟩]
      subst hok; clear hR
      go_enter Try.func12, Try.ntmps12
      go_wp2
      go_ret
      exact ⟨rfl, rfl⟩
    · have hok : ok = false := by rw [← hR, dartB, decide_eq_false (fun e => hr' e.2)]
      subst hok; clear hR
      go_enter Try.func12, Try.ntmps12
      go_wp2
      go_ret
      exact ⟨rfl, rfl⟩
  · have hok : ok = false := by rw [← hR, dartB, decide_eq_false (fun e => hr e.1)]
    subst hok; clear hR
    go_enter Try.func12, Try.ntmps12
    go_wp2
    go_ret
    exact ⟨rfl, rfl⟩

end Go.Proofs.Ytkpjlihkeojpfaa
