/-
  MapValid's contracts in the form that the laws ask.
-/
import Derived.Test.YtpbpmomcefgbaaaSpecMap
namespace Go.Proofs.Ytpbpmomcefgbaaa
open Go.RowKit

theorem implMapValid_any (A A' : Option Addr) (n n' c c' : Nat) (t f : List Int) (w : World) (h : Rd w A n t) (h' : Rd w A' n' f) (hn : n ≤ 17592186044416) (hn' : n' ≤ 17592186044416) :
    Calls Try.prog 24 #[.agg #[.slice A n c, .slice A' n' c']] w fun e w' => e = .returned (.bool (mapV t f)) ∧ Below w.heap.size w w' := by
  have hb0 : Below w.heap.size w (w.alloc (.cells #[.slice A n c, .slice A' n' c'] 32)) := (Below.refl _ _).alloc (Nat.le_refl _) _
  have HV := Lib.hid (valid_any w.heap.size A A' n n' c c' t f (w.alloc (.cells #[.slice A n c, .slice A' n' c'] 32)) (Box2.new w A n c A' n' c') (h.below hb0) (h'.below hb0) hn hn')
  have HB0 := Lib.hid hb0; clear hb0 h h'
  go_enter Try.func24, Try.ntmps24
  go_wp2_with fail
  refine HV.out.mono ?_
  rintro e w1 ⟨rfl, b⟩
  have HB := Lib.hid (HB0.out.trans (b.mono HB0.out.size)); clear b
  go_wp2_with fail
  go_ret
  exact ⟨rfl, HB.out⟩

theorem spec_mapV (w : World) (A A' : Option Addr) (n n' c c' : Nat) (t f : List Int) (h : Rd w A n t) (h' : Rd w A' n' f) (hn : n ≤ 1048576) (hn' : n' ≤ 1048576) {r : Bool} (hR : mapV t f = r) :
    Calls Try.prog 22 #[.agg #[.slice A n c, .slice A' n' c']] w fun e w' => e = .returned (.bool r) ∧ Below w.heap.size w w' := by
  subst hR; exact specMap_any A A' n n' c c' t f w h h' (by omega) (by omega)
theorem impl_mapV (w : World) (A A' : Option Addr) (n n' c c' : Nat) (t f : List Int) (h : Rd w A n t) (h' : Rd w A' n' f) (hn : n ≤ 1048576) (hn' : n' ≤ 1048576) {r : Bool} (hR : mapV t f = r) :
    Calls Try.prog 24 #[.agg #[.slice A n c, .slice A' n' c']] w fun e w' => e = .returned (.bool r) ∧ Below w.heap.size w w' := by
  subst hR; exact implMapValid_any A A' n n' c c' t f w h h' (by omega) (by omega)

end Go.Proofs.Ytpbpmomcefgbaaa
