/-
  Words renamed and joined: the model's.
-/
import Derived.Test.YtjplhnnbmopakaaDoorNamesW
import Derived.Test.YtjplhnnbmopakaaDoorWrdJ
namespace Go.Proofs.YtjplhnnbmopakaaDoor
open Go.RowKit

theorem below_undrewJ {B k : Nat} {w w' : World} (h : Below B (w.drewN k) w') : Below B w w' := ⟨h.os, h.tape, h.output, h.size, h.block⟩
theorem l8Names0_any (s : ByteArray) (w : World) (hW : Word s.data.toList) :
    Calls Tryd.prog 34 #[.string s, .int .i64 0] w fun e w' => e = .returned (.string ⟨(namesW s.data.toList 0).toArray⟩) ∧ Below w.heap.size w w' := l8Names_any s 0 w hW (by omega)
theorem specWordJ (w : World) (s : ByteArray) (hs : s.size ≤ 1048576) {r : Bool} (hR : wordB s.data.toList = r) :
    Calls Tryd.prog 9 #[.string s] w fun e w' => e = .returned (.bool r) ∧ Below w.heap.size w w' :=
  (specWord_any s w hs hR).mono fun _ _ ⟨he, k, hw⟩ => ⟨he, hw ▸ below_drewN (Below.refl _ _) k⟩

set_option maxHeartbeats 800000 in
theorem spec_namesWR (w : World) (s : ByteArray) (hs : s.size ≤ 1048576) {ok : Bool} {r : List UInt8} (hR : namesWR s.data.toList = (ok, r)) :
    Calls Tryd.prog 19 #[.string s] w fun e w' => e = .returned (.tuple #[.string ⟨r.toArray⟩, .bool ok]) ∧ Below w.heap.size w w' := by
  obtain ⟨b, hb⟩ : ∃ b, wordB s.data.toList = b := ⟨_, rfl⟩
  have HBB := Lib.hid hb
  rw [namesWR, hb] at hR
  cases b with
  | false =>
    simp only [strR, Bool.false_eq_true, if_false, Prod.mk.injEq] at hR
    obtain ⟨rfl, rfl⟩ := hR
    clear hb
    go_enter Tryd.func19, Tryd.ntmps19
    go_wp2_with (go_at_call 9; refine (specWordJ _ s hs HBB.out).mono ?_; rintro e w1 ⟨rfl, b⟩; have HB1 := Lib.hid b; clear b)
    go_ret2
    exact ⟨rfl, HB1.out⟩
  | true =>
    simp only [strR, if_true, Prod.mk.injEq] at hR
    obtain ⟨rfl, e⟩ := hR
    have HE := Lib.hid e
    have HW := Lib.hid (wordB_iff.1 hb)
    clear e hb
    go_enter Tryd.func19, Tryd.ntmps19
    go_wp2_with (first
      | (go_at_call 9; refine (specWordJ _ s hs HBB.out).mono ?_; rintro e w1 ⟨rfl, b⟩; have HB1 := Lib.hid b; clear b)
      | (go_at_call 34; refine (l8Names0_any s _ HW.out).mono ?_; rintro e w2 ⟨rfl, b⟩; have HB2 := Lib.hid (HB1.out.trans (b.mono HB1.out.size)); clear b))
    go_ret2
    obtain rfl : namesW s.data.toList 0 = r := HE.out
    exact ⟨rfl, HB2.out⟩

end Go.Proofs.YtjplhnnbmopakaaDoor
