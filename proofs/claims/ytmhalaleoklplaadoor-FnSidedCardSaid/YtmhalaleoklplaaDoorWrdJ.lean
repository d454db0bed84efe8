/-
  Words renamed and joined: the program's.
-/
import Derived.Test.YtmhalaleoklplaaDoorSumW
namespace Go.Proofs.YtmhalaleoklplaaDoor
open Go.RowKit

theorem named0_any (s : ByteArray) (w : World) (hW : Word s.data.toList) :
    Calls Tryd.prog 23 #[.string s, .int .u8 97] w fun e w' => e = .returned (.string ⟨(namesW s.data.toList 0).toArray⟩) ∧ Below w.heap.size w w' := named_any s 0 w hW (by omega)

set_option maxHeartbeats 800000 in
theorem impl_namesWR (w : World) (s : ByteArray) (hs : s.size ≤ 1048576) {ok : Bool} {r : List UInt8} (hR : namesWR s.data.toList = (ok, r)) :
    Calls Tryd.prog 9 #[.string s] w fun e w' => e = .returned (.tuple #[.string ⟨r.toArray⟩, .bool ok]) ∧ Below w.heap.size w w' := by
  obtain ⟨b, hb⟩ : ∃ b, wordB s.data.toList = b := ⟨_, rfl⟩
  have HBB := Lib.hid hb
  rw [namesWR, hb] at hR
  cases b with
  | false =>
    simp only [strR, Bool.false_eq_true, if_false, Prod.mk.injEq] at hR
    obtain ⟨rfl, rfl⟩ := hR
    clear hb
    go_enter Tryd.func9, Tryd.ntmps9
    go_wp2_with (go_at_call 11; refine (implWord_any s _ hs HBB.out).mono ?_; rintro e w1 ⟨rfl, b⟩; have HB1 := Lib.hid b; clear b)
    go_ret2
    exact ⟨rfl, HB1.out⟩
  | true =>
    simp only [strR, if_true, Prod.mk.injEq] at hR
    obtain ⟨rfl, e⟩ := hR
    have HE := Lib.hid e
    have HW := Lib.hid (wordB_iff.1 hb)
    clear e hb
    go_enter Tryd.func9, Tryd.ntmps9
    go_wp2_with (first
      | (go_at_call 11; refine (implWord_any s _ hs HBB.out).mono ?_; rintro e w1 ⟨rfl, b⟩; have HB1 := Lib.hid b; clear b)
      | (go_at_call 23; refine (named0_any s _ HW.out).mono ?_; rintro e w2 ⟨rfl, b⟩; have HB2 := Lib.hid (HB1.out.trans (b.mono HB1.out.size)); clear b))
    go_ret2
    obtain rfl : namesW s.data.toList 0 = r := HE.out
    exact ⟨rfl, HB2.out⟩

theorem joinWR_yes {a b : List UInt8} (h : joinOk a b = true) : joinWR a b = (true, joinW a b) := by rw [joinWR, h]; rfl
theorem joinWR_no {a b : List UInt8} (h : joinOk a b = false) : joinWR a b = (false, []) := by rw [joinWR, h]; rfl

end Go.Proofs.YtmhalaleoklplaaDoor
