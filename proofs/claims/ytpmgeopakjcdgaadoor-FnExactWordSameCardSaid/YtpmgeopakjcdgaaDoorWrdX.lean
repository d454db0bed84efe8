/-
  Words: corners, numbers, sides, gluings: what the laws ask of the model and of the program.
-/
import Derived.Test.YtpmgeopakjcdgaaDoorWrdC
import Derived.Test.YtpmgeopakjcdgaaDoorWrdK
namespace Go.Proofs.YtpmgeopakjcdgaaDoor
open Go.RowKit

theorem below_undrewN {B k : Nat} {w w' : World} (h : Below B (w.drewN k) w') : Below B w w' := ⟨h.os, h.tape, h.output, h.size, h.block⟩
noncomputable def corR (l : List UInt8) : Int := if wordB l then (corN l : Int) else -1
noncomputable def numN (l : List UInt8) : Int := (corN l : Int) - (l.length / 2 : Nat) + 1
noncomputable def numR (l : List UInt8) : Int := if wordB l then numN l else -100
theorem corR_yes {l : List UInt8} (h : wordB l = true) : corR l = corN l := by rw [corR, if_pos h]
theorem corR_no {l : List UInt8} (h : wordB l = false) : corR l = -1 := by rw [corR, if_neg (by simp [h])]
theorem numR_yes {l : List UInt8} (h : wordB l = true) : numR l = numN l := by rw [numR, if_pos h]
theorem numR_no {l : List UInt8} (h : wordB l = false) : numR l = -100 := by rw [numR, if_neg (by simp [h])]
theorem Word.numN {l : List UInt8} (h : Word l) : -4 ≤ numN l ∧ numN l ≤ 2 := by
  have := h.cor_le; have := h.len; unfold Go.Proofs.YtpmgeopakjcdgaaDoor.numN; omega

set_option maxHeartbeats 800000 in
theorem spec_corR (w : World) (s : ByteArray) (hs : s.size ≤ 1048576) {r : Int} (hR : corR s.data.toList = r) :
    Calls Tryd.prog 9 #[.string s] w fun e w' => e = .returned (.int .i64 r) ∧ Below w.heap.size w w' := by
  obtain ⟨b, hb⟩ : ∃ b, wordB s.data.toList = b := ⟨_, rfl⟩
  have HBB := Lib.hid hb
  cases b with
  | false =>
    have HR := Lib.hid ((corR_no hb).symm.trans hR); clear hR hb
    go_enter Tryd.func9, Tryd.ntmps9
    go_wp2_with (go_at_call 24; refine (specWord_any s _ hs HBB.out).mono ?_; rintro e w' ⟨rfl, q1, rfl⟩)
    go_ret
    exact ⟨ret_intE HR.out, below_drewN (Below.refl _ _) _⟩
  | true =>
    have HR := Lib.hid ((corR_yes hb).symm.trans hR)
    have HW := Lib.hid (wordB_iff.1 hb); clear hR hb
    go_enter Tryd.func9, Tryd.ntmps9
    go_wp2_with (first
      | (go_at_call 24; refine (specWord_any s _ hs HBB.out).mono ?_; rintro e w' ⟨rfl, q1, rfl⟩)
      | (go_at_call 25; refine (l8Corners_any s _ HW.out).mono ?_; rintro e w' ⟨rfl, b⟩; have HB1 := Lib.hid (below_undrewN b); clear b))
    go_ret
    exact ⟨ret_intE HR.out, HB1.out⟩

set_option maxHeartbeats 800000 in
theorem impl_corR (w : World) (s : ByteArray) (hs : s.size ≤ 1048576) {r : Int} (hR : corR s.data.toList = r) :
    Calls Tryd.prog 10 #[.string s] w fun e w' => e = .returned (.int .i64 r) ∧ Below w.heap.size w w' := by
  obtain ⟨b, hb⟩ : ∃ b, wordB s.data.toList = b := ⟨_, rfl⟩
  have HBB := Lib.hid hb
  cases b with
  | false =>
    have HR := Lib.hid ((corR_no hb).symm.trans hR); clear hR hb
    go_enter Tryd.func10, Tryd.ntmps10
    go_wp2_with (go_at_call 26; refine (implWord_any s _ hs HBB.out).mono ?_; rintro e w1 ⟨rfl, b⟩; have HB1 := Lib.hid b; clear b)
    go_ret
    exact ⟨ret_intE HR.out, HB1.out⟩
  | true =>
    have HR := Lib.hid ((corR_yes hb).symm.trans hR)
    have HW := Lib.hid (wordB_iff.1 hb); clear hR hb
    go_enter Tryd.func10, Tryd.ntmps10
    go_wp2_with (first
      | (go_at_call 26; refine (implWord_any s _ hs HBB.out).mono ?_; rintro e w1 ⟨rfl, b⟩; have HB1 := Lib.hid b; clear b)
      | (go_at_call 27; refine (corners_any s _ HW.out).mono ?_; rintro e w2 ⟨rfl, b⟩; have HB2 := Lib.hid (HB1.out.trans (b.mono HB1.out.size)); clear b))
    go_ret
    exact ⟨ret_intE HR.out, HB2.out⟩

end Go.Proofs.YtpmgeopakjcdgaaDoor
