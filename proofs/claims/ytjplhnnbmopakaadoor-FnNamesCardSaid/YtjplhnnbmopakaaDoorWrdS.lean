/-
  Words of one class: the model's and the program's.
-/
import Derived.Test.YtjplhnnbmopakaaDoorWrdL
namespace Go.Proofs.YtjplhnnbmopakaaDoor
open Go.RowKit

noncomputable def sameR (a b : List UInt8) : Bool := wordB a && wordB b && decide (clsR a = clsR b)
theorem specWordB (w : World) (s : ByteArray) (hs : s.size ≤ 1048576) {r : Bool} (hR : wordB s.data.toList = r) :
    Calls Tryd.prog 9 #[.string s] w fun e w' => e = .returned (.bool r) ∧ Below w.heap.size w w' :=
  (specWord_any s w hs hR).mono fun _ _ ⟨he, k, hw⟩ => ⟨he, hw ▸ below_drewN (Below.refl _ _) k⟩
theorem list_beq {x y : List UInt8} : (x == y) = decide (x = y) := by rw [Bool.eq_iff_iff, beq_iff_eq, decide_eq_true_eq]

set_option maxHeartbeats 1600000 in
theorem impl_sameR (w : World) (a : ByteArray) (hs : a.size ≤ 1048576) (b : ByteArray) (hs' : b.size ≤ 1048576) {r : Bool} (hR : sameR a.data.toList b.data.toList = r) :
    Calls Tryd.prog 15 #[.string a, .string b] w fun e w' => e = .returned (.bool r) ∧ Below w.heap.size w w' := by
  by_cases ha : wordB a.data.toList = true
  · have HA : Hid (wordB a.data.toList = true) := ha
    by_cases hb : wordB b.data.toList = true
    · have HB : Hid (wordB b.data.toList = true) := hb
      obtain ⟨x, hx⟩ : ∃ x, clsR a.data.toList = x := ⟨_, rfl⟩
      obtain ⟨y, hy⟩ : ∃ y, clsR b.data.toList = y := ⟨_, rfl⟩
      have hxy : (x == y) = r := by rw [list_beq, ← hR, sameR, ha, hb, hx, hy]; rfl
      have HWA := Lib.hid (wordB_iff.1 ha); have HWB := Lib.hid (wordB_iff.1 hb)
      have HCA : Hid (clsN a.data.toList = x) := (clsR_yes ha).symm.trans hx
      have HCB : Hid (clsN b.data.toList = y) := (clsR_yes hb).symm.trans hy
      clear hR ha hb hx hy
      go_enter Tryd.func15, Tryd.ntmps15
      go_wp2_with (first
        | (go_at_call_of 8 (Value.string a); refine (implWord_any a _ hs HA.out).mono ?_; rintro e w1 ⟨rfl, b1⟩; have HB1 := Lib.hid b1; clear b1)
        | (go_at_call_of 8 (Value.string b); refine (implWord_any b _ hs' HB.out).mono ?_; rintro e w2 ⟨rfl, b1⟩; have HB2 := Lib.hid (HB1.out.trans (b1.mono HB1.out.size)); clear b1)
        | (go_at_call_of 32 (Value.string a); refine (class_any _ a HWA.out).mono ?_; rintro e w3 ⟨rfl, b1⟩; rw [HCA.out]; have HB3 := Lib.hid (HB2.out.trans (b1.mono HB2.out.size)); clear b1)
        | (go_at_call_of 32 (Value.string b); refine (class_any _ b HWB.out).mono ?_; rintro e w4 ⟨rfl, b1⟩; rw [HCB.out]; have HB4 := Lib.hid (HB3.out.trans (b1.mono HB3.out.size)); clear b1))
      go_ret
      exact ⟨rfl, HB4.out⟩
    · have hb' : wordB b.data.toList = false := by simpa using hb
      have HB : Hid (wordB b.data.toList = false) := hb'
      have HR : Hid (r = false) := by rw [Hid, ← hR, sameR, hb', Bool.and_false, Bool.false_and]
      clear hR ha hb hb'
      go_enter Tryd.func15, Tryd.ntmps15
      go_wp2_with (first
        | (go_at_call_of 8 (Value.string a); refine (implWord_any a _ hs HA.out).mono ?_; rintro e w1 ⟨rfl, b1⟩; have HB1 := Lib.hid b1; clear b1)
        | (go_at_call_of 8 (Value.string b); refine (implWord_any b _ hs' HB.out).mono ?_; rintro e w2 ⟨rfl, b1⟩; have HB2 := Lib.hid (HB1.out.trans (b1.mono HB1.out.size)); clear b1))
      go_ret
      exact ⟨ret_boolE HR.out.symm, HB2.out⟩
  · have ha' : wordB a.data.toList = false := by simpa using ha
    have HA : Hid (wordB a.data.toList = false) := ha'
    have HR : Hid (r = false) := by rw [Hid, ← hR, sameR, ha', Bool.false_and, Bool.false_and]
    clear hR ha ha'
    go_enter Tryd.func15, Tryd.ntmps15
    go_wp2_with (go_at_call_of 8 (Value.string a); refine (implWord_any a _ hs HA.out).mono ?_; rintro e w1 ⟨rfl, b1⟩; have HB1 := Lib.hid b1; clear b1)
    go_ret
    exact ⟨ret_boolE HR.out.symm, HB1.out⟩

end Go.Proofs.YtjplhnnbmopakaaDoor
