/-
  Words renamed and joined: the model's.
-/
import Derived.Test.YtfdliekhlcbkcaaDoorNamesW
import Derived.Test.YtfdliekhlcbkcaaDoorWrdJ
namespace Go.Proofs.YtfdliekhlcbkcaaDoor
open Go.RowKit

theorem below_undrewJ {B k : Nat} {w w' : World} (h : Below B (w.drewN k) w') : Below B w w' := ⟨h.os, h.tape, h.output, h.size, h.block⟩
theorem l8Names0_any (s : ByteArray) (w : World) (hW : Word s.data.toList) :
    Calls Tryd.prog 72 #[.string s, .int .i64 0] w fun e w' => e = .returned (.string ⟨(namesW s.data.toList 0).toArray⟩) ∧ Below w.heap.size w w' := l8Names_any s 0 w hW (by omega)
theorem specWordJ (w : World) (s : ByteArray) (hs : s.size ≤ 1048576) {r : Bool} (hR : wordB s.data.toList = r) :
    Calls Tryd.prog 50 #[.string s] w fun e w' => e = .returned (.bool r) ∧ Below w.heap.size w w' :=
  (specWord_any s w hs hR).mono fun _ _ ⟨he, k, hw⟩ => ⟨he, hw ▸ below_drewN (Below.refl _ _) k⟩

set_option maxRecDepth 100000 in
set_option maxHeartbeats 1600000 in
theorem spec_joinWR (w : World) (a : ByteArray) (hs : a.size ≤ 1048576) (b : ByteArray) (hs' : b.size ≤ 1048576) {ok : Bool} {r : List UInt8} (hR : joinWR a.data.toList b.data.toList = (ok, r)) :
    Calls Tryd.prog 35 #[.string a, .string b] w fun e w' => e = .returned (.tuple #[.string ⟨r.toArray⟩, .bool ok]) ∧ Below w.heap.size w w' := by
  by_cases ha : wordB a.data.toList = true
  · have HA : Hid (wordB a.data.toList = true) := ha
    by_cases hb : wordB b.data.toList = true
    · have HB : Hid (wordB b.data.toList = true) := hb
      have hwa := wordB_iff.1 ha
      have hwb := wordB_iff.1 hb
      have hla := hwa.len
      have hlb := hwb.len
      rw [len_str] at hla hlb
      by_cases hlt : a.size + b.size ≤ 10
      · have hj : joinOk a.data.toList b.data.toList = true := by rw [joinOk, ha, hb, len_str, len_str, decide_eq_true hlt]; rfl
        have h := (joinWR_yes hj).symm.trans hR
        simp only [Prod.mk.injEq] at h
        obtain ⟨rfl, e⟩ := h
        obtain ⟨h2, hh⟩ : ∃ h, a.size / 2 = h := ⟨_, rfl⟩
        have hdv : (a.size : Int) / 2 = (h2 : Int) := by omega
        have hdv2 : (a.size : Int).tdiv 2 = (h2 : Int) := by rw [Int.tdiv_eq_ediv_of_nonneg (by omega)]; omega
        have HE : Hid (r = namesW a.data.toList 0 ++ namesW b.data.toList h2) := by rw [Hid, ← e, joinW, len_str, hh]
        have HWA := Lib.hid hwa; have HWB := Lib.hid hwb
        have hh5 : h2 ≤ 5 := by omega
        have hla2 : (namesW a.data.toList 0).length ≤ 10 := by rw [namesW_len, len_str]; omega
        have hlb2 : (namesW b.data.toList h2).length ≤ 10 := by rw [namesW_len, len_str]; omega
        have hd : decide ((10 : Int) < (a.size : Int) + (b.size : Int)) = false := by simp; omega
        have hcat : ∀ W : World, (Op.stringOp .add ⟨(namesW a.data.toList 0).toArray⟩ ⟨(namesW b.data.toList h2).toArray⟩).run Tryd.prog W = .ok (.string ⟨(namesW a.data.toList 0 ++ namesW b.data.toList h2).toArray⟩) W := fun W => run_string_add_lists W _ _ (by omega) (by omega)
        clear hR ha hb hj e hwa hwb hh
        go_enter Tryd.func35, Tryd.ntmps35
        go_wp2_with (first
          | (go_at_call_of 50 (Value.string a); refine (specWordJ _ a hs HA.out).mono ?_; rintro e w1 ⟨rfl, b1⟩; have HB1 := Lib.hid b1; clear b1)
          | (go_at_call_of 50 (Value.string b); refine (specWordJ _ b hs' HB.out).mono ?_; rintro e w2 ⟨rfl, b1⟩; have HB2 := Lib.hid (HB1.out.trans (b1.mono HB1.out.size)); clear b1)
          | (go_at_call_of 72 (Value.string a); (with_reducible refine (l8Names0_any a _ HWA.out).mono ?_); rintro e w3 ⟨rfl, b1⟩; have HB3 := Lib.hid (HB2.out.trans (b1.mono HB2.out.size)); clear b1)
          | (go_at_call_of 72 (Value.string b); (with_reducible refine (l8Names_any b h2 _ HWB.out hh5).mono ?_); rintro e w4 ⟨rfl, b1⟩; have HB4 := Lib.hid (HB3.out.trans (b1.mono HB3.out.size)); clear b1))
        go_ret2
        obtain rfl := HE.out
        exact ⟨rfl, HB4.out⟩
      · have hj : joinOk a.data.toList b.data.toList = false := by rw [joinOk, len_str, len_str, decide_eq_false hlt, Bool.and_false]
        have h := (joinWR_no hj).symm.trans hR
        simp only [Prod.mk.injEq] at h
        obtain ⟨rfl, rfl⟩ := h
        have hd : decide ((10 : Int) < (a.size : Int) + (b.size : Int)) = true := by simp; omega
        clear hR ha hb hj hwa hwb
        go_enter Tryd.func35, Tryd.ntmps35
        go_wp2_with (first
          | (go_at_call_of 50 (Value.string a); refine (specWordJ _ a hs HA.out).mono ?_; rintro e w1 ⟨rfl, b1⟩; have HB1 := Lib.hid b1; clear b1)
          | (go_at_call_of 50 (Value.string b); refine (specWordJ _ b hs' HB.out).mono ?_; rintro e w2 ⟨rfl, b1⟩; have HB2 := Lib.hid (HB1.out.trans (b1.mono HB1.out.size)); clear b1))
        go_ret2
        exact ⟨rfl, HB2.out⟩
    · have hb' : wordB b.data.toList = false := by simpa using hb
      have HB : Hid (wordB b.data.toList = false) := hb'
      have hj : joinOk a.data.toList b.data.toList = false := by rw [joinOk, hb', Bool.and_false, Bool.false_and]
      have h := (joinWR_no hj).symm.trans hR
      simp only [Prod.mk.injEq] at h
      obtain ⟨rfl, rfl⟩ := h
      clear hR ha hb hb' hj
      go_enter Tryd.func35, Tryd.ntmps35
      go_wp2_with (first
        | (go_at_call_of 50 (Value.string a); refine (specWordJ _ a hs HA.out).mono ?_; rintro e w1 ⟨rfl, b1⟩; have HB1 := Lib.hid b1; clear b1)
        | (go_at_call_of 50 (Value.string b); refine (specWordJ _ b hs' HB.out).mono ?_; rintro e w2 ⟨rfl, b1⟩; have HB2 := Lib.hid (HB1.out.trans (b1.mono HB1.out.size)); clear b1))
      go_ret2
      exact ⟨rfl, HB2.out⟩
  · have ha' : wordB a.data.toList = false := by simpa using ha
    have HA : Hid (wordB a.data.toList = false) := ha'
    have hj : joinOk a.data.toList b.data.toList = false := by rw [joinOk, ha', Bool.false_and, Bool.false_and]
    have h := (joinWR_no hj).symm.trans hR
    simp only [Prod.mk.injEq] at h
    obtain ⟨rfl, rfl⟩ := h
    clear hR ha ha' hj
    go_enter Tryd.func35, Tryd.ntmps35
    go_wp2_with (go_at_call_of 50 (Value.string a); refine (specWordJ _ a hs HA.out).mono ?_; rintro e w1 ⟨rfl, b1⟩; have HB1 := Lib.hid b1; clear b1)
    go_ret2
    exact ⟨rfl, HB1.out⟩

end Go.Proofs.YtfdliekhlcbkcaaDoor
