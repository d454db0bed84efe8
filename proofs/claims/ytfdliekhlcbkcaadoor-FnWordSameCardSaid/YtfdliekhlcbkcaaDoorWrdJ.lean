/-
  Words renamed and joined: the program's.
-/
import Derived.Test.YtfdliekhlcbkcaaDoorSumW
namespace Go.Proofs.YtfdliekhlcbkcaaDoor
open Go.RowKit

theorem named0_any (s : ByteArray) (w : World) (hW : Word s.data.toList) :
    Calls Tryd.prog 57 #[.string s, .int .u8 97] w fun e w' => e = .returned (.string ⟨(namesW s.data.toList 0).toArray⟩) ∧ Below w.heap.size w w' := named_any s 0 w hW (by omega)

set_option maxHeartbeats 800000 in
theorem impl_namesWR (w : World) (s : ByteArray) (hs : s.size ≤ 1048576) {ok : Bool} {r : List UInt8} (hR : namesWR s.data.toList = (ok, r)) :
    Calls Tryd.prog 17 #[.string s] w fun e w' => e = .returned (.tuple #[.string ⟨r.toArray⟩, .bool ok]) ∧ Below w.heap.size w w' := by
  obtain ⟨b, hb⟩ : ∃ b, wordB s.data.toList = b := ⟨_, rfl⟩
  have HBB := Lib.hid hb
  rw [namesWR, hb] at hR
  cases b with
  | false =>
    simp only [strR, Bool.false_eq_true, if_false, Prod.mk.injEq] at hR
    obtain ⟨rfl, rfl⟩ := hR
    clear hb
    go_enter Tryd.func17, Tryd.ntmps17
    go_wp2_with (go_at_call 39; refine (implWord_any s _ hs HBB.out).mono ?_; rintro e w1 ⟨rfl, b⟩; have HB1 := Lib.hid b; clear b)
    go_ret2
    exact ⟨rfl, HB1.out⟩
  | true =>
    simp only [strR, if_true, Prod.mk.injEq] at hR
    obtain ⟨rfl, e⟩ := hR
    have HE := Lib.hid e
    have HW := Lib.hid (wordB_iff.1 hb)
    clear e hb
    go_enter Tryd.func17, Tryd.ntmps17
    go_wp2_with (first
      | (go_at_call 39; refine (implWord_any s _ hs HBB.out).mono ?_; rintro e w1 ⟨rfl, b⟩; have HB1 := Lib.hid b; clear b)
      | (go_at_call 57; refine (named0_any s _ HW.out).mono ?_; rintro e w2 ⟨rfl, b⟩; have HB2 := Lib.hid (HB1.out.trans (b.mono HB1.out.size)); clear b))
    go_ret2
    obtain rfl : namesW s.data.toList 0 = r := HE.out
    exact ⟨rfl, HB2.out⟩

theorem joinWR_yes {a b : List UInt8} (h : joinOk a b = true) : joinWR a b = (true, joinW a b) := by rw [joinWR, h]; rfl
theorem joinWR_no {a b : List UInt8} (h : joinOk a b = false) : joinWR a b = (false, []) := by rw [joinWR, h]; rfl

set_option maxHeartbeats 1600000 in
theorem impl_joinWR (w : World) (a : ByteArray) (hs : a.size ≤ 1048576) (b : ByteArray) (hs' : b.size ≤ 1048576) {ok : Bool} {r : List UInt8} (hR : joinWR a.data.toList b.data.toList = (ok, r)) :
    Calls Tryd.prog 34 #[.string a, .string b] w fun e w' => e = .returned (.tuple #[.string ⟨r.toArray⟩, .bool ok]) ∧ Below w.heap.size w w' := by
  by_cases ha : wordB a.data.toList = true
  · have HA : Hid (wordB a.data.toList = true) := ha
    by_cases hb : wordB b.data.toList = true
    · have HB : Hid (wordB b.data.toList = true) := hb
      have hwa := wordB_iff.1 ha
      have hwb := wordB_iff.1 hb
      have hla := hwa.len
      have hlb := hwb.len
      rw [len_str] at hla hlb
      by_cases hlt : a.size + b.size ≤ 10
      · have hj : joinOk a.data.toList b.data.toList = true := by rw [joinOk, ha, hb, len_str, len_str, decide_eq_true hlt]; rfl
        have h := (joinWR_yes hj).symm.trans hR
        simp only [Prod.mk.injEq] at h
        obtain ⟨rfl, e⟩ := h
        have HE : Hid (accS [a.data.toList, b.data.toList] 2 = r) := by rw [Hid, ← e]; simp [accS, joinW, kS, List.getD]
        have HC := Lib.hid (fun (W : World) => sumOf_any W.heap.size 2 2 (fun i => if i = 0 then a else b) [a.data.toList, b.data.toList] (W.alloc (.cells #[.string a, .string b] 53)) rfl (by omega) (by omega)
          (by simp [kS, List.getD]; omega) (fun i hi => by
            match i, hi with
            | 0, _ => exact hwa
            | 1, _ => exact hwb
            | _ + 2, h => exact absurd h (by omega)) (fun i hi => by
            match i, hi with
            | 0, _ => exact ⟨by rw [cell_of_row _ _ 0 _ _ (0, 0) (heap_alloc_new W _)]; rfl, rfl⟩
            | 1, _ => exact ⟨by rw [cell_of_row _ _ 1 _ _ (0, 0) (heap_alloc_new W _)]; rfl, rfl⟩
            | _ + 2, h => exact absurd h (by omega)))
        have hd : decide ((10 : Int) < (a.size : Int) + (b.size : Int)) = false := by simp; omega
        clear hR ha hb hj e hwa hwb
        go_enter Tryd.func34, Tryd.ntmps34
        go_wp2_with (first
          | (go_at_call_of 39 (Value.string a); refine (implWord_any a _ hs HA.out).mono ?_; rintro e w1 ⟨rfl, b1⟩; have HB1 := Lib.hid b1; clear b1)
          | (go_at_call_of 39 (Value.string b); refine (implWord_any b _ hs' HB.out).mono ?_; rintro e w2 ⟨rfl, b1⟩; have HB2 := Lib.hid (HB1.out.trans (b1.mono HB1.out.size)); clear b1)
          | (go_at_call 71; refine (HC.out w2).mono ?_; rintro e w3 ⟨rfl, b1⟩; rw [HE.out]; have HB3 : Hid (Below w.heap.size w w3) := (HB2.out.alloc HB2.out.size _).trans (b1.mono (by rw [World.size_alloc]; have := HB2.out.size; omega)); clear b1))
        go_ret2
        exact ⟨rfl, HB3.out⟩
      · have hj : joinOk a.data.toList b.data.toList = false := by rw [joinOk, len_str, len_str, decide_eq_false hlt, Bool.and_false]
        have h := (joinWR_no hj).symm.trans hR
        simp only [Prod.mk.injEq] at h
        obtain ⟨rfl, rfl⟩ := h
        have hd : decide ((10 : Int) < (a.size : Int) + (b.size : Int)) = true := by simp; omega
        clear hR ha hb hj hwa hwb
        go_enter Tryd.func34, Tryd.ntmps34
        go_wp2_with (first
          | (go_at_call_of 39 (Value.string a); refine (implWord_any a _ hs HA.out).mono ?_; rintro e w1 ⟨rfl, b1⟩; have HB1 := Lib.hid b1; clear b1)
          | (go_at_call_of 39 (Value.string b); refine (implWord_any b _ hs' HB.out).mono ?_; rintro e w2 ⟨rfl, b1⟩; have HB2 := Lib.hid (HB1.out.trans (b1.mono HB1.out.size)); clear b1))
        go_ret2
        exact ⟨rfl, HB2.out⟩
    · have hb' : wordB b.data.toList = false := by simpa using hb
      have HB : Hid (wordB b.data.toList = false) := hb'
      have hj : joinOk a.data.toList b.data.toList = false := by rw [joinOk, hb', Bool.and_false, Bool.false_and]
      have h := (joinWR_no hj).symm.trans hR
      simp only [Prod.mk.injEq] at h
      obtain ⟨rfl, rfl⟩ := h
      clear hR ha hb hb' hj
      go_enter Tryd.func34, Tryd.ntmps34
      go_wp2_with (first
        | (go_at_call_of 39 (Value.string a); refine (implWord_any a _ hs HA.out).mono ?_; rintro e w1 ⟨rfl, b1⟩; have HB1 := Lib.hid b1; clear b1)
        | (go_at_call_of 39 (Value.string b); refine (implWord_any b _ hs' HB.out).mono ?_; rintro e w2 ⟨rfl, b1⟩; have HB2 := Lib.hid (HB1.out.trans (b1.mono HB1.out.size)); clear b1))
      go_ret2
      exact ⟨rfl, HB2.out⟩
  · have ha' : wordB a.data.toList = false := by simpa using ha
    have HA : Hid (wordB a.data.toList = false) := ha'
    have hj : joinOk a.data.toList b.data.toList = false := by rw [joinOk, ha', Bool.false_and, Bool.false_and]
    have h := (joinWR_no hj).symm.trans hR
    simp only [Prod.mk.injEq] at h
    obtain ⟨rfl, rfl⟩ := h
    clear hR ha ha' hj
    go_enter Tryd.func34, Tryd.ntmps34
    go_wp2_with (go_at_call_of 39 (Value.string a); refine (implWord_any a _ hs HA.out).mono ?_; rintro e w1 ⟨rfl, b1⟩; have HB1 := Lib.hid b1; clear b1)
    go_ret2
    exact ⟨rfl, HB1.out⟩

end Go.Proofs.YtfdliekhlcbkcaaDoor
