/-
  Words turned and read back: the model's and the program's.
-/
import Derived.Test.YtmhalaleoklplaaDoorRopeD
import Derived.Test.YtmhalaleoklplaaDoorWrdT
namespace Go.Proofs.YtmhalaleoklplaaDoor
open Go.RowKit

theorem strR_yes (l : List UInt8) : strR true l = (true, l) := rfl
theorem strR_no (l : List UInt8) : strR false l = (false, []) := rfl

set_option maxHeartbeats 800000 in
theorem impl_turnWR (w : World) (s : ByteArray) (hs : s.size ≤ 1048576) {ok : Bool} {r : List UInt8} (hR : turnWR s.data.toList = (ok, r)) :
    Calls Tryd.prog 7 #[.string s] w fun e w' => e = .returned (.tuple #[.string ⟨r.toArray⟩, .bool ok]) ∧ Below w.heap.size w w' := by
  obtain ⟨b, hb⟩ : ∃ b, wordB s.data.toList = b := ⟨_, rfl⟩
  have HBB := Lib.hid hb
  rw [turnWR, hb] at hR
  cases b with
  | false =>
    rw [strR_no] at hR
    simp only [Prod.mk.injEq] at hR
    obtain ⟨rfl, rfl⟩ := hR
    clear hb
    go_enter Tryd.func7, Tryd.ntmps7
    go_wp2_with (go_at_call 11; refine (implWord_any s _ hs HBB.out).mono ?_; rintro e w1 ⟨rfl, b⟩; have HB1 := Lib.hid b; clear b)
    go_ret2
    exact ⟨rfl, HB1.out⟩
  | true =>
    rw [strR_yes] at hR
    simp only [Prod.mk.injEq] at hR
    obtain ⟨rfl, e⟩ := hR
    have HE := Lib.hid e
    have hlen := (wordB_iff.1 hb).len
    rw [len_str] at hlen
    have HT : Hid (s.data.toList.take 1 ≠ []) := by intro e; have := congrArg List.length e; rw [List.length_take, len_str, List.length_nil] at this; omega
    have HD : Hid (s.data.toList.drop 1 ≠ []) := by intro e; have := congrArg List.length e; rw [List.length_drop, len_str, List.length_nil] at this; omega
    have E3 : Hid ((s.data.toList.drop 1).length + (s.data.toList.take 1).length ≤ 1048576) := by rw [Hid, List.length_drop, List.length_take, len_str]; omega
    have E4 : Hid (s.data.toList.length ≤ 1048576) := by rw [Hid, len_str]; exact hs
    have E5 : Hid (1 ≤ s.data.toList.length) := by rw [Hid, len_str]; omega
    clear e hb
    go_enter Tryd.func7, Tryd.ntmps7
    go_wp2_with (first
      | (go_at_call 11; refine (implWord_any s _ hs HBB.out).mono ?_; rintro e w1 ⟨rfl, b⟩; have HB1 := Lib.hid b; clear b)
      | (go_at_call 18; refine (ropeOf_any s.size s _ rfl (by omega) hs).mono ?_; rintro e w2 ⟨b, rfl, hr, hb⟩; have HR2 := Lib.hid hr; have HB2 := Lib.hid hb; clear hr hb)
      | (go_at_call 19; refine (cut_any HR2.out w2 ⟨fun _ _ => rfl, Nat.le_refl _⟩ E4.out 1 E5.out).mono ?_; rintro e w3 ⟨v1, v2, rfl, p1, p2, hb⟩; have P1 := Lib.hid p1; have P2 := Lib.hid p2; have HB3 := Lib.hid hb; obtain ⟨q1, rfl, -⟩ := p1.get HT.out; obtain ⟨q2, rfl, -⟩ := p2.get HD.out; clear p1 p2 hb)
      | (go_at_call 20; refine (joined_two (.pointer (some ⟨q2, 0, none⟩)) (.pointer (some ⟨q1, 0, none⟩)) _ _ w3 E3.out P2.out P1.out).mono ?_; rintro e w4 ⟨v, rfl, p3, hb⟩; have P3 := Lib.hid p3; have HB4 := Lib.hid hb; obtain ⟨q3, rfl, hr3⟩ := p3.get (by simp [HT.out]); have HR3 := Lib.hid hr3; clear p3 hb hr3)
      | (go_at_call 21; refine (text_any _ q3 _ HR3.out (by rw [List.length_append]; exact E3.out)).mono ?_; rintro e w5 ⟨rfl, hb⟩; have HB5 := Lib.hid hb; clear hb))
    go_ret2
    obtain rfl : s.data.toList.tail ++ s.data.toList.take 1 = r := by rw [← HE.out, turnW, List.drop_one]
    refine ⟨rfl, ?_⟩
    exact HB1.out.trans (((HB2.out.trans ((HB3.out.trans ((HB4.out.trans (HB5.out.mono HB4.out.size)).mono HB3.out.size)).mono HB2.out.size))).mono HB1.out.size)

set_option maxHeartbeats 800000 in
theorem impl_backWR (w : World) (s : ByteArray) (hs : s.size ≤ 1048576) {ok : Bool} {r : List UInt8} (hR : backWR s.data.toList = (ok, r)) :
    Calls Tryd.prog 8 #[.string s] w fun e w' => e = .returned (.tuple #[.string ⟨r.toArray⟩, .bool ok]) ∧ Below w.heap.size w w' := by
  obtain ⟨b, hb⟩ : ∃ b, wordB s.data.toList = b := ⟨_, rfl⟩
  have HBB := Lib.hid hb
  rw [backWR, hb] at hR
  cases b with
  | false =>
    rw [strR_no] at hR
    simp only [Prod.mk.injEq] at hR
    obtain ⟨rfl, rfl⟩ := hR
    clear hb
    go_enter Tryd.func8, Tryd.ntmps8
    go_wp2_with (go_at_call 11; refine (implWord_any s _ hs HBB.out).mono ?_; rintro e w1 ⟨rfl, b⟩; have HB1 := Lib.hid b; clear b)
    go_ret2
    exact ⟨rfl, HB1.out⟩
  | true =>
    rw [strR_yes] at hR
    simp only [Prod.mk.injEq] at hR
    obtain ⟨rfl, e⟩ := hR
    have HE := Lib.hid e
    have hlen := (wordB_iff.1 hb).len
    rw [len_str] at hlen
    have E4 : Hid (s.data.toList.length ≤ 1048576) := by rw [Hid, len_str]; exact hs
    clear e hb
    go_enter Tryd.func8, Tryd.ntmps8
    go_wp2_with (first
      | (go_at_call 11; refine (implWord_any s _ hs HBB.out).mono ?_; rintro e w1 ⟨rfl, b⟩; have HB1 := Lib.hid b; clear b)
      | (go_at_call 18; refine (ropeOf_any s.size s _ rfl (by omega) hs).mono ?_; rintro e w2 ⟨b, rfl, hr, hb⟩; have HR2 := Lib.hid hr; have HB2 := Lib.hid hb; clear hr hb)
      | (go_at_call 22; refine (ropeBack_any HR2.out w2 ⟨fun _ _ => rfl, Nat.le_refl _⟩ E4.out).mono ?_; rintro e w3 ⟨q3, rfl, hr, hb⟩; have HR3 := Lib.hid hr; have HB3 := Lib.hid hb; clear hr hb)
      | (go_at_call 21; refine (text_any _ q3 _ HR3.out (by rw [backW_len]; exact E4.out)).mono ?_; rintro e w5 ⟨rfl, hb⟩; have HB5 := Lib.hid hb; clear hb))
    go_ret2
    obtain rfl : backW s.data.toList = r := HE.out
    refine ⟨rfl, ?_⟩
    exact HB1.out.trans ((HB2.out.trans ((HB3.out.trans (HB5.out.mono HB3.out.size)).mono HB2.out.size)).mono HB1.out.size)

/-! ### The model's -/
theorem l8Other_any (c : UInt8) (w : World) (h : 0 ≤ ltr c) :
    Calls Tryd.prog 28 #[.int .u8 (c.toNat : Int)] w fun e w' => e = .returned (.string ⟨#[oth c]⟩) ∧ Below w.heap.size w w' := by
  obtain ⟨n, hn⟩ := Int.eq_ofNat_of_zero_le h
  have hr := (ltr_range c).2
  have ho := oth_eq c h
  rw [hn] at ho
  have HO : Hid (oth c = nmb n (!sml c)) := ho
  have HN := Lib.hid hn
  have hn5 : n < 32 := by omega
  clear ho hn h hr
  go_enter Tryd.func28, Tryd.ntmps28
  go_wp2_with (first
    | (go_at_call 31; refine (l8Letter_any _ _).mono ?_; rintro e w' ⟨rfl, rfl⟩; rw [HN.out])
    | (go_at_call 16; refine (l8Small_any _ _).mono ?_; rintro e w' ⟨rfl, rfl⟩)
    | (go_at_call 27; refine (l8Name_any n _ _ hn5).mono ?_; rintro e w1 ⟨rfl, b⟩; have HB := Lib.hid b; clear b))
  go_ret
  refine ⟨?_, HB.out⟩
  rw [HO.out]
  rfl

/-- What has been read back of the letters from k on. -/
theorem backW_step (l : List UInt8) {k : Nat} (h : k < l.length) : backW (l.drop k) = backW (l.drop (k + 1)) ++ [oth (gb l k)] := by
  have e : ∀ (a : UInt8) (r : List UInt8), backW (a :: r) = backW r ++ [oth a] := fun a r => by simp [backW]
  rw [List.drop_eq_getElem_cons h, gb_eq h, e]

end Go.Proofs.YtmhalaleoklplaaDoor
