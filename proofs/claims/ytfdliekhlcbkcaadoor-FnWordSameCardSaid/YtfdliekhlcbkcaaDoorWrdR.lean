/-
  One byte as a text; digits; names of letters: the model's.
  Words turned and read back: the model's and the program's.
-/
import Derived.Test.YtfdliekhlcbkcaaDoorWrdI
import Derived.Laws.IdiomStrings
import Derived.Test.YtfdliekhlcbkcaaDoorRope
namespace Go.Proofs.YtfdliekhlcbkcaaDoor
open Go.RowKit

/-- A digit's letter. -/
def dgt (n : Nat) : UInt8 := UInt8.ofNat (48 + n)
theorem str_app (a b : ByteArray) : (a ++ b).data.toList = a.data.toList ++ b.data.toList := by simp [ByteArray.data_append]
theorem str_mk {a : ByteArray} {l : List UInt8} (h : a.data.toList = l) : a = ⟨l.toArray⟩ := by subst h; cases a; simp
theorem ret_str {a : ByteArray} {l : List UInt8} (h : a.data.toList = l) : Ending.returned (.string a) = .returned (.string ⟨l.toArray⟩) := by rw [str_mk h]
theorem one_str (w : World) (c : UInt8) : (convert 22 9 (.slice (some ⟨w.heap.size, 0, none⟩) 1 1)).run Tryd.prog (w.alloc (.cells #[.int .u8 (c.toNat : Int)] 5)) = .ok (.string ⟨#[c]⟩) (w.alloc (.cells #[.int .u8 (c.toNat : Int)] 5)) := by
  refine run_convert_bytes_back (P := Tryd.prog) _ 22 9 5 ⟨w.heap.size, 0, none⟩ 1 [c] Tryd.underlying22 Tryd.underlying5 Tryd.underlying9 (fun j hj => ?_)
  obtain rfl : j = 0 := by simp at hj; omega
  have h := cell_of_row (w.alloc (.cells #[.int .u8 (c.toNat : Int)] 5)) w.heap.size 0 _ _ (0, 0) (heap_alloc_new w _)
  exact h

set_option maxRecDepth 20000 in
set_option maxHeartbeats 400000 in
theorem l6Dec_small (n : Nat) (w : World) (hn : n < 10) :
    Calls Tryd.prog 68 #[.int .i64 (n : Int)] w fun e w' => e = .returned (.string ⟨#[dgt n]⟩) ∧ Below w.heap.size w w' := by
  obtain ⟨c, hc⟩ : ∃ c, dgt n = c := ⟨_, rfl⟩
  have hcn : 48 + (n : Int) = (c.toNat : Int) := by rw [← hc, dgt, UInt8.toNat_ofNat', Nat.mod_eq_of_lt (by omega)]; omega
  rw [hc]
  have HS := one_str w c
  have hd1 : decide ((n : Int) < -9223372036854775807) = false := by rw [decide_eq_false_iff_not]; omega
  have hd2 : decide ((n : Int) < 0) = false := by simp
  have hd3 : decide ((n : Int) < 10) = true := by simp; omega
  clear hc
  go_enter Tryd.func68, Tryd.ntmps68
  go_wp2_with fail
  go_ret
  exact ⟨rfl, (Below.refl _ _).alloc (Nat.le_refl _) _⟩

set_option maxHeartbeats 400000 in
theorem l8Name_any (n : Nat) (s : Bool) (w : World) (hn : n < 32) :
    Calls Tryd.prog 70 #[.int .i64 (n : Int), .bool s] w fun e w' => e = .returned (.string ⟨#[nmb n s]⟩) ∧ Below w.heap.size w w' := by
  obtain ⟨c, hc⟩ : ∃ c, nmb n s = c := ⟨_, rfl⟩
  rw [hc]
  have HS := one_str w c
  cases s with
  | true =>
    have hcn : 97 + (n : Int) = (c.toNat : Int) := by rw [← hc]; simp [nmb]; omega
    clear hc
    go_enter Tryd.func70, Tryd.ntmps70
    go_wp2_with fail
    go_ret
    exact ⟨rfl, (Below.refl _ _).alloc (Nat.le_refl _) _⟩
  | false =>
    have hcn : 65 + (n : Int) = (c.toNat : Int) := by rw [← hc]; simp [nmb]; omega
    clear hc
    go_enter Tryd.func70, Tryd.ntmps70
    go_wp2_with fail
    go_ret
    exact ⟨rfl, (Below.refl _ _).alloc (Nat.le_refl _) _⟩

end Go.Proofs.YtfdliekhlcbkcaaDoor

namespace Go.Proofs.YtfdliekhlcbkcaaDoor
open Go.RowKit

theorem strR_yes (l : List UInt8) : strR true l = (true, l) := rfl
theorem strR_no (l : List UInt8) : strR false l = (false, []) := rfl

set_option maxHeartbeats 800000 in
theorem impl_turnWR (w : World) (s : ByteArray) (hs : s.size ≤ 1048576) {ok : Bool} {r : List UInt8} (hR : turnWR s.data.toList = (ok, r)) :
    Calls Tryd.prog 15 #[.string s] w fun e w' => e = .returned (.tuple #[.string ⟨r.toArray⟩, .bool ok]) ∧ Below w.heap.size w w' := by
  obtain ⟨b, hb⟩ : ∃ b, wordB s.data.toList = b := ⟨_, rfl⟩
  have HBB := Lib.hid hb
  rw [turnWR, hb] at hR
  cases b with
  | false =>
    rw [strR_no] at hR
    simp only [Prod.mk.injEq] at hR
    obtain ⟨rfl, rfl⟩ := hR
    clear hb
    go_enter Tryd.func15, Tryd.ntmps15
    go_wp2_with (go_at_call 39; refine (implWord_any s _ hs HBB.out).mono ?_; rintro e w1 ⟨rfl, b⟩; have HB1 := Lib.hid b; clear b)
    go_ret2
    exact ⟨rfl, HB1.out⟩
  | true =>
    rw [strR_yes] at hR
    simp only [Prod.mk.injEq] at hR
    obtain ⟨rfl, e⟩ := hR
    have HE := Lib.hid e
    have hlen := (wordB_iff.1 hb).len
    rw [len_str] at hlen
    have HT : Hid (s.data.toList.take 1 ≠ []) := by intro e; have := congrArg List.length e; rw [List.length_take, len_str, List.length_nil] at this; omega
    have HD : Hid (s.data.toList.drop 1 ≠ []) := by intro e; have := congrArg List.length e; rw [List.length_drop, len_str, List.length_nil] at this; omega
    have E3 : Hid ((s.data.toList.drop 1).length + (s.data.toList.take 1).length ≤ 1048576) := by rw [Hid, List.length_drop, List.length_take, len_str]; omega
    have E4 : Hid (s.data.toList.length ≤ 1048576) := by rw [Hid, len_str]; exact hs
    have E5 : Hid (1 ≤ s.data.toList.length) := by rw [Hid, len_str]; omega
    clear e hb
    go_enter Tryd.func15, Tryd.ntmps15
    go_wp2_with (first
      | (go_at_call 39; refine (implWord_any s _ hs HBB.out).mono ?_; rintro e w1 ⟨rfl, b⟩; have HB1 := Lib.hid b; clear b)
      | (go_at_call 52; refine (ropeOf_any s.size s _ rfl (by omega) hs).mono ?_; rintro e w2 ⟨b, rfl, hr, hb⟩; have HR2 := Lib.hid hr; have HB2 := Lib.hid hb; clear hr hb)
      | (go_at_call 53; refine (cut_any HR2.out w2 ⟨fun _ _ => rfl, Nat.le_refl _⟩ E4.out 1 E5.out).mono ?_; rintro e w3 ⟨v1, v2, rfl, p1, p2, hb⟩; have P1 := Lib.hid p1; have P2 := Lib.hid p2; have HB3 := Lib.hid hb; obtain ⟨q1, rfl, -⟩ := p1.get HT.out; obtain ⟨q2, rfl, -⟩ := p2.get HD.out; clear p1 p2 hb)
      | (go_at_call 54; refine (joined_two (.pointer (some ⟨q2, 0, none⟩)) (.pointer (some ⟨q1, 0, none⟩)) _ _ w3 E3.out P2.out P1.out).mono ?_; rintro e w4 ⟨v, rfl, p3, hb⟩; have P3 := Lib.hid p3; have HB4 := Lib.hid hb; obtain ⟨q3, rfl, hr3⟩ := p3.get (by simp [HT.out]); have HR3 := Lib.hid hr3; clear p3 hb hr3)
      | (go_at_call 55; refine (text_any _ q3 _ HR3.out (by rw [List.length_append]; exact E3.out)).mono ?_; rintro e w5 ⟨rfl, hb⟩; have HB5 := Lib.hid hb; clear hb))
    go_ret2
    obtain rfl : s.data.toList.tail ++ s.data.toList.take 1 = r := by rw [← HE.out, turnW, List.drop_one]
    refine ⟨rfl, ?_⟩
    exact HB1.out.trans (((HB2.out.trans ((HB3.out.trans ((HB4.out.trans (HB5.out.mono HB4.out.size)).mono HB3.out.size)).mono HB2.out.size))).mono HB1.out.size)

set_option maxHeartbeats 800000 in
theorem impl_backWR (w : World) (s : ByteArray) (hs : s.size ≤ 1048576) {ok : Bool} {r : List UInt8} (hR : backWR s.data.toList = (ok, r)) :
    Calls Tryd.prog 16 #[.string s] w fun e w' => e = .returned (.tuple #[.string ⟨r.toArray⟩, .bool ok]) ∧ Below w.heap.size w w' := by
  obtain ⟨b, hb⟩ : ∃ b, wordB s.data.toList = b := ⟨_, rfl⟩
  have HBB := Lib.hid hb
  rw [backWR, hb] at hR
  cases b with
  | false =>
    rw [strR_no] at hR
    simp only [Prod.mk.injEq] at hR
    obtain ⟨rfl, rfl⟩ := hR
    clear hb
    go_enter Tryd.func16, Tryd.ntmps16
    go_wp2_with (go_at_call 39; refine (implWord_any s _ hs HBB.out).mono ?_; rintro e w1 ⟨rfl, b⟩; have HB1 := Lib.hid b; clear b)
    go_ret2
    exact ⟨rfl, HB1.out⟩
  | true =>
    rw [strR_yes] at hR
    simp only [Prod.mk.injEq] at hR
    obtain ⟨rfl, e⟩ := hR
    have HE := Lib.hid e
    have hlen := (wordB_iff.1 hb).len
    rw [len_str] at hlen
    have E4 : Hid (s.data.toList.length ≤ 1048576) := by rw [Hid, len_str]; exact hs
    clear e hb
    go_enter Tryd.func16, Tryd.ntmps16
    go_wp2_with (first
      | (go_at_call 39; refine (implWord_any s _ hs HBB.out).mono ?_; rintro e w1 ⟨rfl, b⟩; have HB1 := Lib.hid b; clear b)
      | (go_at_call 52; refine (ropeOf_any s.size s _ rfl (by omega) hs).mono ?_; rintro e w2 ⟨b, rfl, hr, hb⟩; have HR2 := Lib.hid hr; have HB2 := Lib.hid hb; clear hr hb)
      | (go_at_call 56; refine (ropeBack_any HR2.out w2 ⟨fun _ _ => rfl, Nat.le_refl _⟩ E4.out).mono ?_; rintro e w3 ⟨q3, rfl, hr, hb⟩; have HR3 := Lib.hid hr; have HB3 := Lib.hid hb; clear hr hb)
      | (go_at_call 55; refine (text_any _ q3 _ HR3.out (by rw [backW_len]; exact E4.out)).mono ?_; rintro e w5 ⟨rfl, hb⟩; have HB5 := Lib.hid hb; clear hb))
    go_ret2
    obtain rfl : backW s.data.toList = r := HE.out
    refine ⟨rfl, ?_⟩
    exact HB1.out.trans ((HB2.out.trans ((HB3.out.trans (HB5.out.mono HB3.out.size)).mono HB2.out.size)).mono HB1.out.size)

/-! ### The model's -/
set_option maxHeartbeats 800000 in
theorem spec_turnWR (w : World) (s : ByteArray) (hs : s.size ≤ 1048576) {ok : Bool} {r : List UInt8} (hR : turnWR s.data.toList = (ok, r)) :
    Calls Tryd.prog 81 #[.string s] w fun e w' => e = .returned (.tuple #[.string ⟨r.toArray⟩, .bool ok]) ∧ Below w.heap.size w w' := by
  obtain ⟨b, hb⟩ : ∃ b, wordB s.data.toList = b := ⟨_, rfl⟩
  have HBB := Lib.hid hb
  rw [turnWR, hb] at hR
  cases b with
  | false =>
    rw [strR_no] at hR
    simp only [Prod.mk.injEq] at hR
    obtain ⟨rfl, rfl⟩ := hR
    clear hb
    go_enter Tryd.func81, Tryd.ntmps81
    go_wp2_with (go_at_call 50; refine (specWord_any s _ hs HBB.out).mono ?_; rintro e w1 ⟨rfl, q1, rfl⟩)
    go_ret2
    exact ⟨rfl, below_drewN (Below.refl _ _) _⟩
  | true =>
    rw [strR_yes] at hR
    simp only [Prod.mk.injEq] at hR
    obtain ⟨rfl, e⟩ := hR
    have HE := Lib.hid e
    have hlen := (wordB_iff.1 hb).len
    rw [len_str] at hlen
    obtain ⟨h2, h10, -⟩ := hlen
    clear e hb
    go_enter Tryd.func81, Tryd.ntmps81
    go_wp2_with (go_at_call 50; refine (specWord_any s _ hs HBB.out).mono ?_; rintro e w1 ⟨rfl, q1, rfl⟩)
    go_quiet (fail)
    go_wp2_with fail
    go_ret2
    refine ⟨?_, below_drewN (below_drewN (Below.refl _ _) _) _⟩
    have e1 := (drop_data s 1).1
    have e2 := (take_data s 1 (by omega)).1
    have e3 : (s.extract 1 s.size ++ s.extract 0 1) = ⟨r.toArray⟩ := str_mk (by rw [str_app, e1, e2, ← HE.out]; rfl)
    rw [← e3]
    rfl

theorem l8Other_any (c : UInt8) (w : World) (h : 0 ≤ ltr c) :
    Calls Tryd.prog 84 #[.int .u8 (c.toNat : Int)] w fun e w' => e = .returned (.string ⟨#[oth c]⟩) ∧ Below w.heap.size w w' := by
  obtain ⟨n, hn⟩ := Int.eq_ofNat_of_zero_le h
  have hr := (ltr_range c).2
  have ho := oth_eq c h
  rw [hn] at ho
  have HO : Hid (oth c = nmb n (!sml c)) := ho
  have HN := Lib.hid hn
  have hn5 : n < 32 := by omega
  clear ho hn h hr
  go_enter Tryd.func84, Tryd.ntmps84
  go_wp2_with (first
    | (go_at_call 77; refine (l8Letter_any _ _).mono ?_; rintro e w' ⟨rfl, rfl⟩; rw [HN.out])
    | (go_at_call 78; refine (l8Small_any _ _).mono ?_; rintro e w' ⟨rfl, rfl⟩)
    | (go_at_call 70; refine (l8Name_any n _ _ hn5).mono ?_; rintro e w1 ⟨rfl, b⟩; have HB := Lib.hid b; clear b))
  go_ret
  refine ⟨?_, HB.out⟩
  rw [HO.out]
  rfl

/-- What has been read back of the letters from k on. -/
theorem backW_step (l : List UInt8) {k : Nat} (h : k < l.length) : backW (l.drop k) = backW (l.drop (k + 1)) ++ [oth (gb l k)] := by
  have e : ∀ (a : UInt8) (r : List UInt8), backW (a :: r) = backW r ++ [oth a] := fun a r => by simp [backW]
  rw [List.drop_eq_getElem_cons h, gb_eq h, e]

set_option maxHeartbeats 800000 in
theorem l8Back_any (s : ByteArray) (w : World) (hs : s.size ≤ 1048576) (hl : ∀ c, c ∈ s.data.toList → 0 ≤ ltr c) :
    Calls Tryd.prog 79 #[.string s] w fun e w' => e = .returned (.string ⟨(backW s.data.toList).toArray⟩) ∧ Below w.heap.size w w' := by
  have HL := Lib.hid hl; clear hl
  go_enter Tryd.func79, Tryd.ntmps79
  go_wp2_with fail
  go_loopw [3, 4] (fun v iv wr => ∃ (k : Nat) (z : Int) (t : ByteArray), k ≤ s.size ∧ -1 ≤ z ∧ z < s.size ∧ iv = .int .i64 z ∧ v = .string t ∧ Hid (z = (k : Int) - 1) ∧ Hid (t.data.toList = backW (s.data.toList.drop k)) ∧ Hid (Below w.heap.size w wr)) (fun _ iv _ => (intOf iv + 1).toNat)
  case atStart => exact ⟨s.size, _, _, Nat.le_refl _, by omega, by omega, rfl, rfl, rfl, by rw [Hid, List.drop_of_length_le (by rw [len_str]; exact Nat.le_refl _)]; rfl, Below.refl _ _⟩
  case round =>
    obtain ⟨k, z, t, hk, hz1, hz2, rfl, rfl, hz, ht, hb⟩ := hrel
    by_cases h0 : 0 ≤ z
    · obtain ⟨j, rfl⟩ := Int.eq_ofNat_of_zero_le h0
      have hjs : j < s.size := by omega
      have hj : k = j + 1 := by have := hz.out; omega
      have hts : t.size ≤ 1048576 := by
        have h1 := congrArg List.length ht.out
        rw [len_str, backW_len, List.length_drop, len_str] at h1
        omega
      have HST := Lib.hid (backW_step s.data.toList (k := j) (by rw [len_str]; exact hjs))
      have HG := Lib.hid (gb_at s hjs)
      have HT : Hid (t.data.toList = backW (s.data.toList.drop (j + 1))) := by rw [Hid, ← hj]; exact ht.out
      have HC := Lib.hid (l8Other_any s[j] wr (HL.out _ (by rw [← HG.out, gb_eq (by rw [len_str]; exact hjs)]; exact List.getElem_mem _)))
      clear hj ht h0 hz1
      go_wp2_with (go_at_call 84; refine HC.out.mono ?_; rintro e w1 ⟨rfl, b⟩; have HB := Lib.hid (hb.out.trans (b.mono hb.out.size)); clear b)
      go_roundw
      case rel => exact ⟨j, (j : Int) - 1, _, by omega, by omega, by omega, rfl, rfl, rfl, by rw [Hid, str_app, HT.out, HST.out, HG.out], HB.out⟩
      case measure => simp [intOf]
    · have HK : Hid (k = 0) := by have := hz.out; show k = 0; omega
      have hneg : z < 0 := by omega
      clear h0
      go_wp2_with fail
      go_ret
      exact ⟨ret_str (by rw [ht.out, HK.out, List.drop_zero]), hb.out⟩

end Go.Proofs.YtfdliekhlcbkcaaDoor
