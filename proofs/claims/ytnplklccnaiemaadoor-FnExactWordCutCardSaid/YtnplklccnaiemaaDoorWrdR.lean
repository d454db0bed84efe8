/-
  Words turned and read back: the model's and the program's.
-/
import Derived.Test.YtnplklccnaiemaaDoorRopeD
import Derived.Test.YtnplklccnaiemaaDoorWrdT
namespace Go.Proofs.YtnplklccnaiemaaDoor
open Go.RowKit

theorem strR_yes (l : List UInt8) : strR true l = (true, l) := rfl
theorem strR_no (l : List UInt8) : strR false l = (false, []) := rfl

theorem l8Other_any (c : UInt8) (w : World) (h : 0 ≤ ltr c) :
    Calls Tryd.prog 36 #[.int .u8 (c.toNat : Int)] w fun e w' => e = .returned (.string ⟨#[oth c]⟩) ∧ Below w.heap.size w w' := by
  obtain ⟨n, hn⟩ := Int.eq_ofNat_of_zero_le h
  have hr := (ltr_range c).2
  have ho := oth_eq c h
  rw [hn] at ho
  have HO : Hid (oth c = nmb n (!sml c)) := ho
  have HN := Lib.hid hn
  have hn5 : n < 32 := by omega
  clear ho hn h hr
  go_enter Tryd.func36, Tryd.ntmps36
  go_wp2_with (first
    | (go_at_call 22; refine (l8Letter_any _ _).mono ?_; rintro e w' ⟨rfl, rfl⟩; rw [HN.out])
    | (go_at_call 24; refine (l8Small_any _ _).mono ?_; rintro e w' ⟨rfl, rfl⟩)
    | (go_at_call 23; refine (l8Name_any n _ _ hn5).mono ?_; rintro e w1 ⟨rfl, b⟩; have HB := Lib.hid b; clear b))
  go_ret
  refine ⟨?_, HB.out⟩
  rw [HO.out]
  rfl

/-- What has been read back of the letters from k on. -/
theorem backW_step (l : List UInt8) {k : Nat} (h : k < l.length) : backW (l.drop k) = backW (l.drop (k + 1)) ++ [oth (gb l k)] := by
  have e : ∀ (a : UInt8) (r : List UInt8), backW (a :: r) = backW r ++ [oth a] := fun a r => by simp [backW]
  rw [List.drop_eq_getElem_cons h, gb_eq h, e]

set_option maxHeartbeats 800000 in
theorem l8Back_any (s : ByteArray) (w : World) (hs : s.size ≤ 1048576) (hl : ∀ c, c ∈ s.data.toList → 0 ≤ ltr c) :
    Calls Tryd.prog 25 #[.string s] w fun e w' => e = .returned (.string ⟨(backW s.data.toList).toArray⟩) ∧ Below w.heap.size w w' := by
  have HL := Lib.hid hl; clear hl
  go_enter Tryd.func25, Tryd.ntmps25
  go_wp2_with fail
  go_loopw [3, 4] (fun v iv wr => ∃ (k : Nat) (z : Int) (t : ByteArray), k ≤ s.size ∧ -1 ≤ z ∧ z < s.size ∧ iv = .int .i64 z ∧ v = .string t ∧ Hid (z = (k : Int) - 1) ∧ Hid (t.data.toList = backW (s.data.toList.drop k)) ∧ Hid (Below w.heap.size w wr)) (fun _ iv _ => (intOf iv + 1).toNat)
  case atStart => exact ⟨s.size, _, _, Nat.le_refl _, by omega, by omega, rfl, rfl, rfl, by rw [Hid, List.drop_of_length_le (by rw [len_str]; exact Nat.le_refl _)]; rfl, Below.refl _ _⟩
  case round =>
    obtain ⟨k, z, t, hk, hz1, hz2, rfl, rfl, hz, ht, hb⟩ := hrel
    by_cases h0 : 0 ≤ z
    · obtain ⟨j, rfl⟩ := Int.eq_ofNat_of_zero_le h0
      have hjs : j < s.size := by omega
      have hj : k = j + 1 := by have := hz.out; omega
      have hts : t.size ≤ 1048576 := by
        have h1 := congrArg List.length ht.out
        rw [len_str, backW_len, List.length_drop, len_str] at h1
        omega
      have HST := Lib.hid (backW_step s.data.toList (k := j) (by rw [len_str]; exact hjs))
      have HG := Lib.hid (gb_at s hjs)
      have HT : Hid (t.data.toList = backW (s.data.toList.drop (j + 1))) := by rw [Hid, ← hj]; exact ht.out
      have HC := Lib.hid (l8Other_any s[j] wr (HL.out _ (by rw [← HG.out, gb_eq (by rw [len_str]; exact hjs)]; exact List.getElem_mem _)))
      clear hj ht h0 hz1
      go_wp2_with (go_at_call 36; refine HC.out.mono ?_; rintro e w1 ⟨rfl, b⟩; have HB := Lib.hid (hb.out.trans (b.mono hb.out.size)); clear b)
      go_roundw
      case rel => exact ⟨j, (j : Int) - 1, _, by omega, by omega, by omega, rfl, rfl, rfl, by rw [Hid, str_app, HT.out, HST.out, HG.out], HB.out⟩
      case measure => simp [intOf]
    · have HK : Hid (k = 0) := by have := hz.out; show k = 0; omega
      have hneg : z < 0 := by omega
      clear h0
      go_wp2_with fail
      go_ret
      exact ⟨ret_str (by rw [ht.out, HK.out, List.drop_zero]), hb.out⟩

end Go.Proofs.YtnplklccnaiemaaDoor
