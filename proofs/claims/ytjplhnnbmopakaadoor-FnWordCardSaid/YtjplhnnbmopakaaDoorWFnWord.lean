/-
  FnWord: the walk of the law.
-/
import Derived.Test.YtjplhnnbmopakaaDoorDrawWd
import Derived.Test.YtjplhnnbmopakaaDoorWrdF
import Derived.Test.YtjplhnnbmopakaaDoorWrdJ
import Derived.Test.YtjplhnnbmopakaaDoorWrdR
namespace Go.Proofs.YtjplhnnbmopakaaDoor
open Go.RowKit

set_option maxRecDepth 20000 in
set_option maxHeartbeats 3200000 in
theorem walk_FnWord (A : Option Addr) (n c : Nat) (bs : List Int) (w : World) (h : RdB w A n bs) (hm : n ≤ maxLen ∧ n ≤ c) :
    Calls Tryd.prog 3 #[.slice A n c] w fun e w' => e = .returned (.bool true) ∧ Below w.heap.size w w' := by
  have HB0 := Lib.hid h
  have hc := hm.2
  clear h hm
  by_cases hbig : 1048576 < n
  · have hd : decide ((1048576 : Int) < n) = true := by simp; omega
    go_enter Tryd.func3, Tryd.ntmps3
    go_wp2
    go_ret
    exact ⟨rfl, Below.refl _ _⟩
  have hd : decide ((1048576 : Int) < n) = false := by simp; omega
  have hnb : n ≤ 1048576 := by omega
  go_enter Tryd.func3, Tryd.ntmps3
  go_wp2_with fail
  refine (drawWordValid_any w A n c bs HB0.out hnb hc).mono ?_
  rintro x w1 ⟨s, rfl, hs, b1⟩
  have HB1 := Lib.hid b1; clear b1 hbig hc HB0
  have hs2 : s.size ≤ 1048576 := by omega
  obtain ⟨v, hv⟩ : ∃ v, wordB s.data.toList = v := ⟨_, rfl⟩
  have HV := Lib.hid hv
  cases v with
  | false =>
    clear hv
    go_wp2_with fail
    refine (implWord_any s _ hs2 HV.out).mono ?_
    rintro e w2 ⟨rfl, b1⟩
    have HB2 := Lib.hid (HB1.out.trans (b1.mono HB1.out.size)); clear b1
    go_wp2_with fail
    refine (specWord_any s _ hs2 HV.out).mono ?_
    rintro e w3 ⟨rfl, q, rfl⟩
    go_wp2_with fail
    go_ret
    exact ⟨rfl, below_drewN HB2.out _⟩
  | true =>
    have hw := wordB_iff.1 hv
    have hlen := hw.len
    have hlen2 := hlen
    rw [len_str] at hlen
    obtain ⟨hl1, hl2, -⟩ := hlen
    have V1 : Hid (wordB (⟨(turnW s.data.toList).toArray⟩ : ByteArray).data.toList = true) := wordB_iff.2 (by simpa using hw.turn)
    have V2 : Hid (wordB (⟨(backW s.data.toList).toArray⟩ : ByteArray).data.toList = true) := wordB_iff.2 (by simpa using hw.back)
    have V3 : Hid (wordB (⟨(namesW s.data.toList 0).toArray⟩ : ByteArray).data.toList = true) := wordB_iff.2 (by simpa using hw.names (k := 0) (by omega))
    have V4 : Hid (wordB (s.extract 1 s.size).data.toList = false) := by
      rw [Hid, (drop_data s 1).1, Bool.eq_false_iff]
      exact fun e => hw.tail_not (wordB_iff.1 e)
    have S4 : Hid ((s.extract 1 s.size).size ≤ 1048576) := by rw [Hid, (drop_data s 1).2]; omega
    have S1 : Hid ((⟨(turnW s.data.toList).toArray⟩ : ByteArray).size ≤ 1048576) := by
      rw [Hid, ← len_str]; simp [turnW]; omega
    have S2 : Hid ((⟨(backW s.data.toList).toArray⟩ : ByteArray).size ≤ 1048576) := by
      rw [Hid, ← len_str]; simp [backW_len]; omega
    have S3 : Hid ((⟨(namesW s.data.toList 0).toArray⟩ : ByteArray).size ≤ 1048576) := by
      rw [Hid, ← len_str]; simp [namesW_len]; omega
    have R1 : Hid (turnWR s.data.toList = (true, turnW s.data.toList)) := by rw [Hid, turnWR, hv]; rfl
    have R2 : Hid (backWR s.data.toList = (true, backW s.data.toList)) := by rw [Hid, backWR, hv]; rfl
    have R3 : Hid (namesWR s.data.toList = (true, namesW s.data.toList 0)) := by rw [Hid, namesWR, hv]; rfl
    obtain ⟨ta, hta⟩ : ∃ ta : ByteArray, (⟨(turnW s.data.toList).toArray⟩ : ByteArray) = ta := ⟨_, rfl⟩
    obtain ⟨tb, htb⟩ : ∃ tb : ByteArray, (⟨(backW s.data.toList).toArray⟩ : ByteArray) = tb := ⟨_, rfl⟩
    obtain ⟨tc, htc⟩ : ∃ tc : ByteArray, (⟨(namesW s.data.toList 0).toArray⟩ : ByteArray) = tc := ⟨_, rfl⟩
    rw [hta] at V1 S1
    rw [htb] at V2 S2
    rw [htc] at V3 S3
    have C1 : Hid (∀ W, Calls Tryd.prog 10 #[.string s] W fun e w' => e = .returned (.tuple #[.string ta, .bool true]) ∧ Below W.heap.size W w') := fun W => hta ▸ impl_turnWR W s hs2 R1.out
    have C2 : Hid (∀ W, Calls Tryd.prog 11 #[.string s] W fun e w' => e = .returned (.tuple #[.string tb, .bool true]) ∧ Below W.heap.size W w') := fun W => htb ▸ impl_backWR W s hs2 R2.out
    have C3 : Hid (∀ W, Calls Tryd.prog 12 #[.string s] W fun e w' => e = .returned (.tuple #[.string tc, .bool true]) ∧ Below W.heap.size W w') := fun W => htc ▸ impl_namesWR W s hs2 R3.out
    clear hv hw hlen2 hta htb htc R1 R2 R3
    go_wp2_with fail
    refine (implWord_any s _ hs2 HV.out).mono ?_
    rintro e w2 ⟨rfl, b1⟩
    have HB2 := Lib.hid (HB1.out.trans (b1.mono HB1.out.size)); clear b1
    go_wp2_with fail
    refine (specWord_any s _ hs2 HV.out).mono ?_
    rintro e w3 ⟨rfl, q, rfl⟩
    go_wp2_with fail
    refine (C1.out _).mono ?_
    rintro e w4 ⟨rfl, b1⟩
    have HB4 : Hid (Below w.heap.size w w4) := HB2.out.trans ((below_undrewR b1).mono HB2.out.size); clear b1
    go_wp2_with fail
    refine (C2.out _).mono ?_
    rintro e w5 ⟨rfl, b1⟩
    have HB5 := Lib.hid (HB4.out.trans (b1.mono HB4.out.size)); clear b1
    go_wp2_with fail
    refine (C3.out _).mono ?_
    rintro e w6 ⟨rfl, b1⟩
    have HB6 := Lib.hid (HB5.out.trans (b1.mono HB5.out.size)); clear b1
    go_wp2_with fail
    refine (implWord_any ta _ S1.out V1.out).mono ?_
    rintro e w7 ⟨rfl, b1⟩
    have HB7 := Lib.hid (HB6.out.trans (b1.mono HB6.out.size)); clear b1
    go_wp2_with fail
    refine (implWord_any tb _ S2.out V2.out).mono ?_
    rintro e w8 ⟨rfl, b1⟩
    have HB8 := Lib.hid (HB7.out.trans (b1.mono HB7.out.size)); clear b1
    go_wp2_with fail
    refine (implWord_any tc _ S3.out V3.out).mono ?_
    rintro e w9 ⟨rfl, b1⟩
    have HB9 := Lib.hid (HB8.out.trans (b1.mono HB8.out.size)); clear b1
    go_wp2_with fail
    refine (implWord_any _ _ S4.out V4.out).mono ?_
    rintro e w10 ⟨rfl, b1⟩
    have HB10 := Lib.hid (HB9.out.trans (b1.mono HB9.out.size)); clear b1
    go_wp2_with fail
    go_ret
    exact ⟨rfl, HB10.out⟩

end Go.Proofs.YtjplhnnbmopakaaDoor
