/-
  FnWordTurn: the walk of the law.
-/
import Derived.Test.YtjplhnnbmopakaaDoorDrawWt
import Derived.Test.YtjplhnnbmopakaaDoorWrdA
import Derived.Test.YtjplhnnbmopakaaDoorWrdS
import Derived.Test.YtjplhnnbmopakaaDoorWrdR
namespace Go.Proofs.YtjplhnnbmopakaaDoor
open Go.RowKit

theorem same_turn {l : List UInt8} (h : Word l) : sameR (turnW l) l = true := by
  have e : clsR (turnW l) = clsR l := by
    rw [clsR_yes (wordB_iff.2 h), clsR_yes (wordB_iff.2 h.turn)]
    unfold clsN lackN numN
    rw [h.sided_turn, h.cor_turn, turnW_len]
  rw [sameR, wordB_iff.2 h, wordB_iff.2 h.turn, e]
  simp
theorem text_beq (a : ByteArray) : (a == a) = true := by
  cases a with
  | mk d =>
    show (d == d) = true
    simp
theorem text_bne (a : ByteArray) : (a != a) = false := by rw [bne, text_beq]; rfl
theorem turnWR_word {l : List UInt8} (h : Word l) : turnWR l = (true, turnW l) := by rw [turnWR, wordB_iff.2 h]; rfl

set_option maxRecDepth 20000 in
set_option maxHeartbeats 3200000 in
theorem walk_FnWordTurn (A : Option Addr) (n c : Nat) (bs : List Int) (w : World) (h : RdB w A n bs) (hm : n ≤ maxLen ∧ n ≤ c) :
    Calls Tryd.prog 4 #[.slice A n c] w fun e w' => e = .returned (.bool true) ∧ Below w.heap.size w w' := by
  have HB0 := Lib.hid h
  have hc := hm.2
  clear h hm
  by_cases hbig : 1048576 < n
  · have hd : decide ((1048576 : Int) < n) = true := by simp; omega
    go_enter Tryd.func4, Tryd.ntmps4
    go_wp2
    go_ret
    exact ⟨rfl, Below.refl _ _⟩
  have hd : decide ((1048576 : Int) < n) = false := by simp; omega
  have hnb : n ≤ 1048576 := by omega
  go_enter Tryd.func4, Tryd.ntmps4
  go_wp2_with fail
  refine (drawWordTurn_any w A n c bs HB0.out hnb hc).mono ?_
  rintro x w1 ⟨s, rfl, hs, b1⟩
  have HB1 := Lib.hid b1; clear b1 hbig hc HB0
  have hs2 : s.size ≤ 1048576 := by omega
  obtain ⟨v, r, hR⟩ : ∃ v r, turnWR s.data.toList = (v, r) := ⟨_, _, rfl⟩
  obtain ⟨ta, hta⟩ : ∃ ta : ByteArray, (⟨r.toArray⟩ : ByteArray) = ta := ⟨_, rfl⟩
  have C1 : Hid (∀ W, Calls Tryd.prog 10 #[.string s] W fun e w' => e = .returned (.tuple #[.string ta, .bool v]) ∧ Below W.heap.size W w') := fun W => hta ▸ impl_turnWR W s hs2 hR
  have C2 : Hid (∀ W, Calls Tryd.prog 14 #[.string s] W fun e w' => e = .returned (.tuple #[.string ta, .bool v]) ∧ Below W.heap.size W w') := fun W => hta ▸ spec_turnWR W s hs2 hR
  have hok : (ta != ta) = false := text_bne ta
  have hok3 : (!(ta == ta)) = false := by rw [text_beq]; rfl
  have hok4 : (ta == ta) = true := text_beq ta
  cases v with
  | false =>
    clear hR hta
    go_wp2_with fail
    refine (C1.out _).mono ?_
    rintro e w2 ⟨rfl, b1⟩
    have HB2 := Lib.hid (HB1.out.trans (b1.mono HB1.out.size)); clear b1
    go_wp2_with fail
    refine (C2.out _).mono ?_
    rintro e w3 ⟨rfl, b1⟩
    have HB3 := Lib.hid (HB2.out.trans (b1.mono HB2.out.size)); clear b1
    go_wp2_with fail
    go_ret
    exact ⟨rfl, HB3.out⟩
  | true =>
    have hv : wordB s.data.toList = true := by
      cases hb : wordB s.data.toList with
      | true => rfl
      | false => rw [turnWR, hb] at hR; simp [strR] at hR
    have hw := wordB_iff.1 hv
    rw [turnWR_word hw] at hR
    simp only [Prod.mk.injEq, true_and] at hR
    have hat : ta.data.toList = turnW s.data.toList := by rw [← hta, ← hR]
    have hsz : ta.size = s.size := by rw [← len_str, ← len_str, hat, turnW_len]
    have hsz2 : ((ta.size : Int) == (s.size : Int)) = true := by rw [hsz]; simp
    have hta2 : ta.size ≤ 1048576 := by omega
    have HS : Hid (sameR ta.data.toList s.data.toList = true) := by rw [Hid, hat]; exact same_turn hw
    have HW := Lib.hid hw
    have hss : (s == s) = true := text_beq s
    clear hR hta hv hw hat hsz
    go_wp2_with fail
    refine (C1.out _).mono ?_
    rintro e w2 ⟨rfl, b1⟩
    have HB2 := Lib.hid (HB1.out.trans (b1.mono HB1.out.size)); clear b1
    go_wp2_with fail
    refine (C2.out _).mono ?_
    rintro e w3 ⟨rfl, b1⟩
    have HB3 := Lib.hid (HB2.out.trans (b1.mono HB2.out.size)); clear b1
    go_wp2_with fail
    go_loopw [8, 9, 10] (fun xv pv iv wr => ∃ (i : Nat) (x : ByteArray), i ≤ s.size ∧ iv = .int .i64 i ∧ xv = .string x ∧ pv = .bool true ∧ Hid (x.data.toList = itT s.data.toList i) ∧ x.size ≤ 1048576 ∧ Hid (Below w.heap.size w wr)) (fun _ _ iv _ => s.size - (intOf iv).toNat)
    case atStart => exact ⟨0, s, Nat.zero_le _, rfl, rfl, rfl, rfl, hs2, HB3.out⟩
    case round =>
      obtain ⟨i, x, hi, rfl, rfl, rfl, hx, hxs, hb⟩ := hrel
      by_cases hlt : i < s.size
      · have HWI : Hid (turnWR x.data.toList = (true, turnW x.data.toList)) := by rw [Hid]; exact turnWR_word (by rw [hx.out]; exact HW.out.itT i)
        obtain ⟨y, hy⟩ : ∃ y : ByteArray, (⟨(turnW x.data.toList).toArray⟩ : ByteArray) = y := ⟨_, rfl⟩
        have HY : Hid (y.data.toList = itT s.data.toList (i + 1)) := by rw [Hid, ← hy]; show turnW x.data.toList = _; rw [hx.out]; rfl
        have hys : y.size ≤ 1048576 := by
          have := congrArg List.length HY.out
          rw [len_str, itT_len, len_str] at this
          omega
        have C3 : Hid (∀ W, Calls Tryd.prog 10 #[.string x] W fun e w' => e = .returned (.tuple #[.string y, .bool true]) ∧ Below W.heap.size W w') := fun W => hy ▸ impl_turnWR W x hxs HWI.out
        clear hy
        go_wp2_with fail
        refine (C3.out _).mono ?_
        rintro e w4 ⟨rfl, b1⟩
        have HB4 := Lib.hid (hb.out.trans (b1.mono hb.out.size)); clear b1
        go_wp2_with fail
        go_roundw
        case rel => exact ⟨i + 1, y, by omega, by go_num, rfl, rfl, HY.out, hys, HB4.out⟩
        case measure => simp [intOf]; omega
      · have hin : i = s.size := by omega
        have hxx : x = s := by
          have h1 := hx.out
          rw [hin, ← len_str s, itT_all] at h1
          rw [str_mk h1]
        have HIN := Lib.hid hin
        clear hin
        subst hxx
        go_wp2_with fail
        refine (impl_sameR _ ta hta2 x hs2 HS.out).mono ?_
        rintro e w4 ⟨rfl, b1⟩
        have HB4 := Lib.hid (hb.out.trans (b1.mono hb.out.size)); clear b1
        go_wp2_with fail
        go_ret
        exact ⟨rfl, HB4.out⟩

end Go.Proofs.YtjplhnnbmopakaaDoor
