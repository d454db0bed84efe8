/-
  The draw of a word and two sides (DrawWordCut): any word, any two sides within small bounds.
-/
import Derived.Test.YtfdliekhlcbkcaaDoorDrawWd
namespace Go.Proofs.YtfdliekhlcbkcaaDoor
open Go.RowKit

set_option maxHeartbeats 1600000 in
theorem drawWordCut_any (w : World) (A : Option Addr) (n c : Nat) (bs : List Int) (h : RdB w A n bs) (hn : n ≤ 1048576) (hc : n ≤ c) :
    Calls Tryd.prog 36 #[.slice A n c] w fun e w' => ∃ (t : ByteArray) (i k : Int), e = .returned (.tuple #[.string t, .int .i64 i, .int .i64 k]) ∧ t.size ≤ 12 ∧ 0 ≤ i ∧ i ≤ 20 ∧ -2 ≤ k ∧ k ≤ 20 ∧ Below w.heap.size w w' := by
  go_enter Tryd.func36, Tryd.ntmps36
  go_wp2_with fail
  refine (opened w A n c bs h hn hc).mono ?_
  rintro e w1 ⟨rfl, r1, b1, s1⟩
  have HR1 := Lib.hid r1; have HB1 := Lib.hid b1; clear r1 b1
  go_wp2_with fail
  refine (word_draw w1 w.heap.size 0 5 HR1.out (by omega) (by omega) (by omega)).mono ?_
  rintro e w2 ⟨t, q', rfl, ht, r2, hq2, g1⟩
  have HR2 := Lib.hid r2
  have HB2 := Lib.hid (below_grown HB1.out g1 (Nat.le_refl _) HB1.out.size); clear g1 r2
  go_wp2_with fail
  refine (pick_reads w2 w.heap.size q' HR2.out (by omega) ((t.size : Int) + 1) (by omega) (by omega)).mono ?_
  rintro e w3 ⟨x, rfl, hx, r1, g1⟩
  have HR3 := Lib.hid r1; have HB3 := Lib.hid (below_grown HB2.out g1 (Nat.le_refl _) HB2.out.size); clear r1 g1
  go_wp2_with fail
  refine (pick_reads w3 w.heap.size (q' + 1) HR3.out (by omega) 20 (by omega) (by omega)).mono ?_
  rintro e w4 ⟨y, rfl, hy, r1, g1⟩
  have HR4 := Lib.hid r1; have HB4 := Lib.hid (below_grown HB3.out g1 (Nat.le_refl _) HB3.out.size); clear r1 g1
  obtain ⟨d, hd⟩ : ∃ d, y / 19 = d := ⟨_, rfl⟩
  have hd1 : d ≤ 1 := by omega
  have q1 : ((y : Int)).tdiv 19 = (d : Int) := by rw [← hd]; rfl
  have q2 : (y : Int) / 19 = (d : Int) := by omega
  obtain ⟨i, hi⟩ : ∃ i, x + d = i := ⟨_, rfl⟩
  have q3 : (x : Int) + (d : Int) = (i : Int) := by omega
  have hi1 : i ≤ 20 := by omega
  obtain ⟨m, hm⟩ : ∃ m : Int, max 1 (i : Int) = m := ⟨_, rfl⟩
  have hm1 : 1 ≤ m ∧ m ≤ 20 := by omega
  clear hd hi
  go_wp2_with fail
  refine (pick_reads w4 w.heap.size (q' + 1 + 1) HR4.out (by omega) m (by omega) (by omega)).mono ?_
  rintro e w5 ⟨z, rfl, hz, r1, g1⟩
  have HR5 := Lib.hid r1; have HB5 := Lib.hid (below_grown HB4.out g1 (Nat.le_refl _) HB4.out.size); clear r1 g1
  go_wp2_with fail
  refine (pick_reads w5 w.heap.size (q' + 1 + 1 + 1) HR5.out (by omega) 20 (by omega) (by omega)).mono ?_
  rintro e w6 ⟨y2, rfl, hy2, r1, g1⟩
  have HB6 := Lib.hid (below_grown HB5.out g1 (Nat.le_refl _) HB5.out.size); clear r1 g1
  obtain ⟨d2, hd2⟩ : ∃ d, y2 / 19 = d := ⟨_, rfl⟩
  have hd3 : d2 ≤ 1 := by omega
  have q4 : ((y2 : Int)).tdiv 19 = (d2 : Int) := by rw [← hd2]; rfl
  have q5 : (y2 : Int) / 19 = (d2 : Int) := by omega
  obtain ⟨k, hk⟩ : ∃ k : Int, (z : Int) - (d2 : Int) = k := ⟨_, rfl⟩
  have hk1 : -2 ≤ k ∧ k ≤ 20 := by omega
  clear hd2
  go_wp2_with fail
  go_ret3
  exact ⟨_, _, _, rfl, ht, by omega, by omega, hk1.1, hk1.2, HB6.out⟩

end Go.Proofs.YtfdliekhlcbkcaaDoor
