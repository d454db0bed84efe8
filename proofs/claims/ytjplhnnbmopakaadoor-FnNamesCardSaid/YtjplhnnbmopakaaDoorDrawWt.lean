/-
  The draws of words, one a law.
-/
import Derived.Test.YtjplhnnbmopakaaDoorDrawWd
namespace Go.Proofs.YtjplhnnbmopakaaDoor
open Go.RowKit

theorem drawn5 (w w1 : World) (h : Reads w1 w.heap.size 0) (hb : Below w.heap.size w w1) :
    Calls Tryd.prog 23 #[.pointer (some ⟨w.heap.size, 0, none⟩), .int .i64 ((5 : Nat) : Int)] w1 (DrewW w) :=
  (word_draw w1 w.heap.size 0 5 h (by omega) (by omega) (by omega)).mono fun _ _ ⟨t, _, he, ht, _, _, g⟩ => ⟨t, he, ht, below_grown hb g (Nat.le_refl _) hb.size⟩

set_option maxHeartbeats 800000 in
theorem drawWordTurn_any (w : World) (A : Option Addr) (n c : Nat) (bs : List Int) (h : RdB w A n bs) (hn : n ≤ 1048576) (hc : n ≤ c) :
    Calls Tryd.prog 13 #[.slice A n c] w (DrewW w) := by
  go_enter Tryd.func13, Tryd.ntmps13
  go_wp2_with fail
  refine (opened w A n c bs h hn hc).mono ?_
  rintro e w1 ⟨rfl, r1, b1, s1⟩
  have HR1 := Lib.hid r1; have HB1 := Lib.hid b1; clear r1 b1
  go_wp2_with fail
  refine (drawn5 w w1 HR1.out HB1.out).mono ?_
  rintro e w2 ⟨t, rfl, ht, b2⟩
  have HB2 := Lib.hid b2; clear b2
  go_wp2_with fail
  go_ret
  exact ⟨_, rfl, ht, HB2.out⟩
set_option maxHeartbeats 800000 in
theorem drawWordBack_any (w : World) (A : Option Addr) (n c : Nat) (bs : List Int) (h : RdB w A n bs) (hn : n ≤ 1048576) (hc : n ≤ c) :
    Calls Tryd.prog 16 #[.slice A n c] w (DrewW w) := by
  go_enter Tryd.func16, Tryd.ntmps16
  go_wp2_with fail
  refine (opened w A n c bs h hn hc).mono ?_
  rintro e w1 ⟨rfl, r1, b1, s1⟩
  have HR1 := Lib.hid r1; have HB1 := Lib.hid b1; clear r1 b1
  go_wp2_with fail
  refine (drawn5 w w1 HR1.out HB1.out).mono ?_
  rintro e w2 ⟨t, rfl, ht, b2⟩
  have HB2 := Lib.hid b2; clear b2
  go_wp2_with fail
  go_ret
  exact ⟨_, rfl, ht, HB2.out⟩
set_option maxHeartbeats 800000 in
theorem drawWordNames_any (w : World) (A : Option Addr) (n c : Nat) (bs : List Int) (h : RdB w A n bs) (hn : n ≤ 1048576) (hc : n ≤ c) :
    Calls Tryd.prog 18 #[.slice A n c] w (DrewW w) := by
  go_enter Tryd.func18, Tryd.ntmps18
  go_wp2_with fail
  refine (opened w A n c bs h hn hc).mono ?_
  rintro e w1 ⟨rfl, r1, b1, s1⟩
  have HR1 := Lib.hid r1; have HB1 := Lib.hid b1; clear r1 b1
  go_wp2_with fail
  refine (drawn5 w w1 HR1.out HB1.out).mono ?_
  rintro e w2 ⟨t, rfl, ht, b2⟩
  have HB2 := Lib.hid b2; clear b2
  go_wp2_with fail
  go_ret
  exact ⟨_, rfl, ht, HB2.out⟩

end Go.Proofs.YtjplhnnbmopakaaDoor
