/-
  The draws of gluings, law by law.
-/
import Derived.Test.YtfcgfeopmnjfjaaDrawL
namespace Go.Proofs.Ytfcgfeopmnjfjaa
open Go.RowKit
set_option linter.unusedVariables false

set_option maxHeartbeats 800000 in
theorem dDrawGluingCorners_any (w : World) (A : Option Addr) (n c : Nat) (bs : List Int) (h : RdB w A n bs) (hn : n ≤ 1048576) (hc : n ≤ c) :
    Calls Try.prog 39 #[.slice A n c] w fun x w' => ∃ v ys, x = .returned v ∧ Own w' w.heap.size v ys ∧ ys.length ≤ 12 ∧ Below w.heap.size w w' := by
  go_enter Try.func39, Try.ntmps39
  go_wp2_with fail
  refine (opened w A n c bs h hn hc).mono ?_
  rintro e w1 ⟨rfl, r1, b1, s1⟩
  have HB1 := Lib.hid b1; have HR1 := Lib.hid r1; clear b1 r1
  go_wp2_with fail
  refine (gluing_reads w1 w.heap.size 0 5 HR1.out (by omega) (by omega) (by omega)).mono ?_
  rintro e w2 ⟨v, ys, rfl, o, hl, g2⟩
  have HO := Lib.hid (o.mono HB1.out.size)
  have HB2 : Hid (Below w.heap.size w w2) := HB1.out.trans (g2.below (by omega))
  clear o g2
  go_wp2_with fail
  go_ret
  exact ⟨v, ys, rfl, HO.out, hl, HB2.out⟩

set_option maxHeartbeats 800000 in
theorem dDrawGluingGenus_any (w : World) (A : Option Addr) (n c : Nat) (bs : List Int) (h : RdB w A n bs) (hn : n ≤ 1048576) (hc : n ≤ c) :
    Calls Try.prog 45 #[.slice A n c] w fun x w' => ∃ v ys, x = .returned v ∧ Own w' w.heap.size v ys ∧ ys.length ≤ 12 ∧ Below w.heap.size w w' := by
  go_enter Try.func45, Try.ntmps45
  go_wp2_with fail
  refine (opened w A n c bs h hn hc).mono ?_
  rintro e w1 ⟨rfl, r1, b1, s1⟩
  have HB1 := Lib.hid b1; have HR1 := Lib.hid r1; clear b1 r1
  go_wp2_with fail
  refine (gluing_reads w1 w.heap.size 0 5 HR1.out (by omega) (by omega) (by omega)).mono ?_
  rintro e w2 ⟨v, ys, rfl, o, hl, g2⟩
  have HO := Lib.hid (o.mono HB1.out.size)
  have HB2 : Hid (Below w.heap.size w w2) := HB1.out.trans (g2.below (by omega))
  clear o g2
  go_wp2_with fail
  go_ret
  exact ⟨v, ys, rfl, HO.out, hl, HB2.out⟩

set_option maxHeartbeats 800000 in
theorem dDrawGluingTurn_any (w : World) (A : Option Addr) (n c : Nat) (bs : List Int) (h : RdB w A n bs) (hn : n ≤ 1048576) (hc : n ≤ c) :
    Calls Try.prog 51 #[.slice A n c] w fun x w' => ∃ v ys, x = .returned v ∧ Own w' w.heap.size v ys ∧ ys.length ≤ 12 ∧ Below w.heap.size w w' := by
  go_enter Try.func51, Try.ntmps51
  go_wp2_with fail
  refine (opened w A n c bs h hn hc).mono ?_
  rintro e w1 ⟨rfl, r1, b1, s1⟩
  have HB1 := Lib.hid b1; have HR1 := Lib.hid r1; clear b1 r1
  go_wp2_with fail
  refine (gluing_reads w1 w.heap.size 0 5 HR1.out (by omega) (by omega) (by omega)).mono ?_
  rintro e w2 ⟨v, ys, rfl, o, hl, g2⟩
  have HO := Lib.hid (o.mono HB1.out.size)
  have HB2 : Hid (Below w.heap.size w w2) := HB1.out.trans (g2.below (by omega))
  clear o g2
  go_wp2_with fail
  go_ret
  exact ⟨v, ys, rfl, HO.out, hl, HB2.out⟩

set_option maxHeartbeats 800000 in
theorem dDrawGluingMap_any (w : World) (A : Option Addr) (n c : Nat) (bs : List Int) (h : RdB w A n bs) (hn : n ≤ 1048576) (hc : n ≤ c) :
    Calls Try.prog 55 #[.slice A n c] w fun x w' => ∃ v ys, x = .returned v ∧ Own w' w.heap.size v ys ∧ ys.length ≤ 12 ∧ Below w.heap.size w w' := by
  go_enter Try.func55, Try.ntmps55
  go_wp2_with fail
  refine (opened w A n c bs h hn hc).mono ?_
  rintro e w1 ⟨rfl, r1, b1, s1⟩
  have HB1 := Lib.hid b1; have HR1 := Lib.hid r1; clear b1 r1
  go_wp2_with fail
  refine (gluing_reads w1 w.heap.size 0 5 HR1.out (by omega) (by omega) (by omega)).mono ?_
  rintro e w2 ⟨v, ys, rfl, o, hl, g2⟩
  have HO := Lib.hid (o.mono HB1.out.size)
  have HB2 : Hid (Below w.heap.size w w2) := HB1.out.trans (g2.below (by omega))
  clear o g2
  go_wp2_with fail
  go_ret
  exact ⟨v, ys, rfl, HO.out, hl, HB2.out⟩

end Go.Proofs.Ytfcgfeopmnjfjaa
