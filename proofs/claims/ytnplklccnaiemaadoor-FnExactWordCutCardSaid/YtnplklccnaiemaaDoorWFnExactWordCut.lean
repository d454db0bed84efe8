/-
  FnExactWordCut: the walk of the law: the model and the program are called by their contracts.
-/
import Derived.Test.YtnplklccnaiemaaDoorWrdUM
namespace Go.Proofs.YtnplklccnaiemaaDoor
open Go.RowKit

set_option maxHeartbeats 1600000 in
theorem walk_FnExactWordCut (s0 : ByteArray) (x1 : Int) (x2 : Int) (w : World) (_hw0 : s0.size ≤ maxLen) (hw1 : (Lit.int .i64 x1).wf = true) (hw2 : (Lit.int .i64 x2).wf = true) :
    Calls Tryd.prog 5 #[.string s0, .int .i64 x1, .int .i64 x2] w fun e w' => e = .returned (.bool true) ∧ Below w.heap.size w w' := by
  have HW1 := Lib.hid hw1; clear hw1
  have HW2 := Lib.hid hw2; clear hw2
  by_cases hlt0 : 1048576 < s0.size
  · have hd0 : decide ((1048576 : Int) < s0.size) = true := by simp; omega
    go_enter Tryd.func5, Tryd.ntmps5
    go_wp2_with fail
    go_ret
    exact ⟨rfl, Below.refl _ _⟩
  have hd0 : decide ((1048576 : Int) < s0.size) = false := by simp; omega
  obtain ⟨ok, r, hR⟩ : ∃ ok r, cutWR s0.data.toList x1 x2 = (ok, r) := ⟨_, _, rfl⟩
  have HRR := Lib.hid hR; clear hR
  have hok : (r != r) = false := by simp
  have hok3 : (!(r == r)) = false := by simp
  have hok2 : (ok != ok) = false := by simp
  go_enter Tryd.func5, Tryd.ntmps5
  go_wp2_with fail
  refine (spec_cutWR w s0 (by omega) x1 HW1.out x2 HW2.out HRR.out).mono ?_
  rintro e w1 ⟨rfl, b⟩
  have HZ_1 : Hid (w.heap.size ≤ w1.heap.size) := b.size
  have HB_1 := Lib.hid b
  clear b
  go_wp2_with fail
  refine (impl_cutWR w1 s0 (by omega) x1 HW1.out x2 HW2.out HRR.out).mono ?_
  rintro e w2 ⟨rfl, b⟩
  have HZ_2 : Hid (w1.heap.size ≤ w2.heap.size) := b.size
  have HB_2 := Lib.hid (HB_1.out.trans (b.mono HB_1.out.size))
  clear b
  go_wp2_with fail
  go_ret
  exact ⟨rfl, HB_2.out⟩

end Go.Proofs.YtnplklccnaiemaaDoor
