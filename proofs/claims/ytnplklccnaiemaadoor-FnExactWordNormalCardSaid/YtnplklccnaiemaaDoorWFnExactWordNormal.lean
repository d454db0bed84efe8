/-
  FnExactWordNormal: the walk of the law: the model and the program are called by their contracts.
-/
import Derived.Test.YtnplklccnaiemaaDoorNrmM
namespace Go.Proofs.YtnplklccnaiemaaDoor
open Go.RowKit

set_option maxHeartbeats 1600000 in
theorem walk_FnExactWordNormal (s0 : ByteArray) (w : World) (_hw0 : s0.size ≤ maxLen) :
    Calls Tryd.prog 6 #[.string s0] w fun e w' => e = .returned (.bool true) ∧ Below w.heap.size w w' := by
  by_cases hlt0 : 1048576 < s0.size
  · have hd0 : decide ((1048576 : Int) < s0.size) = true := by simp; omega
    go_enter Tryd.func6, Tryd.ntmps6
    go_wp2_with fail
    go_ret
    exact ⟨rfl, Below.refl _ _⟩
  have hd0 : decide ((1048576 : Int) < s0.size) = false := by simp; omega
  obtain ⟨ok, r, hR⟩ : ∃ ok r, nrmR s0.data.toList = (ok, r) := ⟨_, _, rfl⟩
  have HRR := Lib.hid hR; clear hR
  have hok : (r != r) = false := by simp
  have hok3 : (!(r == r)) = false := by simp
  have hok2 : (ok != ok) = false := by simp
  go_enter Tryd.func6, Tryd.ntmps6
  go_wp2_with fail
  refine (spec_nrmR w s0 (by omega) HRR.out).mono ?_
  rintro e w1 ⟨rfl, b⟩
  have HZ_1 : Hid (w.heap.size ≤ w1.heap.size) := b.size
  have HB_1 := Lib.hid b
  clear b
  go_wp2_with fail
  refine (impl_nrmR w1 s0 (by omega) HRR.out).mono ?_
  rintro e w2 ⟨rfl, b⟩
  have HZ_2 : Hid (w1.heap.size ≤ w2.heap.size) := b.size
  have HB_2 := Lib.hid (HB_1.out.trans (b.mono HB_1.out.size))
  clear b
  go_wp2_with fail
  go_ret
  exact ⟨rfl, HB_2.out⟩

end Go.Proofs.YtnplklccnaiemaaDoor
