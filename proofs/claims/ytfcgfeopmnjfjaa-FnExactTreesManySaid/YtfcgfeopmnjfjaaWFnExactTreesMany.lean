/-
  FnExactTreesMany: the walk of the law.
-/
import Derived.Test.YtfcgfeopmnjfjaaTrM
namespace Go.Proofs.Ytfcgfeopmnjfjaa
open Go.RowKit

theorem walk_FnExactTreesMany (x0 : Int) (w : World) (hw0 : (Lit.int .i64 x0).wf = true) :
    Calls Try.prog 10 #[.int .i64 x0] w fun e w' => e = .returned (.bool true) ∧ Below w.heap.size w w' := by
  obtain ⟨r, hr⟩ : ∃ r, tmF x0 = r := ⟨_, rfl⟩
  have HR := Lib.hid hr; clear hr
  have hrr : (r != r) = false := by simp
  go_enter Try.func10, Try.ntmps10
  go_wp2_with fail
  refine (spec_tm w x0 hw0).mono ?_
  rintro e w' ⟨rfl, rfl⟩
  rw [HR.out]
  go_wp2_with fail
  refine (impl_tm w' x0 hw0).mono ?_
  rintro e w2 ⟨rfl, rfl⟩
  rw [HR.out]
  go_wp2_with fail
  go_ret
  exact ⟨rfl, Below.refl _ _⟩

end Go.Proofs.Ytfcgfeopmnjfjaa
