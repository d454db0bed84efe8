/-
  FnExactRootlessRoots: the walk of the law.
-/
import Derived.Test.YtakckkmhhedfpaaRootJ
namespace Go.Proofs.Ytakckkmhhedfpaa
open Go.RowKit

theorem walk_FnExactRootlessRoots (x0 x1 : Int) (w : World) (hw0 : (Lit.int .i64 x0).wf = true) (hw1 : (Lit.int .i64 x1).wf = true) :
    Calls Try.prog 7 #[.int .i64 x0, .int .i64 x1] w fun e w' => e = .returned (.bool true) ∧ Below w.heap.size w w' := by
  obtain ⟨r, hr⟩ : ∃ r, rrF x0 x1 = r := ⟨_, rfl⟩
  have HR := Lib.hid hr; clear hr
  have hrr : (r != r) = false := by simp
  go_enter Try.func7, Try.ntmps7
  go_wp2_with fail
  refine (spec_rr w x0 x1 hw0 hw1 HR.out).mono ?_
  rintro e w' ⟨rfl, b1⟩
  have HB1 := Lib.hid b1; clear b1
  go_wp2_with fail
  refine (impl_rr w' x0 x1 hw0 hw1 HR.out).mono ?_
  rintro e w2 ⟨rfl, b2⟩
  have HB2 := Lib.hid (HB1.out.trans (b2.mono HB1.out.size)); clear b2
  go_wp2_with fail
  go_ret
  exact ⟨rfl, HB2.out⟩

end Go.Proofs.Ytakckkmhhedfpaa
