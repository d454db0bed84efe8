/-
  Plane maps by the degree of the root face: from the call on, the program's and the model's.
-/
import Derived.Test.YtfcgfeopmnjfjaaFaceS
namespace Go.Proofs.Ytfcgfeopmnjfjaa
open Go.RowKit Go.Maps
set_option linter.unusedVariables false

def faceF (e g : Int) : Int := if 0 ≤ e ∧ e ≤ 9 ∧ 0 ≤ g ∧ g ≤ 18 then fF e g else -1
theorem fF_far : ∀ e : Nat, e < 10 → ∀ g : Nat, g < 19 → 2 * e < g → fF e g = 0 := by decide +kernel

set_option maxHeartbeats 800000 in
theorem impl_face (w : World) (e g : Int) (hw : (Lit.int .i64 e).wf = true) (hw' : (Lit.int .i64 g).wf = true) {r : Int} (hr : faceF e g = r) :
    Calls Try.prog 22 #[.int .i64 e, .int .i64 g] w fun x w' => x = .returned (.int .i64 r) ∧ Below w.heap.size w w' := by
  by_cases h : 0 ≤ e ∧ e ≤ 9 ∧ 0 ≤ g ∧ g ≤ 18
  · rw [faceF, if_pos h] at hr
    have HR := Lib.hid hr; clear hr
    obtain ⟨h1, h2, h3, h4⟩ := h
    have d1 : decide (e < 0) = false := by simp; omega
    have d2 : decide (e > 9) = false := by simp; omega
    have d3 : decide (g < 0) = false := by simp; omega
    have d4 : decide (g > 18) = false := by simp; omega
    go_enter Try.func22, Try.ntmps22
    go_wp2_with fail
    refine (keeping_any fF 69 w).mono ?_
    rintro x w2 ⟨kb, rb, cb, mb, rfl, he, hb, hle⟩
    have HE := Lib.hid he; have HB := Lib.hid hb; clear he hb
    unfold clo
    go_wp2_with fail
    refine (face_all 10 e g ⟨by omega, by omega, by omega, by omega⟩ h2 h4 (by omega) w2 kb rb cb mb HE.out).mono ?_
    rintro x w3 ⟨rfl, he3, hg3⟩
    have HB3 := Lib.hid (HB.out.grown hg3 HB.out.size (fun k e => by cases e; exact hle)); clear he3 hg3
    go_wp2_with fail
    go_ret
    exact ⟨retI HR.out, HB3.out⟩
  · rw [faceF, if_neg h] at hr
    subst hr
    by_cases d1 : e < 0
    · go_enter Try.func22, Try.ntmps22
      go_wp2_with fail
      go_ret
      exact ⟨rfl, Below.refl _ _⟩
    by_cases d2 : 9 < e
    · go_enter Try.func22, Try.ntmps22
      go_wp2_with fail
      go_ret
      exact ⟨rfl, Below.refl _ _⟩
    by_cases d3 : g < 0
    · go_enter Try.func22, Try.ntmps22
      go_wp2_with fail
      go_ret
      exact ⟨rfl, Below.refl _ _⟩
    have d4 : 18 < g := by omega
    go_enter Try.func22, Try.ntmps22
    go_wp2_with fail
    go_ret
    exact ⟨rfl, Below.refl _ _⟩

end Go.Proofs.Ytfcgfeopmnjfjaa
