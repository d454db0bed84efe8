/-
  Plane maps by the degree of the root face: from the call on, the program's and the model's.
-/
import Derived.Test.YtiochmdedpookaaFaceS
namespace Go.Proofs.Ytiochmdedpookaa
open Go.RowKit Go.Maps
set_option linter.unusedVariables false

def faceF (e g : Int) : Int := if 0 ≤ e ∧ e ≤ 9 ∧ 0 ≤ g ∧ g ≤ 18 then fF e g else -1
theorem fF_far : ∀ e : Nat, e < 10 → ∀ g : Nat, g < 19 → 2 * e < g → fF e g = 0 := by decide +kernel

set_option maxHeartbeats 1600000 in
theorem spec_face (w : World) (e g : Int) (hw : (Lit.int .i64 e).wf = true) (hw' : (Lit.int .i64 g).wf = true) {r : Int} (hr : faceF e g = r) :
    Calls Try.prog 19 #[.int .i64 e, .int .i64 g] w fun x w' => x = .returned (.int .i64 r) ∧ Below w.heap.size w w' := by
  by_cases h1 : 0 ≤ e ∧ e ≤ 9
  · have hd1 : (decide ((0 : Int) ≤ e) && decide (e ≤ 9)) = true := by simp [h1]
    by_cases h2 : 0 ≤ g ∧ g ≤ 18
    · have hd2 : (decide ((0 : Int) ≤ g) && decide (g ≤ 18)) = true := by simp [h2]
      rw [faceF, if_pos ⟨h1.1, h1.2, h2.1, h2.2⟩] at hr
      obtain ⟨e', rfl⟩ : ∃ k : Nat, e = k := ⟨e.toNat, by omega⟩
      obtain ⟨g', rfl⟩ : ∃ k : Nat, g = k := ⟨g.toNat, by omega⟩
      have h3 : e' ≤ 9 := by omega
      have h4 : g' < 19 := by omega
      clear h1 h2
      by_cases h5 : 2 * e' < g'
      · rw [fF_far e' (by omega) g' h4 h5] at hr
        have HR := Lib.hid hr; clear hr
        have hd3 : decide (2 * (e' : Int) < (g' : Int)) = true := by simp; omega
        go_enter Try.func19, Try.ntmps19
        go_wp2_with fail
        refine (in_any w e' 0 9).mono ?_
        rintro x w2 ⟨rfl, rfl⟩
        rw [hd1]
        go_wp2_with fail
        refine (in_any w2 g' 0 18).mono ?_
        rintro x w3 ⟨rfl, rfl⟩
        rw [hd2]
        go_wp2_with fail
        go_ret
        exact ⟨retI HR.out, Below.refl _ _⟩
      · have HR := Lib.hid hr; clear hr
        have hd3 : decide (2 * (e' : Int) < (g' : Int)) = false := by simp; omega
        go_enter Try.func19, Try.ntmps19
        go_wp2_with fail
        refine (in_any w e' 0 9).mono ?_
        rintro x w2 ⟨rfl, rfl⟩
        rw [hd1]
        go_wp2_with fail
        refine (in_any w2 g' 0 18).mono ?_
        rintro x w3 ⟨rfl, rfl⟩
        rw [hd2]
        go_wp2_with fail
        refine (l3Faces_any w3 e' h3).mono ?_
        rintro x w4 ⟨X, c0, b, c, rfl, hg, hb⟩
        have a1 := hg.out e' (by omega)
        have a2 := hg.inn e' (by omega) g' (by omega)
        have t1 : tf (e' + 1) 1 e' g' = fF e' g' := by unfold tf; rw [if_pos (by omega)]
        rw [t1] at a2
        have HB := Lib.hid hb; clear hb hg t1
        have i1 : e' < e' + 1 := by omega
        have i2 : g' < 2 * e' + 1 := by omega
        go_wp2_with fail
        go_ret
        exact ⟨retI HR.out, HB.out⟩
    · have hd2 : (decide ((0 : Int) ≤ g) && decide (g ≤ 18)) = false := by simp; omega
      rw [faceF, if_neg (by omega)] at hr
      subst hr
      clear h1 h2
      go_enter Try.func19, Try.ntmps19
      go_wp2_with fail
      refine (in_any w e 0 9).mono ?_
      rintro x w2 ⟨rfl, rfl⟩
      rw [hd1]
      go_wp2_with fail
      refine (in_any w2 g 0 18).mono ?_
      rintro x w3 ⟨rfl, rfl⟩
      rw [hd2]
      go_wp2_with fail
      go_ret
      exact ⟨rfl, Below.refl _ _⟩
  · have hd1 : (decide ((0 : Int) ≤ e) && decide (e ≤ 9)) = false := by simp; omega
    rw [faceF, if_neg (by omega)] at hr
    subst hr
    clear h1
    go_enter Try.func19, Try.ntmps19
    go_wp2_with fail
    refine (in_any w e 0 9).mono ?_
    rintro x w2 ⟨rfl, rfl⟩
    rw [hd1]
    go_wp2_with fail
    go_ret
    exact ⟨rfl, Below.refl _ _⟩

set_option maxHeartbeats 800000 in
theorem impl_face (w : World) (e g : Int) (hw : (Lit.int .i64 e).wf = true) (hw' : (Lit.int .i64 g).wf = true) {r : Int} (hr : faceF e g = r) :
    Calls Try.prog 17 #[.int .i64 e, .int .i64 g] w fun x w' => x = .returned (.int .i64 r) ∧ Below w.heap.size w w' := by
  by_cases h : 0 ≤ e ∧ e ≤ 9 ∧ 0 ≤ g ∧ g ≤ 18
  · rw [faceF, if_pos h] at hr
    have HR := Lib.hid hr; clear hr
    obtain ⟨h1, h2, h3, h4⟩ := h
    have d1 : decide (e < 0) = false := by simp; omega
    have d2 : decide (e > 9) = false := by simp; omega
    have d3 : decide (g < 0) = false := by simp; omega
    have d4 : decide (g > 18) = false := by simp; omega
    go_enter Try.func17, Try.ntmps17
    go_wp2_with fail
    refine (keeping_any fF 31 w).mono ?_
    rintro x w2 ⟨kb, rb, cb, mb, rfl, he, hb, hle⟩
    have HE := Lib.hid he; have HB := Lib.hid hb; clear he hb
    unfold clo
    go_wp2_with fail
    refine (face_all 10 e g ⟨by omega, by omega, by omega, by omega⟩ h2 h4 (by omega) w2 kb rb cb mb HE.out).mono ?_
    rintro x w3 ⟨rfl, he3, hg3⟩
    have HB3 := Lib.hid (HB.out.grown hg3 HB.out.size (fun k e => by cases e; exact hle)); clear he3 hg3
    go_wp2_with fail
    go_ret
    exact ⟨retI HR.out, HB3.out⟩
  · rw [faceF, if_neg h] at hr
    subst hr
    by_cases d1 : e < 0
    · go_enter Try.func17, Try.ntmps17
      go_wp2_with fail
      go_ret
      exact ⟨rfl, Below.refl _ _⟩
    by_cases d2 : 9 < e
    · go_enter Try.func17, Try.ntmps17
      go_wp2_with fail
      go_ret
      exact ⟨rfl, Below.refl _ _⟩
    by_cases d3 : g < 0
    · go_enter Try.func17, Try.ntmps17
      go_wp2_with fail
      go_ret
      exact ⟨rfl, Below.refl _ _⟩
    have d4 : 18 < g := by omega
    go_enter Try.func17, Try.ntmps17
    go_wp2_with fail
    go_ret
    exact ⟨rfl, Below.refl _ _⟩

end Go.Proofs.Ytiochmdedpookaa
