/-
  Maps by genus: the model's look-up; the walk of the exact law.
-/
import Derived.Test.YtfcgfeopmnjfjaaRunS
namespace Go.Proofs.Ytfcgfeopmnjfjaa
open Go.RowKit Go.Maps
set_option linter.unusedVariables false

set_option maxHeartbeats 1600000 in
theorem spec_run (w : World) (e g : Int) (hw : (Lit.int .i64 e).wf = true) (hw' : (Lit.int .i64 g).wf = true) {r : Int} (hr : runF e g = r) :
    Calls Try.prog 18 #[.int .i64 e, .int .i64 g] w fun x w' => x = .returned (.int .i64 r) ∧ Below w.heap.size w w' := by
  by_cases h1 : 0 ≤ e ∧ e ≤ 9
  · have hd1 : (decide ((0 : Int) ≤ e) && decide (e ≤ 9)) = true := by simp [h1]
    by_cases h2 : 0 ≤ g ∧ g ≤ 5
    · have hd2 : (decide ((0 : Int) ≤ g) && decide (g ≤ 5)) = true := by simp [h2]
      rw [runF, if_pos ⟨h1.1, h1.2, h2.1, h2.2⟩] at hr
      have HR := Lib.hid hr; clear hr
      obtain ⟨e', rfl⟩ : ∃ k : Nat, e = k := ⟨e.toNat, by omega⟩
      obtain ⟨g', rfl⟩ : ∃ k : Nat, g = k := ⟨g.toNat, by omega⟩
      have h3 : e' ≤ 9 := by omega
      have h4 : g' < 6 := by omega
      clear h1 h2
      go_enter Try.func18, Try.ntmps18
      go_wp2_with fail
      refine (in_any w e' 0 9).mono ?_
      rintro x w2 ⟨rfl, rfl⟩
      rw [hd1]
      go_wp2_with fail
      refine (in_any w2 g' 0 5).mono ?_
      rintro x w3 ⟨rfl, rfl⟩
      rw [hd2]
      go_wp2_with fail
      refine (l3Table_any w3 e' h3).mono ?_
      rintro x w4 ⟨X, c0, b, c, rfl, hg, hb⟩
      have a1 := hg.out g' h4
      have a2 := hg.inn g' h4 e' (by omega)
      have t1 : tq (e' + 1) 0 g' e' = qF e' g' := by unfold tq; rw [if_pos (by omega)]
      rw [t1] at a2
      have HB := Lib.hid hb; clear hb hg t1
      have h5 : e' < e' + 1 := by omega
      go_wp2_with fail
      go_ret
      exact ⟨retI HR.out, HB.out⟩
    · have hd2 : (decide ((0 : Int) ≤ g) && decide (g ≤ 5)) = false := by simp; omega
      rw [runF, if_neg (by omega)] at hr
      subst hr
      clear h1 h2
      go_enter Try.func18, Try.ntmps18
      go_wp2_with fail
      refine (in_any w e 0 9).mono ?_
      rintro x w2 ⟨rfl, rfl⟩
      rw [hd1]
      go_wp2_with fail
      refine (in_any w2 g 0 5).mono ?_
      rintro x w3 ⟨rfl, rfl⟩
      rw [hd2]
      go_wp2_with fail
      go_ret
      exact ⟨rfl, Below.refl _ _⟩
  · have hd1 : (decide ((0 : Int) ≤ e) && decide (e ≤ 9)) = false := by simp; omega
    rw [runF, if_neg (by omega)] at hr
    subst hr
    clear h1
    go_enter Try.func18, Try.ntmps18
    go_wp2_with fail
    refine (in_any w e 0 9).mono ?_
    rintro x w2 ⟨rfl, rfl⟩
    rw [hd1]
    go_wp2_with fail
    go_ret
    exact ⟨rfl, Below.refl _ _⟩

end Go.Proofs.Ytfcgfeopmnjfjaa
