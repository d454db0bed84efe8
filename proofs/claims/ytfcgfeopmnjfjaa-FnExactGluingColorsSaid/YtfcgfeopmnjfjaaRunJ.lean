/-
  Maps by genus, the program's: from the call on.
-/
import Derived.Test.YtfcgfeopmnjfjaaRunI
namespace Go.Proofs.Ytfcgfeopmnjfjaa
open Go.RowKit Go.Maps
set_option linter.unusedVariables false

theorem run_store_func {P : Program} {w : World} {a : Addr} (f : Fn) (x y : Array Value) (m : Mode) : (store a (.func f x y) m).run P w = stored P w a (.func f x y) m := run_store P w a _ m rfl
attribute [local go_sem] run_store_func

theorem made_one (w : World) (t : TypeId) (u : Value) : (w.alloc (.cells #[u] t)).cell? ⟨w.heap.size, 0, none⟩ = some u := by
  rw [cell_of_row _ _ 0 #[u] t (0, 0) (MapKept.heap_alloc w _).1]; rfl
theorem keeping_env (F : Int → Int → Int) (R : Nat) (w : World) (t1 t2 t3 : TypeId) (v : Value) (hv : v = clo (w.heap.size + 1 + 1) w.heap.size (w.heap.size + 1 + 1 + 1)) :
    Env F R ((((w.alloc (.cells #[.func (.func R) #[] #[]] t1)).alloc (.map #[] 0)).alloc (.cells #[.map (some (w.heap.size + 1))] t2)).alloc (.cells #[v] t3)) (w.heap.size + 1 + 1) w.heap.size (w.heap.size + 1 + 1 + 1) (w.heap.size + 1) := by
  subst hv
  obtain ⟨W1, h1⟩ : ∃ W, w.alloc (.cells #[.func (.func R) #[] #[]] t1) = W := ⟨_, rfl⟩
  have s1 : W1.heap.size = w.heap.size + 1 := by rw [← h1]; simp
  have c1 : W1.cell? ⟨w.heap.size, 0, none⟩ = some (.func (.func R) #[] #[]) := by rw [← h1]; exact made_one _ _ _
  rw [h1, ← s1]
  obtain ⟨W2, h2⟩ : ∃ W, W1.alloc (.map #[] 0) = W := ⟨_, rfl⟩
  have s2 : W2.heap.size = W1.heap.size + 1 := by rw [← h2]; simp
  have k2 : Kept F W2 W1.heap.size := by rw [← h2]; exact Kept.made F W1
  have g2 : W1.grownBy W2 none := by rw [← h2]; exact World.grownBy_alloc _ _ _
  rw [h2, ← s2]
  obtain ⟨W3, h3⟩ : ∃ W, W2.alloc (.cells #[.map (some W1.heap.size)] t2) = W := ⟨_, rfl⟩
  have s3 : W3.heap.size = W2.heap.size + 1 := by rw [← h3]; simp
  have c3 : W3.cell? ⟨W2.heap.size, 0, none⟩ = some (.map (some W1.heap.size)) := by rw [← h3]; exact made_one _ _ _
  have g3 : W2.grownBy W3 none := by rw [← h3]; exact World.grownBy_alloc _ _ _
  rw [h3, ← s3]
  have g4 := World.grownBy_alloc W3 (.cells #[clo W2.heap.size w.heap.size W3.heap.size] t3) none
  exact ⟨g4.cell c3 (by simp), g4.cell (g3.cell (g2.cell c1 (by simp)) (by simp)) (by simp), made_one _ _ _, (k2.grown g3 (by simp)).grown g4 (by simp), by omega, by omega, by omega⟩

set_option maxHeartbeats 800000 in
theorem keeping_any (F : Int → Int → Int) (R : Nat) (w : World) :
    Calls Try.prog 62 #[.func (.func R) #[] #[]] w fun x w' => ∃ kb rb cb mb, x = .returned (clo kb rb cb) ∧ Env F R w' kb rb cb mb ∧ Below w.heap.size w w' ∧ w.heap.size ≤ mb := by
  have hmm := @run_makeMap Try.prog
  go_enter Try.func62, Try.ntmps62
  go_wp2_with fail
  go_ret
  refine ⟨_, _, _, w.heap.size + 1, rfl, ?_, ?_, by omega⟩
  · exact keeping_env F R w _ _ _ _ rfl
  · exact ((((Below.refl _ _).alloc (Nat.le_refl _) _).alloc (by simp) _).alloc (by simp; omega) _).alloc (by simp; omega) _

def runF (e g : Int) : Int := if 0 ≤ e ∧ e ≤ 9 ∧ 0 ≤ g ∧ g ≤ 5 then qF e g else -1

set_option maxHeartbeats 800000 in
theorem impl_run (w : World) (e g : Int) (hw : (Lit.int .i64 e).wf = true) (hw' : (Lit.int .i64 g).wf = true) {r : Int} (hr : runF e g = r) :
    Calls Try.prog 17 #[.int .i64 e, .int .i64 g] w fun x w' => x = .returned (.int .i64 r) ∧ Below w.heap.size w w' := by
  by_cases h : 0 ≤ e ∧ e ≤ 9 ∧ 0 ≤ g ∧ g ≤ 5
  · rw [runF, if_pos h] at hr
    have HR := Lib.hid hr; clear hr
    obtain ⟨h1, h2, h3, h4⟩ := h
    have d1 : decide (e < 0) = false := by simp; omega
    have d2 : decide (e > 9) = false := by simp; omega
    have d3 : decide (g < 0) = false := by simp; omega
    have d4 : decide (g > 5) = false := by simp; omega
    go_enter Try.func17, Try.ntmps17
    go_wp2_with fail
    refine (keeping_any qF 63 w).mono ?_
    rintro x w2 ⟨kb, rb, cb, mb, rfl, he, hb, hle⟩
    have HE := Lib.hid he; have HB := Lib.hid hb; clear he hb
    unfold clo
    go_wp2_with fail
    refine (counts_all 10 e g ⟨by omega, by omega, by omega, by omega⟩ h2 h4 (by omega) w2 kb rb cb mb HE.out).mono ?_
    rintro x w3 ⟨rfl, he3, hg3⟩
    have HB3 := Lib.hid (HB.out.grown hg3 HB.out.size (fun k e => by cases e; exact hle)); clear he3 hg3
    go_wp2_with fail
    go_ret
    exact ⟨retI HR.out, HB3.out⟩
  · rw [runF, if_neg h] at hr
    subst hr
    by_cases d1 : e < 0
    · go_enter Try.func17, Try.ntmps17
      go_wp2_with fail
      go_ret
      exact ⟨rfl, Below.refl _ _⟩
    by_cases d2 : 9 < e
    · go_enter Try.func17, Try.ntmps17
      go_wp2_with fail
      go_ret
      exact ⟨rfl, Below.refl _ _⟩
    by_cases d3 : g < 0
    · go_enter Try.func17, Try.ntmps17
      go_wp2_with fail
      go_ret
      exact ⟨rfl, Below.refl _ _⟩
    have d4 : 5 < g := by omega
    go_enter Try.func17, Try.ntmps17
    go_wp2_with fail
    go_ret
    exact ⟨rfl, Below.refl _ _⟩

end Go.Proofs.Ytfcgfeopmnjfjaa
