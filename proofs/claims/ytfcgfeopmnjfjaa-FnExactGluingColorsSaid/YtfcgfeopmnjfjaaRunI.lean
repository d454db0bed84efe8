/-
  Maps by genus, the program's: the rule, and the closure that keeps.
-/
import Derived.Test.YtfcgfeopmnjfjaaMemo
namespace Go.Proofs.Ytfcgfeopmnjfjaa
open Go.RowKit Go.Maps
set_option linter.unusedVariables false

def qT : List (List Int) := [[1, 0, 0, 0, 0, 0], [2, 0, 0, 0, 0, 0], [9, 1, 0, 0, 0, 0], [54, 20, 0, 0, 0, 0], [378, 307, 21, 0, 0, 0], [2916, 4280, 966, 0, 0, 0], [24057, 56914, 27954, 1485, 0, 0], [208494, 736568, 650076, 113256, 0, 0], [1876446, 9370183, 13271982, 5008230, 225225, 0], [17399772, 117822512, 248371380, 167808024, 24635754, 0]]
def qF (e g : Int) : Int := if 0 ≤ e ∧ 0 ≤ g then (qT.getD e.toNat []).getD g.toNat 0 else 0

theorem count_g {e g : Int} (hd : Dom e g) (hwf : (Lit.int .i64 (qF e g)).wf = true) (h : RuleAt qF 63 e g) : CountsAt qF 63 e g := by
  intro w kb rb cb mb he
  have he1 := he.alloc (.cells #[.int .i64 e, .int .i64 g] 61 (0, 0))
  have k0 := he1.k0
  have r0 := he1.r0
  have c0 := he1.c0
  have HE := Lib.hid he
  have HE1 := Lib.hid he1
  clear he he1
  unfold kv
  go_enter Try.func102, Try.ntmps102
  go_wp2_with (at_lookup; refine wpList_look rfl _ _ rfl mb HE1.out.kept e g hd rfl rfl ?_ ?_)
  · go_ret
    exact ⟨rfl, HE1.out, World.grownBy_alloc _ _ _⟩
  · refine (h _ kb rb cb mb HE1.out).mono ?_
    rintro x w2 ⟨rfl, he2, hg⟩
    have hne : w.heap.size ≠ mb := by have := HE.out.kept.lt; omega
    have e0 := hg.cell (a := ⟨w.heap.size, 0, none⟩) (v := .int .i64 e) (made0 _ _ _ _) (by simpa using hne)
    have e1 := hg.cell (a := ⟨w.heap.size, 1, none⟩) (v := .int .i64 g) (made1 _ _ _ _) (by simpa using hne)
    have k0' := he2.k0
    have HE2 := Lib.hid he2; have HG := Lib.hid hg
    clear he2 hg k0 r0 c0
    go_wp2_with (at_mapUpdate; refine wpList_keep rfl _ _ _ rfl mb HE2.out.kept e g hd rfl rfl _ rfl rfl hwf ?_; intro w3 hk3 hg3)
    go_ret
    exact ⟨rfl, HE2.out.grown hg3 hk3, (World.grownBy_alloc w _ _).trans (HG.out.trans hg3)⟩

theorem retI {a b : Int} (h : a = b) : Ending.returned (.int .i64 a) = .returned (.int .i64 b) := by rw [h]
/-- The sums of the rule, as they go. -/
def gIn (e g k : Int) (s : Int) : Nat → Int
  | 0 => s
  | i + 1 => wrap64 (gIn e g k s i + wrap64 (wrap64 (wrap64 (3 * (2 * (k + 1) - 1) * (2 * (e - (k + 1)) - 1)) * qF k i) * qF (e - (k + 1) - 1) (g - i)))
def gOut (e g : Int) (s : Int) : Nat → Int
  | 0 => s
  | k + 1 => gIn e g k (gOut e g s k) (g.toNat + 1)
def gBase (e g : Int) : Int :=
  wrap64 (wrap64 (2 * (4 * e - 2) * qF (e - 1) g) + wrap64 (wrap64 (wrap64 ((2 * e - 3) * (e - 1)) * (2 * e - 1)) * qF (e - 2) (g - 1)))
theorem genus_ok : ∀ k : Nat, k < 9 → ∀ g : Nat, g < 6 → wrap64 ((gOut ((k : Int) + 1) g (gBase ((k : Int) + 1) g) k).tdiv ((k : Int) + 1 + 1)) = qF ((k + 1 : Nat) : Int) g := by decide +kernel
theorem qT_wf : ∀ e : Nat, e < 10 → ∀ g : Nat, g < 6 → (Lit.int .i64 ((qT.getD e []).getD g 0)).wf = true := by decide +kernel
theorem qF_wf {e g : Int} (he : e ≤ 9) (hg : g ≤ 5) : (Lit.int .i64 (qF e g)).wf = true := by
  unfold qF
  split
  · exact qT_wf e.toNat (by omega) g.toNat (by omega)
  · decide
theorem qF_edge {e g : Int} (he : e ≤ 9) (hg : g ≤ 5) (h : e < 1 ∨ g < 0) (h0 : ¬ (e = 0 ∧ g = 0)) : qF e g = 0 := by
  unfold qF
  split
  · rename_i h1
    obtain rfl : e = 0 := by omega
    have : ∀ g : Nat, g < 6 → g ≠ 0 → (qT.getD 0 []).getD g 0 = 0 := by decide +kernel
    exact this g.toNat (by omega) (by omega)
  · rfl
set_option maxHeartbeats 800000 in
theorem rule_edge (e g : Int) (hd : Dom e g) (he : e ≤ 9) (hg : g ≤ 5) (h : e < 1 ∨ g < 0) : RuleAt qF 63 e g := by
  intro w kb rb cb mb hE
  have hE1 := hE.alloc (.cells #[.int .i64 e, .int .i64 g] 61 (0, 0))
  have HE1 := Lib.hid hE1
  clear hE hE1
  have d0 := made0 w 61 (.int .i64 e) (.int .i64 g)
  have d1 := made1 w 61 (.int .i64 e) (.int .i64 g)
  by_cases h0 : e = 0 ∧ g = 0
  · obtain ⟨rfl, rfl⟩ := h0
    unfold kv clo
    go_enter Try.func63, Try.ntmps63
    go_wp2_with fail
    go_quiet (fail)
    go_wp2_with fail
    go_ret
    exact ⟨rfl, HE1.out.drewN _, grown_drewN (World.grownBy_alloc _ _ _) _⟩
  · have hf := qF_edge he hg h h0
    rcases Int.lt_or_le e 1 with h1 | h1
    · have hz : ((e : Int) == 0 && (g : Int) == 0) = false := by rw [Bool.eq_false_iff]; intro hh; simp at hh; exact h0 hh
      have hd1 : decide (e < 1) = true := by simp; omega
      by_cases he0 : e = 0
      · subst he0
        have hg0 : (g == 0) = false := by simp; omega
        unfold kv clo
        go_enter Try.func63, Try.ntmps63
        go_wp2_with fail
        go_quiet (fail)
        go_wp2_with fail
        go_ret
        exact ⟨retI hf.symm, HE1.out.drewN _, grown_drewN (World.grownBy_alloc _ _ _) _⟩
      · have he0' : (e == 0) = false := by simpa using he0
        unfold kv clo
        go_enter Try.func63, Try.ntmps63
        go_wp2_with fail
        go_quiet (fail)
        go_wp2_with fail
        go_ret
        exact ⟨retI hf.symm, HE1.out.drewN _, grown_drewN (World.grownBy_alloc _ _ _) _⟩
    · have he0' : (e == 0) = false := by simp; omega
      have hd1 : decide (e < 1) = false := by simp; omega
      have hd2 : decide (g < 0) = true := by simp; omega
      unfold kv clo
      go_enter Try.func63, Try.ntmps63
      go_wp2_with fail
      go_quiet (fail)
      go_wp2_with fail
      go_ret
      exact ⟨retI hf.symm, HE1.out.drewN _, grown_drewN (World.grownBy_alloc _ _ _) _⟩

set_option maxHeartbeats 1600000 in
theorem rule_g (e g : Nat) (he1 : 1 ≤ e) (he : e ≤ 9) (hg : g ≤ 5) (ih : ∀ e' g' : Int, Dom e' g' → e' < e → g' ≤ 5 → CountsAt qF 63 e' g') :
    RuleAt qF 63 e g := by
  intro w kb rb cb mb hE
  have hE1 := hE.alloc (.cells #[.int .i64 e, .int .i64 g] 61 (0, 0))
  have HE := Lib.hid hE
  have HE1 := Lib.hid hE1
  clear hE hE1
  have d0 := made0 w 61 (.int .i64 e) (.int .i64 g)
  have d1 := made1 w 61 (.int .i64 e) (.int .i64 g)
  have hz : ((e : Int) == 0) = false := by simp; omega
  have hz1 : decide ((e : Int) < 1) = false := by simp; omega
  have hz2 : decide ((g : Int) < 0) = false := by simp
  have HG1 := Lib.hid (World.grownBy_alloc w (.cells #[.int .i64 e, .int .i64 g] 61 (0, 0)) (some mb))
  have IH := Lib.hid ih; clear ih
  unfold kv clo
  go_enter Try.func63, Try.ntmps63
  go_wp2_with fail
  go_quiet (fail)
  go_wp2_with fail
  refine (IH.out (e - 1) g ⟨by omega, by omega, by omega, by omega⟩ (by omega) (by omega) _ kb rb cb mb (HE1.out.drewN _)).mono ?_
  rintro x w2 ⟨rfl, he2, hg2⟩
  have HE2 := Lib.hid he2
  have HG2 := Lib.hid ((grown_drewN HG1.out _).trans hg2)
  clear he2 hg2 d0 d1
  go_wp2_with fail
  refine (IH.out (e - 2) (g - 1) ⟨by omega, by omega, by omega, by omega⟩ (by omega) (by omega) _ kb rb cb mb HE2.out).mono ?_
  rintro x w3 ⟨rfl, he3, hg3⟩
  have HE3 := Lib.hid he3
  have HG3 := Lib.hid (HG2.out.trans hg3)
  clear he3 hg3
  clear HE1 HG1 HE2 HG2
  go_wp2_with fail
  go_loopw [7, 8] (fun sv kv' wr => ∃ k : Nat, k + 1 ≤ e ∧ kv' = .int .i64 (k + 1) ∧ sv = .int .i64 (gOut e g (gBase e g) k) ∧ Hid (Env qF 63 wr kb rb cb mb) ∧ Hid (w.grownBy wr (some mb))) (fun _ kv' _ => e - (intOf kv').toNat)
  case atStart => exact ⟨0, by omega, rfl, rfl, HE3, HG3⟩
  case round =>
    obtain ⟨k, hk, rfl, rfl, he3, hg3⟩ := hrel
    by_cases hlt : k + 1 < e
    · have hd1 : decide ((k : Int) + 1 < (e : Int)) = true := by simp; omega
      go_wp2_with fail
      go_loopw [7, 68] (fun sv iv wr' => ∃ i : Nat, i ≤ g + 1 ∧ iv = .int .i64 i ∧ sv = .int .i64 (gIn e g k (gOut e g (gBase e g) k) i) ∧ Hid (Env qF 63 wr' kb rb cb mb) ∧ Hid (w.grownBy wr' (some mb))) (fun _ iv _ => g + 1 - (intOf iv).toNat)
      case atStart => exact ⟨0, by omega, rfl, rfl, he3, hg3⟩
      case round =>
        obtain ⟨i, hi, rfl, rfl, he4, hg4⟩ := hrel
        by_cases hlt2 : i < g + 1
        · go_wp2_with fail
          refine (IH.out k i ⟨by omega, by omega, by omega, by omega⟩ (by omega) (by omega) _ kb rb cb mb he4.out).mono ?_
          rintro x w5 ⟨rfl, he5, hg5⟩
          have HE5 := Lib.hid he5
          have HG5 := Lib.hid (hg4.out.trans hg5)
          clear he5 hg5
          go_wp2_with fail
          refine (IH.out (e - (k + 1) - 1) (g - i) ⟨by omega, by omega, by omega, by omega⟩ (by omega) (by omega) _ kb rb cb mb HE5.out).mono ?_
          rintro x w6 ⟨rfl, he6, hg6⟩
          have HE6 := Lib.hid he6
          have HG6 := Lib.hid (HG5.out.trans hg6)
          clear he6 hg6
          go_wp2_with fail
          go_roundw
          case rel => exact ⟨i + 1, by omega, by go_num, rfl, HE6, HG6⟩
          case measure => simp [intOf]; omega
        · obtain rfl : i = g + 1 := by omega
          go_wp2_with fail
          go_roundw
          case rel => exact ⟨k + 1, by omega, by go_num, rfl, he4, hg4⟩
          case measure => simp [intOf]; omega
    · obtain rfl : e = k + 1 := by omega
      go_wp2_with fail
      go_ret
      exact ⟨retI (genus_ok k (by omega) g (by omega)), he3.out, hg3.out⟩

theorem counts_all : ∀ (n : Nat) (e g : Int), Dom e g → e ≤ 9 → g ≤ 5 → e < n → CountsAt qF 63 e g := by
  intro n
  induction n with
  | zero =>
    intro e g hd he hg hn
    exact count_g hd (qF_wf he hg) (rule_edge e g hd he hg (by omega))
  | succ n ih =>
    intro e g hd he hg hn
    refine count_g hd (qF_wf he hg) ?_
    by_cases h : e < 1 ∨ g < 0
    · exact rule_edge e g hd he hg h
    · obtain ⟨e', rfl⟩ : ∃ k : Nat, e = k := ⟨e.toNat, by omega⟩
      obtain ⟨g', rfl⟩ : ∃ k : Nat, g = k := ⟨g.toNat, by omega⟩
      exact rule_g e' g' (by omega) (by omega) (by omega) (fun e2 g2 h1 h2 h3 => ih e2 g2 h1 (by omega) h3 (by omega))

end Go.Proofs.Ytfcgfeopmnjfjaa
