/-
  Plane maps by the degree of the root face, the program's: the rule, and the closure that keeps.
-/
import Derived.Test.YtfcgfeopmnjfjaaRunJ
namespace Go.Proofs.Ytfcgfeopmnjfjaa
open Go.RowKit Go.Maps
set_option linter.unusedVariables false

def fT : List (List Int) := [[1, 0, 0, 0, 0, 0, 0, 0, 0, 0, 0, 0, 0, 0, 0, 0, 0, 0, 0], [0, 1, 1, 0, 0, 0, 0, 0, 0, 0, 0, 0, 0, 0, 0, 0, 0, 0, 0], [0, 2, 2, 3, 2, 0, 0, 0, 0, 0, 0, 0, 0, 0, 0, 0, 0, 0, 0], [0, 9, 9, 11, 10, 10, 5, 0, 0, 0, 0, 0, 0, 0, 0, 0, 0, 0, 0], [0, 54, 54, 63, 58, 55, 45, 35, 14, 0, 0, 0, 0, 0, 0, 0, 0, 0, 0], [0, 378, 378, 432, 400, 377, 321, 266, 196, 126, 42, 0, 0, 0, 0, 0, 0, 0, 0], [0, 2916, 2916, 3294, 3060, 2880, 2496, 2121, 1680, 1260, 840, 462, 132, 0, 0, 0, 0, 0, 0], [0, 24057, 24057, 26973, 25110, 23625, 20682, 17817, 14568, 11502, 8520, 5874, 3564, 1716, 429, 0, 0, 0, 0], [0, 208494, 208494, 232551, 216810, 203985, 179739, 156184, 130026, 105435, 81795, 60753, 42273, 27027, 15015, 6435, 1430, 0, 0], [0, 1876446, 1876446, 2084940, 1945944, 1831005, 1620729, 1416744, 1193292, 983663, 783415, 604648, 446908, 314314, 206206, 122980, 62920, 24310, 4862]]
def fF (e g : Int) : Int := if 0 ≤ e ∧ 0 ≤ g then (fT.getD e.toNat []).getD g.toNat 0 else 0
theorem fT_wf : ∀ e : Nat, e < 10 → ∀ g : Nat, g < 19 → (Lit.int .i64 ((fT.getD e []).getD g 0)).wf = true := by decide +kernel
theorem fF_wf {e g : Int} (he : e ≤ 9) (hg : g ≤ 18) : (Lit.int .i64 (fF e g)).wf = true := by
  unfold fF
  split
  · exact fT_wf e.toNat (by omega) g.toNat (by omega)
  · decide
theorem fF_edge {e g : Int} (he : e ≤ 9) (hg : g ≤ 18) (h : e < 1 ∨ g < 1) (h0 : ¬ (e = 0 ∧ g = 0)) : fF e g = 0 := by
  unfold fF
  split
  · rename_i h1
    have h2 : ∀ g : Nat, g < 19 → g ≠ 0 → (fT.getD 0 []).getD g 0 = 0 := by decide +kernel
    have h3 : ∀ e : Nat, e < 10 → e ≠ 0 → (fT.getD e []).getD 0 0 = 0 := by decide +kernel
    rcases Int.lt_or_le e 1 with h4 | h4
    · obtain rfl : e = 0 := by omega
      exact h2 g.toNat (by omega) (by omega)
    · obtain rfl : g = 0 := by omega
      exact h3 e.toNat (by omega) (by omega)
  · rfl

theorem count_f {e g : Int} (hd : Dom e g) (hwf : (Lit.int .i64 (fF e g)).wf = true) (h : RuleAt fF 69 e g) : CountsAt fF 69 e g := by
  intro w kb rb cb mb he
  have he1 := he.alloc (.cells #[.int .i64 e, .int .i64 g] 61 (0, 0))
  have k0 := he1.k0
  have r0 := he1.r0
  have c0 := he1.c0
  have HE := Lib.hid he
  have HE1 := Lib.hid he1
  clear he he1
  unfold kv
  go_enter Try.func102, Try.ntmps102
  go_wp2_with (at_lookup; refine wpList_look rfl _ _ rfl mb HE1.out.kept e g hd rfl rfl ?_ ?_)
  · go_ret
    exact ⟨rfl, HE1.out, World.grownBy_alloc _ _ _⟩
  · refine (h _ kb rb cb mb HE1.out).mono ?_
    rintro x w2 ⟨rfl, he2, hg⟩
    have hne : w.heap.size ≠ mb := by have := HE.out.kept.lt; omega
    have e0 := hg.cell (a := ⟨w.heap.size, 0, none⟩) (v := .int .i64 e) (made0 _ _ _ _) (by simpa using hne)
    have e1 := hg.cell (a := ⟨w.heap.size, 1, none⟩) (v := .int .i64 g) (made1 _ _ _ _) (by simpa using hne)
    have k0' := he2.k0
    have HE2 := Lib.hid he2; have HG := Lib.hid hg
    clear he2 hg k0 r0 c0
    go_wp2_with (at_mapUpdate; refine wpList_keep rfl _ _ _ rfl mb HE2.out.kept e g hd rfl rfl _ rfl rfl hwf ?_; intro w3 hk3 hg3)
    go_ret
    exact ⟨rfl, HE2.out.grown hg3 hk3, (World.grownBy_alloc w _ _).trans (HG.out.trans hg3)⟩


set_option maxHeartbeats 800000 in
theorem face_edge (e g : Int) (hd : Dom e g) (he : e ≤ 9) (hg : g ≤ 18) (h : e < 1 ∨ g < 1) : RuleAt fF 69 e g := by
  intro w kb rb cb mb hE
  have hE1 := hE.alloc (.cells #[.int .i64 e, .int .i64 g] 61 (0, 0))
  have HE1 := Lib.hid hE1
  clear hE hE1
  have d0 := made0 w 61 (.int .i64 e) (.int .i64 g)
  have d1 := made1 w 61 (.int .i64 e) (.int .i64 g)
  by_cases h0 : e = 0 ∧ g = 0
  · obtain ⟨rfl, rfl⟩ := h0
    unfold kv clo
    go_enter Try.func69, Try.ntmps69
    go_wp2_with fail
    go_quiet (fail)
    go_wp2_with fail
    go_ret
    exact ⟨rfl, HE1.out.drewN _, grown_drewN (World.grownBy_alloc _ _ _) _⟩
  · have hf := fF_edge he hg h h0
    rcases Int.lt_or_le e 1 with h1 | h1
    · have hz : ((e : Int) == 0 && (g : Int) == 0) = false := by rw [Bool.eq_false_iff]; intro hh; simp at hh; exact h0 hh
      have hd1 : decide (e < 1) = true := by simp; omega
      by_cases he0 : e = 0
      · subst he0
        have hg0 : (g == 0) = false := by simp; omega
        unfold kv clo
        go_enter Try.func69, Try.ntmps69
        go_wp2_with fail
        go_quiet (fail)
        go_wp2_with fail
        go_ret
        exact ⟨retI hf.symm, HE1.out.drewN _, grown_drewN (World.grownBy_alloc _ _ _) _⟩
      · have he0' : (e == 0) = false := by simpa using he0
        unfold kv clo
        go_enter Try.func69, Try.ntmps69
        go_wp2_with fail
        go_quiet (fail)
        go_wp2_with fail
        go_ret
        exact ⟨retI hf.symm, HE1.out.drewN _, grown_drewN (World.grownBy_alloc _ _ _) _⟩
    · have he0' : (e == 0) = false := by simp; omega
      have hd1 : decide (e < 1) = false := by simp; omega
      have hd2 : decide (g < 1) = true := by simp; omega
      unfold kv clo
      go_enter Try.func69, Try.ntmps69
      go_wp2_with fail
      go_quiet (fail)
      go_wp2_with fail
      go_ret
      exact ⟨retI hf.symm, HE1.out.drewN _, grown_drewN (World.grownBy_alloc _ _ _) _⟩


/-- The sums of the rule, as they go. -/
def fIn (e p i s : Int) : Nat → Int
  | 0 => s
  | a + 1 => wrap64 (fIn e p i s a + wrap64 (fF i a * fF (e - 1 - i) (p - 2 - a)))
def fOut (e p : Int) : Nat → Int
  | 0 => 0
  | i + 1 => fIn e p i (fOut e p i) (p.toNat - 1)
def fLast (e p s : Int) : Nat → Int
  | 0 => s
  | j + 1 => wrap64 (fLast e p s j + fF (e - 1) (p - 1 + j))
theorem face_ok : ∀ e : Nat, e < 10 → 0 < e → ∀ p : Nat, p < 19 → 0 < p → fLast e p (fOut e p e) (2 * (e - 1) + 1 - (p - 1)) = fF e p := by decide +kernel

set_option maxHeartbeats 1600000 in
theorem rule_f (e p : Nat) (he1 : 1 ≤ e) (he : e ≤ 9) (hp1 : 1 ≤ p) (hp : p ≤ 18) (ih : ∀ e' g' : Int, Dom e' g' → e' < e → g' ≤ 18 → CountsAt fF 69 e' g') :
    RuleAt fF 69 e p := by
  intro w kb rb cb mb hE
  have hE1 := hE.alloc (.cells #[.int .i64 e, .int .i64 p] 61 (0, 0))
  have HE := Lib.hid hE
  have HE1 := Lib.hid hE1
  clear hE hE1
  have d0 := made0 w 61 (.int .i64 e) (.int .i64 p)
  have d1 := made1 w 61 (.int .i64 e) (.int .i64 p)
  have hz : ((e : Int) == 0) = false := by simp; omega
  have hz1 : decide ((e : Int) < 1) = false := by simp; omega
  have hz2 : decide ((p : Int) < 1) = false := by simp; omega
  have HG1 := Lib.hid (World.grownBy_alloc w (.cells #[.int .i64 e, .int .i64 p] 61 (0, 0)) (some mb))
  have IH := Lib.hid ih; clear ih
  obtain ⟨m, hm⟩ : ∃ m : Nat, (p : Int) - 1 = m := ⟨p - 1, by omega⟩
  obtain ⟨f, hf⟩ : ∃ f : Nat, (e : Int) - 1 = f := ⟨e - 1, by omega⟩
  have HM : Hid (p = m + 1) := by unfold Hid; omega
  have HF : Hid (e = f + 1) := by unfold Hid; omega
  have HOK := Lib.hid (face_ok e (by omega) he1 p (by omega) hp1)
  unfold kv clo
  go_enter Try.func69, Try.ntmps69
  go_wp2_with fail
  go_quiet (fail)
  go_wp2_with fail
  go_loopw [7, 28] (fun sv iv wr => ∃ i : Nat, i ≤ e ∧ iv = .int .i64 i ∧ sv = .int .i64 (fOut e p i) ∧ Hid (Env fF 69 wr kb rb cb mb) ∧ Hid (w.grownBy wr (some mb))) (fun _ iv _ => e - (intOf iv).toNat)
  case atStart => exact ⟨0, by omega, rfl, rfl, HE1.out.drewN _, grown_drewN HG1.out _⟩
  case round =>
    clear d0 d1 HE1 HG1
    obtain ⟨i, hi, rfl, rfl, he3, hg3⟩ := hrel
    by_cases hlt : i < e
    · have hd1 : decide ((i : Int) < (e : Int)) = true := by simp; omega
      go_wp2_with fail
      go_loopw [7, 33] (fun sv av wr' => ∃ a : Nat, a ≤ m ∧ av = .int .i64 a ∧ sv = .int .i64 (fIn e p i (fOut e p i) a) ∧ Hid (Env fF 69 wr' kb rb cb mb) ∧ Hid (w.grownBy wr' (some mb))) (fun _ av _ => m - (intOf av).toNat)
      case atStart => exact ⟨0, by omega, rfl, rfl, he3, hg3⟩
      case round =>
        obtain ⟨a, ha, rfl, rfl, he4, hg4⟩ := hrel
        by_cases hlt2 : a < m
        · go_wp2_with fail
          refine (IH.out i a ⟨by omega, by omega, by omega, by omega⟩ (by omega) (by omega) _ kb rb cb mb he4.out).mono ?_
          rintro x w5 ⟨rfl, he5, hg5⟩
          have HE5 := Lib.hid he5
          have HG5 := Lib.hid (hg4.out.trans hg5)
          clear he5 hg5
          go_wp2_with fail
          refine (IH.out (f - i) (p - 2 - a) ⟨by omega, by omega, by have := HM.out; omega, by omega⟩ (by omega) (by omega) _ kb rb cb mb HE5.out).mono ?_
          rintro x w6 ⟨rfl, he6, hg6⟩
          have HE6 := Lib.hid he6
          have HG6 := Lib.hid (HG5.out.trans hg6)
          clear he6 hg6
          go_wp2_with fail
          go_roundw
          case rel => exact ⟨a + 1, by omega, by go_num, by rw [fIn, hf], HE6, HG6⟩
          case measure => simp [intOf]; omega
        · obtain rfl : a = m := by omega
          go_wp2_with fail
          go_roundw
          case rel => exact ⟨i + 1, by omega, by go_num, by rw [fOut, HM.out]; rfl, he4, hg4⟩
          case measure => simp [intOf]; omega
    · have hie : i = e := by omega
      have hd1 : decide ((i : Int) < (e : Int)) = false := by simp; omega
      have HIE := Lib.hid hie; clear hie
      go_wp2_with fail
      go_loopw [7, 10] (fun sv qv wr' => ∃ j : Nat, j ≤ 2 * f + 1 - m ∧ qv = .int .i64 (m + j) ∧ sv = .int .i64 (fLast e p (fOut e p i) j) ∧ Hid (Env fF 69 wr' kb rb cb mb) ∧ Hid (w.grownBy wr' (some mb))) (fun _ qv _ => 2 * f + 1 - (intOf qv).toNat)
      case atStart => exact ⟨0, by omega, by go_num, rfl, he3, hg3⟩
      case round =>
        obtain ⟨j, hj, rfl, rfl, he4, hg4⟩ := hrel
        by_cases hlt3 : j < 2 * f + 1 - m
        · have hd3 : decide ((m : Int) + j ≤ 2 * (f : Int)) = true := by simp; omega
          go_wp2_with fail
          refine (IH.out f (m + j) ⟨by omega, by omega, by omega, by omega⟩ (by omega) (by omega) _ kb rb cb mb he4.out).mono ?_
          rintro x w5 ⟨rfl, he5, hg5⟩
          have HE5 := Lib.hid he5
          have HG5 := Lib.hid (hg4.out.trans hg5)
          clear he5 hg5
          go_wp2_with fail
          go_roundw
          case rel => exact ⟨j + 1, by omega, by go_num, by rw [fLast, hf, hm], HE5, HG5⟩
          case measure => simp [intOf]; omega
        · obtain rfl : j = 2 * f + 1 - m := by omega
          have hd3 : decide ((m : Int) + ((2 * f + 1 - m : Nat) : Int) ≤ 2 * (f : Int)) = false := by simp; omega
          go_wp2_with fail
          go_ret
          exact ⟨retI (by rw [← HOK.out, HIE.out, HM.out, HF.out]; rfl), he4.out, hg4.out⟩

theorem face_all : ∀ (n : Nat) (e g : Int), Dom e g → e ≤ 9 → g ≤ 18 → e < n → CountsAt fF 69 e g := by
  intro n
  induction n with
  | zero =>
    intro e g hd he hg hn
    exact count_f hd (fF_wf he hg) (face_edge e g hd he hg (by omega))
  | succ n ih =>
    intro e g hd he hg hn
    refine count_f hd (fF_wf he hg) ?_
    by_cases h : e < 1 ∨ g < 1
    · exact face_edge e g hd he hg h
    · obtain ⟨e', rfl⟩ : ∃ k : Nat, e = k := ⟨e.toNat, by omega⟩
      obtain ⟨g', rfl⟩ : ∃ k : Nat, g = k := ⟨g.toNat, by omega⟩
      exact rule_f e' g' (by omega) (by omega) (by omega) (by omega) (fun e2 g2 h1 h2 h3 => ih e2 g2 h1 (by omega) h3 (by omega))

end Go.Proofs.Ytfcgfeopmnjfjaa
