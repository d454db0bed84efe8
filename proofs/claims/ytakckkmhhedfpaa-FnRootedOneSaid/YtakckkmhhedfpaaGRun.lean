/-
  Counts by formula: the ways to choose, plane maps, trees: the program's and the model's, each against one table.
  Gluings by genus: the recursion, the program's (kept by a closure) and the model's.
-/
import Derived.Test.YtakckkmhhedfpaaProg
import Derived.WalkKit
import Derived.Below
import Derived.Lib.Hide
import Derived.Test.YtakckkmhhedfpaaRunJ
namespace Go.Proofs.Ytakckkmhhedfpaa
open Go.RowKit
set_option linter.unusedVariables false


/-- The program's product, as it goes: after i rounds. -/
def chI (n : Int) : Nat → Int
  | 0 => 1
  | i + 1 => wrap64 ((wrap64 (chI n i * (n - i))).tdiv (i + 1))
/-- The model's. -/
def chS (n k : Int) : Nat → Int
  | 0 => 1
  | i + 1 => wrap64 ((wrap64 (chS n k i * (n - k + (i + 1)))).tdiv (i + 1))
/-- The program's power, as it goes. -/
def pwG (x : Int) : Nat → Int
  | 0 => 1
  | i + 1 => wrap64 (pwG x i * x)
def pwS : Nat → Int
  | 0 => 1
  | i + 1 => wrap64 (3 * pwS i)

def treesT : List Int := [1, 1, 2, 5, 14, 42, 132, 429, 1430, 4862, 16796, 58786, 208012]
def planeT : List Int := [1, 2, 9, 54, 378, 2916, 24057, 208494, 1876446, 17399772]
def treesF (x : Int) : Int := if 0 ≤ x ∧ x ≤ 12 then treesT.getD x.toNat 0 else -1
def planeF (x : Int) : Int := if 0 ≤ x ∧ x ≤ 9 then planeT.getD x.toNat 0 else -1

theorem treesI_ok : ∀ e : Nat, e < 13 → wrap64 ((chI ((2 * e : Nat) : Int) e).tdiv (e + 1)) = treesF e := by decide +kernel
theorem treesS_ok : ∀ e : Nat, e < 13 → wrap64 ((chS ((2 * e : Nat) : Int) e e).tdiv (e + 1)) = treesF e := by decide +kernel

theorem planeI_ok : ∀ e : Nat, e < 10 → wrap64 ((wrap64 (wrap64 (2 * pwG 3 e) * chI ((2 * e : Nat) : Int) e)).tdiv (wrap64 ((e + 1) * (e + 2)))) = planeF e := by decide +kernel
theorem planeS_ok : ∀ e : Nat, e < 10 → wrap64 ((wrap64 (wrap64 (2 * pwS e) * chS ((2 * e : Nat) : Int) e e)).tdiv (wrap64 ((e + 1) * (e + 2)))) = planeF e := by decide +kernel
theorem planeD_ok : ∀ e : Nat, e < 10 → ((wrap64 (((e : Int) + 1) * ((e : Int) + 2))) == 0) = false ∧ ¬ wrap64 (((e : Int) + 1) * ((e : Int) + 2)) = 0 := by decide +kernel

set_option maxHeartbeats 400000 in
theorem choose_any (w : World) (n k : Nat) (hn : n ≤ 100) (hk : k ≤ n) {r : Int} (hr : chI n k = r) :
    Calls Try.prog 61 #[.int .i64 n, .int .i64 k] w fun e w' => e = .returned (.int .i64 r) ∧ w' = w := by
  have HR := Lib.hid hr; clear hr
  go_enter Try.func61, Try.ntmps61
  go_wp2_with fail
  go_loop [5, 8] (fun v iv => ∃ i : Nat, i ≤ k ∧ iv = .int .i64 i ∧ v = .int .i64 (chI n i)) (fun _ iv => k - (intOf iv).toNat)
  case atStart => exact ⟨0, Nat.zero_le _, rfl, rfl⟩
  case round =>
    obtain ⟨i, hi, rfl, rfl⟩ := hrel
    by_cases hlt : i < k
    · have h1 : ¬ ((i : Int) + 1 = 0) := by omega
      go_wp2
      go_round
      case rel => exact ⟨i + 1, by omega, by go_num, rfl⟩
      case measure => simp [intOf]; omega
    · obtain rfl : i = k := by omega
      go_wp2
      go_ret
      exact ⟨retI HR.out, rfl⟩

theorem in_any (w : World) (x a b : Int) :
    Calls Try.prog 37 #[.int .i64 x, .int .i64 a, .int .i64 b] w fun e w' => e = .returned (.bool (decide (a ≤ x) && decide (x ≤ b))) ∧ w' = w := by
  go_enter Try.func37, Try.ntmps37
  by_cases h1 : a ≤ x
  · by_cases h2 : x ≤ b
    · go_wp2
      go_ret
      exact ⟨by simp [h1, h2], rfl⟩
    · go_wp2
      go_ret
      exact ⟨by simp [h2], rfl⟩
  · go_wp2
    go_ret
    exact ⟨by rw [(decide_eq_false (by omega) : decide (a ≤ x) = false)]; rfl, rfl⟩

set_option maxHeartbeats 800000 in
theorem impl_trees (w : World) (x : Int) (hw : (Lit.int .i64 x).wf = true) :
    Calls Try.prog 36 #[.int .i64 x] w fun e w' => e = .returned (.int .i64 (treesF x)) ∧ w' = w := by
  by_cases h0 : x < 0
  · go_enter Try.func36, Try.ntmps36
    go_wp2_with fail
    go_ret
    exact ⟨retI (by rw [treesF, if_neg (by omega)]), rfl⟩
  by_cases h1 : 12 < x
  · go_enter Try.func36, Try.ntmps36
    go_wp2_with fail
    go_ret
    exact ⟨retI (by rw [treesF, if_neg (by omega)]), rfl⟩
  obtain ⟨n, rfl⟩ : ∃ n : Nat, x = n := ⟨x.toNat, by omega⟩
  have HT := Lib.hid (treesI_ok n (by omega))
  obtain ⟨r, hr⟩ : ∃ r, chI ((2 * n : Nat) : Int) n = r := ⟨_, rfl⟩
  rw [hr] at HT
  have HR := Lib.hid hr; clear hr
  go_enter Try.func36, Try.ntmps36
  go_wp2_with fail
  refine (choose_any w (2 * n) n (by omega) (by omega) HR.out).mono ?_
  rintro e w' ⟨rfl, rfl⟩
  go_wp2_with fail
  go_ret
  exact ⟨retI HT.out, rfl⟩

end Go.Proofs.Ytakckkmhhedfpaa

namespace Go.Proofs.Ytakckkmhhedfpaa
open Go.RowKit Go.Maps
set_option linter.unusedVariables false

def lT : List (List Int) := [[1, 0, 0, 0, 0, 0], [1, 0, 0, 0, 0, 0], [2, 1, 0, 0, 0, 0], [5, 10, 0, 0, 0, 0], [14, 70, 21, 0, 0, 0], [42, 420, 483, 0, 0, 0], [132, 2310, 6468, 1485, 0, 0], [429, 12012, 66066, 56628, 0, 0], [1430, 60060, 570570, 1169740, 225225, 0], [4862, 291720, 4390386, 17454580, 12317877, 0]]
def lF (e g : Int) : Int := if 0 ≤ e ∧ 0 ≤ g then (lT.getD e.toNat []).getD g.toNat 0 else 0

theorem count_gl {e g : Int} (hd : Dom e g) (hwf : (Lit.int .i64 (lF e g)).wf = true) (h : RuleAt lF 60 e g) : CountsAt lF 60 e g := by
  intro w kb rb cb mb he
  have he1 := he.alloc (.cells #[.int .i64 e, .int .i64 g] 56 (0, 0))
  have k0 := he1.k0
  have r0 := he1.r0
  have c0 := he1.c0
  have HE := Lib.hid he
  have HE1 := Lib.hid he1
  clear he he1
  unfold kv
  go_enter Try.func83, Try.ntmps83
  go_wp2_with (at_lookup; refine wpList_look rfl _ _ rfl mb HE1.out.kept e g hd rfl rfl ?_ ?_)
  · go_ret
    exact ⟨rfl, HE1.out, World.grownBy_alloc _ _ _⟩
  · refine (h _ kb rb cb mb HE1.out).mono ?_
    rintro x w2 ⟨rfl, he2, hg⟩
    have hne : w.heap.size ≠ mb := by have := HE.out.kept.lt; omega
    have e0 := hg.cell (a := ⟨w.heap.size, 0, none⟩) (v := .int .i64 e) (made0 _ _ _ _) (by simpa using hne)
    have e1 := hg.cell (a := ⟨w.heap.size, 1, none⟩) (v := .int .i64 g) (made1 _ _ _ _) (by simpa using hne)
    have k0' := he2.k0
    have HE2 := Lib.hid he2; have HG := Lib.hid hg
    clear he2 hg k0 r0 c0
    go_wp2_with (at_mapUpdate; refine wpList_keep rfl _ _ _ rfl mb HE2.out.kept e g hd rfl rfl _ rfl rfl hwf ?_; intro w3 hk3 hg3)
    go_ret
    exact ⟨rfl, HE2.out.grown hg3 hk3, (World.grownBy_alloc w _ _).trans (HG.out.trans hg3)⟩


def lRule (e g : Int) : Int := wrap64 ((wrap64 (wrap64 (2 * (2 * e - 1) * lF (e - 1) g) + wrap64 (wrap64 (wrap64 ((2 * e - 1) * (e - 1)) * (2 * e - 3)) * lF (e - 2) (g - 1)))).tdiv (e + 1))
theorem lRule_ok : ∀ e : Nat, e < 10 → 1 ≤ e → ∀ g : Nat, g < 6 → lRule e g = lF e g := by decide +kernel
theorem lT_wf : ∀ e : Nat, e < 10 → ∀ g : Nat, g < 6 → (Lit.int .i64 ((lT.getD e []).getD g 0)).wf = true := by decide +kernel
theorem lF_wf {e g : Int} (he : e ≤ 9) (hg : g ≤ 5) : (Lit.int .i64 (lF e g)).wf = true := by
  unfold lF
  split
  · exact lT_wf e.toNat (by omega) g.toNat (by omega)
  · decide
theorem lF_edge {e g : Int} (he : e ≤ 9) (hg : g ≤ 5) (h : e < 1 ∨ g < 0) (h0 : ¬ (e = 0 ∧ g = 0)) : lF e g = 0 := by
  unfold lF
  split
  · rename_i h1
    obtain rfl : e = 0 := by omega
    have : ∀ g : Nat, g < 6 → g ≠ 0 → (lT.getD 0 []).getD g 0 = 0 := by decide +kernel
    exact this g.toNat (by omega) (by omega)
  · rfl
set_option maxHeartbeats 800000 in
theorem rule_ledge (e g : Int) (hd : Dom e g) (he : e ≤ 9) (hg : g ≤ 5) (h : e < 1 ∨ g < 0) : RuleAt lF 60 e g := by
  intro w kb rb cb mb hE
  have hE1 := hE.alloc (.cells #[.int .i64 e, .int .i64 g] 56 (0, 0))
  have HE1 := Lib.hid hE1
  clear hE hE1
  have d0 := made0 w 56 (.int .i64 e) (.int .i64 g)
  have d1 := made1 w 56 (.int .i64 e) (.int .i64 g)
  by_cases h0 : e = 0 ∧ g = 0
  · obtain ⟨rfl, rfl⟩ := h0
    unfold kv clo
    go_enter Try.func60, Try.ntmps60
    go_wp2_with fail
    go_quiet (fail)
    go_wp2_with fail
    go_ret
    exact ⟨rfl, HE1.out.drewN _, grown_drewN (World.grownBy_alloc _ _ _) _⟩
  · have hf := lF_edge he hg h h0
    rcases Int.lt_or_le e 1 with h1 | h1
    · have hz : ((e : Int) == 0 && (g : Int) == 0) = false := by rw [Bool.eq_false_iff]; intro hh; simp at hh; exact h0 hh
      have hd1 : decide (e < 1) = true := by simp; omega
      by_cases he0 : e = 0
      · subst he0
        have hg0 : (g == 0) = false := by simp; omega
        unfold kv clo
        go_enter Try.func60, Try.ntmps60
        go_wp2_with fail
        go_quiet (fail)
        go_wp2_with fail
        go_ret
        exact ⟨retI hf.symm, HE1.out.drewN _, grown_drewN (World.grownBy_alloc _ _ _) _⟩
      · have he0' : (e == 0) = false := by simpa using he0
        unfold kv clo
        go_enter Try.func60, Try.ntmps60
        go_wp2_with fail
        go_quiet (fail)
        go_wp2_with fail
        go_ret
        exact ⟨retI hf.symm, HE1.out.drewN _, grown_drewN (World.grownBy_alloc _ _ _) _⟩
    · have he0' : (e == 0) = false := by simp; omega
      have hd1 : decide (e < 1) = false := by simp; omega
      have hd2 : decide (g < 0) = true := by simp; omega
      unfold kv clo
      go_enter Try.func60, Try.ntmps60
      go_wp2_with fail
      go_quiet (fail)
      go_wp2_with fail
      go_ret
      exact ⟨retI hf.symm, HE1.out.drewN _, grown_drewN (World.grownBy_alloc _ _ _) _⟩


set_option maxHeartbeats 1600000 in
theorem rule_l (e g : Nat) (he1 : 1 ≤ e) (he : e ≤ 9) (hg : g ≤ 5) (ih : ∀ e' g' : Int, Dom e' g' → e' < e → g' ≤ 5 → CountsAt lF 60 e' g') :
    RuleAt lF 60 e g := by
  intro w kb rb cb mb hE
  have hE1 := hE.alloc (.cells #[.int .i64 e, .int .i64 g] 56 (0, 0))
  have HE := Lib.hid hE
  have HE1 := Lib.hid hE1
  clear hE hE1
  have d0 := made0 w 56 (.int .i64 e) (.int .i64 g)
  have d1 := made1 w 56 (.int .i64 e) (.int .i64 g)
  have hz : ((e : Int) == 0) = false := by simp; omega
  have hz1 : decide ((e : Int) < 1) = false := by simp; omega
  have hz2 : decide ((g : Int) < 0) = false := by simp
  have hz3 : ¬ ((e : Int) + 1 = 0) := by omega
  have HG1 := Lib.hid (World.grownBy_alloc w (.cells #[.int .i64 e, .int .i64 g] 56 (0, 0)) (some mb))
  have IH := Lib.hid ih; clear ih
  unfold kv clo
  go_enter Try.func60, Try.ntmps60
  go_wp2_with fail
  go_quiet (fail)
  go_wp2_with fail
  refine (IH.out (e - 1) g ⟨by omega, by omega, by omega, by omega⟩ (by omega) (by omega) _ kb rb cb mb (HE1.out.drewN _)).mono ?_
  rintro x w2 ⟨rfl, he2, hg2⟩
  have HE2 := Lib.hid he2
  have HG2 := Lib.hid ((grown_drewN HG1.out _).trans hg2)
  clear he2 hg2 d0 d1
  go_wp2_with fail
  refine (IH.out (e - 2) (g - 1) ⟨by omega, by omega, by omega, by omega⟩ (by omega) (by omega) _ kb rb cb mb HE2.out).mono ?_
  rintro x w3 ⟨rfl, he3, hg3⟩
  have HE3 := Lib.hid he3
  have HG3 := Lib.hid (HG2.out.trans hg3)
  clear he3 hg3
  clear HE1 HG1 HE2 HG2
  go_wp2_with fail
  go_ret
  exact ⟨retI (lRule_ok e (by omega) he1 g (by omega)), HE3.out, HG3.out⟩

theorem counts_l : ∀ (n : Nat) (e g : Int), Dom e g → e ≤ 9 → g ≤ 5 → e < n → CountsAt lF 60 e g := by
  intro n
  induction n with
  | zero =>
    intro e g hd he hg hn
    exact count_gl hd (lF_wf he hg) (rule_ledge e g hd he hg (by omega))
  | succ n ih =>
    intro e g hd he hg hn
    refine count_gl hd (lF_wf he hg) ?_
    by_cases h : e < 1 ∨ g < 0
    · exact rule_ledge e g hd he hg h
    · obtain ⟨e', rfl⟩ : ∃ k : Nat, e = k := ⟨e.toNat, by omega⟩
      obtain ⟨g', rfl⟩ : ∃ k : Nat, g = k := ⟨g.toNat, by omega⟩
      exact rule_l e' g' (by omega) (by omega) (by omega) (fun e2 g2 h1 h2 h3 => ih e2 g2 h1 (by omega) h3 (by omega))

def grunF (e g : Int) : Int := if 0 ≤ e ∧ e ≤ 9 ∧ 0 ≤ g ∧ g ≤ 5 then lF e g else -1

set_option maxHeartbeats 800000 in
theorem impl_grun (w : World) (e g : Int) (hw : (Lit.int .i64 e).wf = true) (hw' : (Lit.int .i64 g).wf = true) {r : Int} (hr : grunF e g = r) :
    Calls Try.prog 35 #[.int .i64 e, .int .i64 g] w fun x w' => x = .returned (.int .i64 r) ∧ Below w.heap.size w w' := by
  by_cases h : 0 ≤ e ∧ e ≤ 9 ∧ 0 ≤ g ∧ g ≤ 5
  · rw [grunF, if_pos h] at hr
    have HR := Lib.hid hr; clear hr
    obtain ⟨h1, h2, h3, h4⟩ := h
    have d1 : decide (e < 0) = false := by simp; omega
    have d2 : decide (e > 9) = false := by simp; omega
    have d3 : decide (g < 0) = false := by simp; omega
    have d4 : decide (g > 5) = false := by simp; omega
    go_enter Try.func35, Try.ntmps35
    go_wp2_with fail
    refine (keeping_any lF 60 w).mono ?_
    rintro x w2 ⟨kb, rb, cb, mb, rfl, he, hb, hle⟩
    have HE := Lib.hid he; have HB := Lib.hid hb; clear he hb
    unfold clo
    go_wp2_with fail
    refine (counts_l 10 e g ⟨by omega, by omega, by omega, by omega⟩ h2 h4 (by omega) w2 kb rb cb mb HE.out).mono ?_
    rintro x w3 ⟨rfl, he3, hg3⟩
    have HB3 := Lib.hid (HB.out.grown hg3 HB.out.size (fun k e => by cases e; exact hle)); clear he3 hg3
    go_wp2_with fail
    go_ret
    exact ⟨retI HR.out, HB3.out⟩
  · rw [grunF, if_neg h] at hr
    subst hr
    by_cases d1 : e < 0
    · go_enter Try.func35, Try.ntmps35
      go_wp2_with fail
      go_ret
      exact ⟨rfl, Below.refl _ _⟩
    by_cases d2 : 9 < e
    · go_enter Try.func35, Try.ntmps35
      go_wp2_with fail
      go_ret
      exact ⟨rfl, Below.refl _ _⟩
    by_cases d3 : g < 0
    · go_enter Try.func35, Try.ntmps35
      go_wp2_with fail
      go_ret
      exact ⟨rfl, Below.refl _ _⟩
    have d4 : 5 < g := by omega
    go_enter Try.func35, Try.ntmps35
    go_wp2_with fail
    go_ret
    exact ⟨rfl, Below.refl _ _⟩

end Go.Proofs.Ytakckkmhhedfpaa
