/-
  Maps by genus, the program's: the rule, and the closure that keeps.
-/
import Derived.Test.YtolbcdhkjhbepaaMemo
namespace Go.Proofs.Ytolbcdhkjhbepaa
open Go.RowKit Go.Maps
set_option linter.unusedVariables false

def qT : List (List Int) := [[1, 0, 0, 0, 0, 0], [2, 0, 0, 0, 0, 0], [9, 1, 0, 0, 0, 0], [54, 20, 0, 0, 0, 0], [378, 307, 21, 0, 0, 0], [2916, 4280, 966, 0, 0, 0], [24057, 56914, 27954, 1485, 0, 0], [208494, 736568, 650076, 113256, 0, 0], [1876446, 9370183, 13271982, 5008230, 225225, 0], [17399772, 117822512, 248371380, 167808024, 24635754, 0]]
def qF (e g : Int) : Int := if 0 ≤ e ∧ 0 ≤ g then (qT.getD e.toNat []).getD g.toNat 0 else 0

theorem retI {a b : Int} (h : a = b) : Ending.returned (.int .i64 a) = .returned (.int .i64 b) := by rw [h]
/-- The sums of the rule, as they go. -/
def gIn (e g k : Int) (s : Int) : Nat → Int
  | 0 => s
  | i + 1 => wrap64 (gIn e g k s i + wrap64 (wrap64 (wrap64 (3 * (2 * (k + 1) - 1) * (2 * (e - (k + 1)) - 1)) * qF k i) * qF (e - (k + 1) - 1) (g - i)))
def gOut (e g : Int) (s : Int) : Nat → Int
  | 0 => s
  | k + 1 => gIn e g k (gOut e g s k) (g.toNat + 1)
def gBase (e g : Int) : Int :=
  wrap64 (wrap64 (2 * (4 * e - 2) * qF (e - 1) g) + wrap64 (wrap64 (wrap64 ((2 * e - 3) * (e - 1)) * (2 * e - 1)) * qF (e - 2) (g - 1)))
theorem genus_ok : ∀ k : Nat, k < 9 → ∀ g : Nat, g < 6 → wrap64 ((gOut ((k : Int) + 1) g (gBase ((k : Int) + 1) g) k).tdiv ((k : Int) + 1 + 1)) = qF ((k + 1 : Nat) : Int) g := by decide +kernel
theorem qT_wf : ∀ e : Nat, e < 10 → ∀ g : Nat, g < 6 → (Lit.int .i64 ((qT.getD e []).getD g 0)).wf = true := by decide +kernel
theorem qF_wf {e g : Int} (he : e ≤ 9) (hg : g ≤ 5) : (Lit.int .i64 (qF e g)).wf = true := by
  unfold qF
  split
  · exact qT_wf e.toNat (by omega) g.toNat (by omega)
  · decide
theorem qF_edge {e g : Int} (he : e ≤ 9) (hg : g ≤ 5) (h : e < 1 ∨ g < 0) (h0 : ¬ (e = 0 ∧ g = 0)) : qF e g = 0 := by
  unfold qF
  split
  · rename_i h1
    obtain rfl : e = 0 := by omega
    have : ∀ g : Nat, g < 6 → g ≠ 0 → (qT.getD 0 []).getD g 0 = 0 := by decide +kernel
    exact this g.toNat (by omega) (by omega)
  · rfl
end Go.Proofs.Ytolbcdhkjhbepaa
