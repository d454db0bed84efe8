/-
  FactorCount, the program's and the model's, by contract.
-/
import Derived.Test.YtlgfedkoefhjjaaTys
import Derived.Test.YtlgfedkoefhjjaaPAll
import Derived.Test.YtlgfedkoefhjjaaPtG
import Derived.Test.YtlgfedkoefhjjaaPtH
import Derived.Deep.QuietTactic
namespace Go.Proofs.Ytlgfedkoefhjjaa
open Go.RowKit
set_option linter.unusedVariables false
attribute [local go_sem] Oper.semAt_some

/-- The product over the first i types. -/
def prdF (a : List Int) (xss : List (List Int)) : Nat → Int
  | 0 => IntKind.i64.wrap (dg a * dg a)
  | i + 1 => IntKind.i64.wrap (prdF a xss i * IntKind.i64.wrap ((IntKind.i64.wrap (cs (row xss i) * chr a (row xss i))).tdiv (dg a)))
def sumF (L : List (List Int)) (xss : List (List Int)) : Nat → Int
  | 0 => 0
  | i + 1 => IntKind.i64.wrap (sumF L xss i + prdF (L.getD i []) xss xss.length)
def shapesOf (xss : List (List Int)) : List (List Int) := ptsOf 7 (sumI (row xss 0)).toNat (sumI (row xss 0)).toNat
def fcR (xss : List (List Int)) : Int := if tyB xss = true then IntKind.i64.wrap ((sumF (shapesOf xss) xss (shapesOf xss).length).tdiv (fct (sumI (row xss 0)).toNat)) else -1
theorem shapes_in : ∀ n : Nat, n < 7 → 1 ≤ n → ∀ a ∈ ptsOf 7 n n, pt a = true ∧ sumI a = n := by decide +kernel

/-- A world above w: blocks were laid, nothing was written. -/
structure AbvN (w : World) where
  to : World
  b : Below w.heap.size w to
instance (w : World) : Inhabited (AbvN w) := ⟨⟨w, Below.refl _ _⟩⟩
theorem wp_region_quiet_abvN {P : Program} {id : Nat} {Q : Exit → Act → World → Prop} {a : Act} {w : World} {l : List Oper} (hm : P.follows .mixedOrders = true) (hB : Region.lexB .any l.toArray = true)
    (h : wpQuiet P l.toArray (fun w' => ∃ p : AbvN w, w' = p.to) (fun a' => ∀ w', (∃ p : AbvN w, w' = p.to) → Q .normal a' w') l a) : (Code.region id l.toArray true).wp P Q a w :=
  wp_region_quiet (C := fun w' => ∃ p : AbvN w, w' = p.to) hm hB ⟨⟨_, below_drewN (Below.refl _ w) 1⟩, rfl⟩ (by simpa using h)
theorem AbvN.calls {P : Program} {f : FuncId} {args : Array Value} {w : World} {p : AbvN w} {v : Value}
    (h : Calls P f args p.to fun e w' => e = .returned v ∧ Below p.to.heap.size p.to w') : Calls P f args p.to fun e w'' => e = .returned v ∧ ∃ q : AbvN w, w'' = q.to :=
  h.mono fun _ w'' ⟨he, hq⟩ => ⟨he, ⟨w'', p.b.trans (hq.mono p.b.size)⟩, rfl⟩

end Go.Proofs.Ytlgfedkoefhjjaa
