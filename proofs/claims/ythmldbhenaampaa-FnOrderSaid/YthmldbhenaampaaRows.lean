/-
  No cell of these rows narrows 'for every input' (looked for: loops, veiled, ifaces, maps, wideKeys, modest, calm, conditions, laid).
  DERIVED. THE GIVEN ROWS OF THIS SEAT. 12 by the template 'for every input the law returns true; each argument reads behind the call as it read before'; 0 by the template 'total and deterministic' (their statements: YthmldbhenaampaaTotals.lean).
  GIVEN WITH THE SEED: the statements are not yours to turn. If you find one false, say at which input.
  Laid BY PROGRAM, IN A SANDBOX (cutbox-rows.mjs): the forced cells as the released guide's own fill.sh prints them over the translation 2e42105537ad801d… (all of the seat's roots in one cut). By AI agents, Wed Nov 11 2026. No macro, syntax, notation, axiom, sorry.
-/
import Derived.Test.YthmldbhenaampaaChecked
import GoSem.Claim
import GoSem.ClaimJoined
import GoSem.ClaimMapViews
import Derived.JoinedTies
import Derived.KernelRfl
namespace Go.Proofs.Ythmldbhenaampaa
/- THE CELL 'sum', in the pinned program and in every row, IS THE sha256 OF THE DUMP (.gsa) THAT YthmldbhenaampaaProg.lean LOADS. Nothing in Lean hashes anything: it is a label: what it is worth is what the hold of that sum in a sandbox is worth. -/
noncomputable def Try.pinned : Pinned := { name := "ythmldbhenaampaa", sum := "2e42105537ad801d265393b93d22d2513f7ff7c1955a608d472ba41606a3d71e", checked := Try.checked }
namespace Rows
def none {H : Type} : Left H := { results := [], args := [] }

/-- 'laws.FnOrder': WHATEVER THE INPUT: true; the input reads as it did. -/
def fnOrderSpec : ChangeSpec := { name := "fnOrder", fn := fun _ => fun
  | [d] => { results := [.lit (.bool true)], args := [d] }
  | _ => none }
def fnOrderRow : OpenClaim := { program := "ythmldbhenaampaa", sum := "2e42105537ad801d265393b93d22d2513f7ff7c1955a608d472ba41606a3d71e", func := "loop.example/surfacemaps/laws.FnOrder", spec := "fnOrder", unfollowed := true, recurses := true, apart := false }
def FnOrderSaid : Prop := fnOrderRow.holds Try.pinned (OpenSpec.ofChange fnOrderSpec)

/-- ITS FALSE NEIGHBOUR: 'it returns false'. Refute it at one input. -/
def fnOrderWrong : ChangeSpec := { name := "fnOrder", fn := fun _ => fun
  | [d] => { results := [.lit (.bool false)], args := [d] }
  | _ => none }
def FnOrderWrongFalsely : Prop := fnOrderRow.holds Try.pinned (OpenSpec.ofChange fnOrderWrong)

/-- 'laws.FnSign': WHATEVER THE INPUT: true; the input reads as it did. -/
def fnSignSpec : ChangeSpec := { name := "fnSign", fn := fun _ => fun
  | [d] => { results := [.lit (.bool true)], args := [d] }
  | _ => none }
def fnSignRow : OpenClaim := { program := "ythmldbhenaampaa", sum := "2e42105537ad801d265393b93d22d2513f7ff7c1955a608d472ba41606a3d71e", func := "loop.example/surfacemaps/laws.FnSign", spec := "fnSign", unfollowed := true, recurses := true, apart := false }
def FnSignSaid : Prop := fnSignRow.holds Try.pinned (OpenSpec.ofChange fnSignSpec)

/-- ITS FALSE NEIGHBOUR: 'it returns false'. Refute it at one input. -/
def fnSignWrong : ChangeSpec := { name := "fnSign", fn := fun _ => fun
  | [d] => { results := [.lit (.bool false)], args := [d] }
  | _ => none }
def FnSignWrongFalsely : Prop := fnSignRow.holds Try.pinned (OpenSpec.ofChange fnSignWrong)

/-- 'laws.FnExactPermValid': WHATEVER THE INPUT: true; the input reads as it did. -/
def fnExactPermValidSpec : ChangeSpec := { name := "fnExactPermValid", fn := fun _ => fun
  | [d] => { results := [.lit (.bool true)], args := [d] }
  | _ => none }
def fnExactPermValidRow : OpenClaim := { program := "ythmldbhenaampaa", sum := "2e42105537ad801d265393b93d22d2513f7ff7c1955a608d472ba41606a3d71e", func := "loop.example/surfacemaps/laws.FnExactPermValid", spec := "fnExactPermValid", apart := false }
def FnExactPermValidSaid : Prop := fnExactPermValidRow.holds Try.pinned (OpenSpec.ofChange fnExactPermValidSpec)

/-- ITS FALSE NEIGHBOUR: 'it returns false'. Refute it at one input. -/
def fnExactPermValidWrong : ChangeSpec := { name := "fnExactPermValid", fn := fun _ => fun
  | [d] => { results := [.lit (.bool false)], args := [d] }
  | _ => none }
def FnExactPermValidWrongFalsely : Prop := fnExactPermValidRow.holds Try.pinned (OpenSpec.ofChange fnExactPermValidWrong)

/-- 'laws.FnExactPermMul': WHATEVER THE INPUT: true; the input reads as it did. -/
def fnExactPermMulSpec : ChangeSpec := { name := "fnExactPermMul", fn := fun _ => fun
  | [d1, d2] => { results := [.lit (.bool true)], args := [d1, d2] }
  | _ => none }
def fnExactPermMulRow : OpenClaim := { program := "ythmldbhenaampaa", sum := "2e42105537ad801d265393b93d22d2513f7ff7c1955a608d472ba41606a3d71e", func := "loop.example/surfacemaps/laws.FnExactPermMul", spec := "fnExactPermMul", apart := false }
def FnExactPermMulSaid : Prop := fnExactPermMulRow.holds Try.pinned (OpenSpec.ofChange fnExactPermMulSpec)

/-- ITS FALSE NEIGHBOUR: 'it returns false'. Refute it at one input. -/
def fnExactPermMulWrong : ChangeSpec := { name := "fnExactPermMul", fn := fun _ => fun
  | [d1, d2] => { results := [.lit (.bool false)], args := [d1, d2] }
  | _ => none }
def FnExactPermMulWrongFalsely : Prop := fnExactPermMulRow.holds Try.pinned (OpenSpec.ofChange fnExactPermMulWrong)

/-- 'laws.FnExactPermBack': WHATEVER THE INPUT: true; the input reads as it did. -/
def fnExactPermBackSpec : ChangeSpec := { name := "fnExactPermBack", fn := fun _ => fun
  | [d] => { results := [.lit (.bool true)], args := [d] }
  | _ => none }
def fnExactPermBackRow : OpenClaim := { program := "ythmldbhenaampaa", sum := "2e42105537ad801d265393b93d22d2513f7ff7c1955a608d472ba41606a3d71e", func := "loop.example/surfacemaps/laws.FnExactPermBack", spec := "fnExactPermBack", apart := false }
def FnExactPermBackSaid : Prop := fnExactPermBackRow.holds Try.pinned (OpenSpec.ofChange fnExactPermBackSpec)

/-- ITS FALSE NEIGHBOUR: 'it returns false'. Refute it at one input. -/
def fnExactPermBackWrong : ChangeSpec := { name := "fnExactPermBack", fn := fun _ => fun
  | [d] => { results := [.lit (.bool false)], args := [d] }
  | _ => none }
def FnExactPermBackWrongFalsely : Prop := fnExactPermBackRow.holds Try.pinned (OpenSpec.ofChange fnExactPermBackWrong)

/-- 'laws.FnExactPermPower': WHATEVER THE INPUT: true; the input reads as it did. -/
def fnExactPermPowerSpec : ChangeSpec := { name := "fnExactPermPower", fn := fun _ => fun
  | [d1, d2] => { results := [.lit (.bool true)], args := [d1, d2] }
  | _ => none }
def fnExactPermPowerRow : OpenClaim := { program := "ythmldbhenaampaa", sum := "2e42105537ad801d265393b93d22d2513f7ff7c1955a608d472ba41606a3d71e", func := "loop.example/surfacemaps/laws.FnExactPermPower", spec := "fnExactPermPower", unfollowed := true, recurses := true, apart := false }
def FnExactPermPowerSaid : Prop := fnExactPermPowerRow.holds Try.pinned (OpenSpec.ofChange fnExactPermPowerSpec)

/-- ITS FALSE NEIGHBOUR: 'it returns false'. Refute it at one input. -/
def fnExactPermPowerWrong : ChangeSpec := { name := "fnExactPermPower", fn := fun _ => fun
  | [d1, d2] => { results := [.lit (.bool false)], args := [d1, d2] }
  | _ => none }
def FnExactPermPowerWrongFalsely : Prop := fnExactPermPowerRow.holds Try.pinned (OpenSpec.ofChange fnExactPermPowerWrong)

/-- 'laws.FnExactPermCycles': WHATEVER THE INPUT: true; the input reads as it did. -/
def fnExactPermCyclesSpec : ChangeSpec := { name := "fnExactPermCycles", fn := fun _ => fun
  | [d] => { results := [.lit (.bool true)], args := [d] }
  | _ => none }
def fnExactPermCyclesRow : OpenClaim := { program := "ythmldbhenaampaa", sum := "2e42105537ad801d265393b93d22d2513f7ff7c1955a608d472ba41606a3d71e", func := "loop.example/surfacemaps/laws.FnExactPermCycles", spec := "fnExactPermCycles", unfollowed := true, recurses := true, apart := false }
def FnExactPermCyclesSaid : Prop := fnExactPermCyclesRow.holds Try.pinned (OpenSpec.ofChange fnExactPermCyclesSpec)

/-- ITS FALSE NEIGHBOUR: 'it returns false'. Refute it at one input. -/
def fnExactPermCyclesWrong : ChangeSpec := { name := "fnExactPermCycles", fn := fun _ => fun
  | [d] => { results := [.lit (.bool false)], args := [d] }
  | _ => none }
def FnExactPermCyclesWrongFalsely : Prop := fnExactPermCyclesRow.holds Try.pinned (OpenSpec.ofChange fnExactPermCyclesWrong)

/-- 'laws.FnExactPermType': WHATEVER THE INPUT: true; the input reads as it did. -/
def fnExactPermTypeSpec : ChangeSpec := { name := "fnExactPermType", fn := fun _ => fun
  | [d] => { results := [.lit (.bool true)], args := [d] }
  | _ => none }
def fnExactPermTypeRow : OpenClaim := { program := "ythmldbhenaampaa", sum := "2e42105537ad801d265393b93d22d2513f7ff7c1955a608d472ba41606a3d71e", func := "loop.example/surfacemaps/laws.FnExactPermType", spec := "fnExactPermType", unfollowed := true, recurses := true, apart := false }
def FnExactPermTypeSaid : Prop := fnExactPermTypeRow.holds Try.pinned (OpenSpec.ofChange fnExactPermTypeSpec)

/-- ITS FALSE NEIGHBOUR: 'it returns false'. Refute it at one input. -/
def fnExactPermTypeWrong : ChangeSpec := { name := "fnExactPermType", fn := fun _ => fun
  | [d] => { results := [.lit (.bool false)], args := [d] }
  | _ => none }
def FnExactPermTypeWrongFalsely : Prop := fnExactPermTypeRow.holds Try.pinned (OpenSpec.ofChange fnExactPermTypeWrong)

/-- 'laws.FnExactPermOrder': WHATEVER THE INPUT: true; the input reads as it did. -/
def fnExactPermOrderSpec : ChangeSpec := { name := "fnExactPermOrder", fn := fun _ => fun
  | [d] => { results := [.lit (.bool true)], args := [d] }
  | _ => none }
def fnExactPermOrderRow : OpenClaim := { program := "ythmldbhenaampaa", sum := "2e42105537ad801d265393b93d22d2513f7ff7c1955a608d472ba41606a3d71e", func := "loop.example/surfacemaps/laws.FnExactPermOrder", spec := "fnExactPermOrder", unfollowed := true, recurses := true, apart := false }
def FnExactPermOrderSaid : Prop := fnExactPermOrderRow.holds Try.pinned (OpenSpec.ofChange fnExactPermOrderSpec)

/-- ITS FALSE NEIGHBOUR: 'it returns false'. Refute it at one input. -/
def fnExactPermOrderWrong : ChangeSpec := { name := "fnExactPermOrder", fn := fun _ => fun
  | [d] => { results := [.lit (.bool false)], args := [d] }
  | _ => none }
def FnExactPermOrderWrongFalsely : Prop := fnExactPermOrderRow.holds Try.pinned (OpenSpec.ofChange fnExactPermOrderWrong)

/-- 'laws.FnExactPermSign': WHATEVER THE INPUT: true; the input reads as it did. -/
def fnExactPermSignSpec : ChangeSpec := { name := "fnExactPermSign", fn := fun _ => fun
  | [d] => { results := [.lit (.bool true)], args := [d] }
  | _ => none }
def fnExactPermSignRow : OpenClaim := { program := "ythmldbhenaampaa", sum := "2e42105537ad801d265393b93d22d2513f7ff7c1955a608d472ba41606a3d71e", func := "loop.example/surfacemaps/laws.FnExactPermSign", spec := "fnExactPermSign", unfollowed := true, recurses := true, apart := false }
def FnExactPermSignSaid : Prop := fnExactPermSignRow.holds Try.pinned (OpenSpec.ofChange fnExactPermSignSpec)

/-- ITS FALSE NEIGHBOUR: 'it returns false'. Refute it at one input. -/
def fnExactPermSignWrong : ChangeSpec := { name := "fnExactPermSign", fn := fun _ => fun
  | [d] => { results := [.lit (.bool false)], args := [d] }
  | _ => none }
def FnExactPermSignWrongFalsely : Prop := fnExactPermSignRow.holds Try.pinned (OpenSpec.ofChange fnExactPermSignWrong)

/-- 'laws.FnExactPermConj': WHATEVER THE INPUT: true; the input reads as it did. -/
def fnExactPermConjSpec : ChangeSpec := { name := "fnExactPermConj", fn := fun _ => fun
  | [d1, d2] => { results := [.lit (.bool true)], args := [d1, d2] }
  | _ => none }
def fnExactPermConjRow : OpenClaim := { program := "ythmldbhenaampaa", sum := "2e42105537ad801d265393b93d22d2513f7ff7c1955a608d472ba41606a3d71e", func := "loop.example/surfacemaps/laws.FnExactPermConj", spec := "fnExactPermConj", apart := false }
def FnExactPermConjSaid : Prop := fnExactPermConjRow.holds Try.pinned (OpenSpec.ofChange fnExactPermConjSpec)

/-- ITS FALSE NEIGHBOUR: 'it returns false'. Refute it at one input. -/
def fnExactPermConjWrong : ChangeSpec := { name := "fnExactPermConj", fn := fun _ => fun
  | [d1, d2] => { results := [.lit (.bool false)], args := [d1, d2] }
  | _ => none }
def FnExactPermConjWrongFalsely : Prop := fnExactPermConjRow.holds Try.pinned (OpenSpec.ofChange fnExactPermConjWrong)

/-- 'laws.FnExactPermOrbits': WHATEVER THE INPUT: true; the input reads as it did. -/
def fnExactPermOrbitsSpec : ChangeSpec := { name := "fnExactPermOrbits", fn := fun _ => fun
  | [d1, d2] => { results := [.lit (.bool true)], args := [d1, d2] }
  | _ => none }
def fnExactPermOrbitsRow : OpenClaim := { program := "ythmldbhenaampaa", sum := "2e42105537ad801d265393b93d22d2513f7ff7c1955a608d472ba41606a3d71e", func := "loop.example/surfacemaps/laws.FnExactPermOrbits", spec := "fnExactPermOrbits", apart := false }
def FnExactPermOrbitsSaid : Prop := fnExactPermOrbitsRow.holds Try.pinned (OpenSpec.ofChange fnExactPermOrbitsSpec)

/-- ITS FALSE NEIGHBOUR: 'it returns false'. Refute it at one input. -/
def fnExactPermOrbitsWrong : ChangeSpec := { name := "fnExactPermOrbits", fn := fun _ => fun
  | [d1, d2] => { results := [.lit (.bool false)], args := [d1, d2] }
  | _ => none }
def FnExactPermOrbitsWrongFalsely : Prop := fnExactPermOrbitsRow.holds Try.pinned (OpenSpec.ofChange fnExactPermOrbitsWrong)

/- THE SECOND FORM. 'bulk': how many values and letters a reading holds, each counted each time it is reached (what is shared counts as often as it is met; a slice's spare places count too). A statement '..UptoSaid' is the law's where the arguments, and the package variables that the reading takes, are together of bulk at most 1048576: NARROWER than '..Said'. Prove '..Said' where nothing that the law and all that it calls make is longer than what came in: it says more and counts as full. Else prove '..UptoSaid'. A law counts once. -/
mutual
def uptoBulk {H : Type} : DataW H → Nat
  | .lit (.string bytes) => bytes.length + 1
  | .lit _ => 1
  | .nil => 1
  | .ptr d => uptoBulk d + 1
  | .slice elems spare => uptoBulkAll elems + uptoBulkAll spare + 1
  | .agg parts => uptoBulkAll parts + 1
  | .iface _ d => uptoBulk d + 1
  | .map entries => uptoBulkEntries entries + 1
  | .held _ => 1
def uptoBulkAll {H : Type} : List (DataW H) → Nat
  | [] => 0
  | d :: r => uptoBulk d + uptoBulkAll r
def uptoBulkEntries {H : Type} : List (Lit × DataW H) → Nat
  | [] => 0
  | x :: r => uptoBulkEntry x + uptoBulkEntries r
def uptoBulkEntry {H : Type} : Lit × DataW H → Nat
  | (.string bytes, d) => bytes.length + uptoBulk d + 1
  | (_, d) => uptoBulk d + 1
 end
def uptoSmall : (H : Type) → List (DataW H) → Bool := fun _ ds => decide (uptoBulkAll ds ≤ 1048576)
def OpenSpec.upto (s : _root_.Go.ChangeSpec) : _root_.Go.OpenSpec := { _root_.Go.OpenSpec.ofChange s with cond := some uptoSmall }

/-- 'laws.FnOrder', WHERE WHAT IT READS IS OF BULK AT MOST 1048576: true; the input reads as it did. -/
def fnOrderUptoRow : OpenClaim := { program := "ythmldbhenaampaa", sum := "2e42105537ad801d265393b93d22d2513f7ff7c1955a608d472ba41606a3d71e", func := "loop.example/surfacemaps/laws.FnOrder", spec := "fnOrder", unfollowed := true, recurses := true, apart := false, narrowed := true }
def FnOrderUptoSaid : Prop := fnOrderUptoRow.holds Try.pinned (OpenSpec.upto fnOrderSpec)

/-- 'laws.FnSign', WHERE WHAT IT READS IS OF BULK AT MOST 1048576: true; the input reads as it did. -/
def fnSignUptoRow : OpenClaim := { program := "ythmldbhenaampaa", sum := "2e42105537ad801d265393b93d22d2513f7ff7c1955a608d472ba41606a3d71e", func := "loop.example/surfacemaps/laws.FnSign", spec := "fnSign", unfollowed := true, recurses := true, apart := false, narrowed := true }
def FnSignUptoSaid : Prop := fnSignUptoRow.holds Try.pinned (OpenSpec.upto fnSignSpec)

/-- 'laws.FnExactPermValid', WHERE WHAT IT READS IS OF BULK AT MOST 1048576: true; the input reads as it did. -/
def fnExactPermValidUptoRow : OpenClaim := { program := "ythmldbhenaampaa", sum := "2e42105537ad801d265393b93d22d2513f7ff7c1955a608d472ba41606a3d71e", func := "loop.example/surfacemaps/laws.FnExactPermValid", spec := "fnExactPermValid", apart := false, narrowed := true }
def FnExactPermValidUptoSaid : Prop := fnExactPermValidUptoRow.holds Try.pinned (OpenSpec.upto fnExactPermValidSpec)

/-- 'laws.FnExactPermMul', WHERE WHAT IT READS IS OF BULK AT MOST 1048576: true; the input reads as it did. -/
def fnExactPermMulUptoRow : OpenClaim := { program := "ythmldbhenaampaa", sum := "2e42105537ad801d265393b93d22d2513f7ff7c1955a608d472ba41606a3d71e", func := "loop.example/surfacemaps/laws.FnExactPermMul", spec := "fnExactPermMul", apart := false, narrowed := true }
def FnExactPermMulUptoSaid : Prop := fnExactPermMulUptoRow.holds Try.pinned (OpenSpec.upto fnExactPermMulSpec)

/-- 'laws.FnExactPermBack', WHERE WHAT IT READS IS OF BULK AT MOST 1048576: true; the input reads as it did. -/
def fnExactPermBackUptoRow : OpenClaim := { program := "ythmldbhenaampaa", sum := "2e42105537ad801d265393b93d22d2513f7ff7c1955a608d472ba41606a3d71e", func := "loop.example/surfacemaps/laws.FnExactPermBack", spec := "fnExactPermBack", apart := false, narrowed := true }
def FnExactPermBackUptoSaid : Prop := fnExactPermBackUptoRow.holds Try.pinned (OpenSpec.upto fnExactPermBackSpec)

/-- 'laws.FnExactPermPower', WHERE WHAT IT READS IS OF BULK AT MOST 1048576: true; the input reads as it did. -/
def fnExactPermPowerUptoRow : OpenClaim := { program := "ythmldbhenaampaa", sum := "2e42105537ad801d265393b93d22d2513f7ff7c1955a608d472ba41606a3d71e", func := "loop.example/surfacemaps/laws.FnExactPermPower", spec := "fnExactPermPower", unfollowed := true, recurses := true, apart := false, narrowed := true }
def FnExactPermPowerUptoSaid : Prop := fnExactPermPowerUptoRow.holds Try.pinned (OpenSpec.upto fnExactPermPowerSpec)

/-- 'laws.FnExactPermCycles', WHERE WHAT IT READS IS OF BULK AT MOST 1048576: true; the input reads as it did. -/
def fnExactPermCyclesUptoRow : OpenClaim := { program := "ythmldbhenaampaa", sum := "2e42105537ad801d265393b93d22d2513f7ff7c1955a608d472ba41606a3d71e", func := "loop.example/surfacemaps/laws.FnExactPermCycles", spec := "fnExactPermCycles", unfollowed := true, recurses := true, apart := false, narrowed := true }
def FnExactPermCyclesUptoSaid : Prop := fnExactPermCyclesUptoRow.holds Try.pinned (OpenSpec.upto fnExactPermCyclesSpec)

/-- 'laws.FnExactPermType', WHERE WHAT IT READS IS OF BULK AT MOST 1048576: true; the input reads as it did. -/
def fnExactPermTypeUptoRow : OpenClaim := { program := "ythmldbhenaampaa", sum := "2e42105537ad801d265393b93d22d2513f7ff7c1955a608d472ba41606a3d71e", func := "loop.example/surfacemaps/laws.FnExactPermType", spec := "fnExactPermType", unfollowed := true, recurses := true, apart := false, narrowed := true }
def FnExactPermTypeUptoSaid : Prop := fnExactPermTypeUptoRow.holds Try.pinned (OpenSpec.upto fnExactPermTypeSpec)

/-- 'laws.FnExactPermOrder', WHERE WHAT IT READS IS OF BULK AT MOST 1048576: true; the input reads as it did. -/
def fnExactPermOrderUptoRow : OpenClaim := { program := "ythmldbhenaampaa", sum := "2e42105537ad801d265393b93d22d2513f7ff7c1955a608d472ba41606a3d71e", func := "loop.example/surfacemaps/laws.FnExactPermOrder", spec := "fnExactPermOrder", unfollowed := true, recurses := true, apart := false, narrowed := true }
def FnExactPermOrderUptoSaid : Prop := fnExactPermOrderUptoRow.holds Try.pinned (OpenSpec.upto fnExactPermOrderSpec)

/-- 'laws.FnExactPermSign', WHERE WHAT IT READS IS OF BULK AT MOST 1048576: true; the input reads as it did. -/
def fnExactPermSignUptoRow : OpenClaim := { program := "ythmldbhenaampaa", sum := "2e42105537ad801d265393b93d22d2513f7ff7c1955a608d472ba41606a3d71e", func := "loop.example/surfacemaps/laws.FnExactPermSign", spec := "fnExactPermSign", unfollowed := true, recurses := true, apart := false, narrowed := true }
def FnExactPermSignUptoSaid : Prop := fnExactPermSignUptoRow.holds Try.pinned (OpenSpec.upto fnExactPermSignSpec)

/-- 'laws.FnExactPermConj', WHERE WHAT IT READS IS OF BULK AT MOST 1048576: true; the input reads as it did. -/
def fnExactPermConjUptoRow : OpenClaim := { program := "ythmldbhenaampaa", sum := "2e42105537ad801d265393b93d22d2513f7ff7c1955a608d472ba41606a3d71e", func := "loop.example/surfacemaps/laws.FnExactPermConj", spec := "fnExactPermConj", apart := false, narrowed := true }
def FnExactPermConjUptoSaid : Prop := fnExactPermConjUptoRow.holds Try.pinned (OpenSpec.upto fnExactPermConjSpec)

/-- 'laws.FnExactPermOrbits', WHERE WHAT IT READS IS OF BULK AT MOST 1048576: true; the input reads as it did. -/
def fnExactPermOrbitsUptoRow : OpenClaim := { program := "ythmldbhenaampaa", sum := "2e42105537ad801d265393b93d22d2513f7ff7c1955a608d472ba41606a3d71e", func := "loop.example/surfacemaps/laws.FnExactPermOrbits", spec := "fnExactPermOrbits", apart := false, narrowed := true }
def FnExactPermOrbitsUptoSaid : Prop := fnExactPermOrbitsUptoRow.holds Try.pinned (OpenSpec.upto fnExactPermOrbitsSpec)

end Rows
end Go.Proofs.Ythmldbhenaampaa
