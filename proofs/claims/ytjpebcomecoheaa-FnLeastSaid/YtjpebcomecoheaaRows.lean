/-
  No cell of these rows narrows 'for every input' (looked for: loops, veiled, ifaces, maps, wideKeys, modest, calm, conditions, laid).
  DERIVED. THE GIVEN ROWS OF THIS SEAT. 12 by the template 'for every input the law returns true; each argument reads behind the call as it read before'; 0 by the template 'total and deterministic' (their statements: YtjpebcomecoheaaTotals.lean).
  GIVEN WITH THE SEED: the statements are not yours to turn. If you find one false, say at which input.
  Laid BY PROGRAM, IN A SANDBOX (cutbox-rows.mjs): the forced cells as the released guide's own fill.sh prints them over the translation ed85f6a8ae5c6a40… (all of the seat's roots in one cut). By AI agents, Wed Nov 11 2026. No macro, syntax, notation, axiom, sorry.
-/
import Derived.Test.YtjpebcomecoheaaChecked
import GoSem.Claim
import GoSem.ClaimJoined
import GoSem.ClaimMapViews
import Derived.JoinedTies
import Derived.KernelRfl
namespace Go.Proofs.Ytjpebcomecoheaa
/- THE CELL 'sum', in the pinned program and in every row, IS THE sha256 OF THE DUMP (.gsa) THAT YtjpebcomecoheaaProg.lean LOADS. Nothing in Lean hashes anything: it is a label: what it is worth is what the hold of that sum in a sandbox is worth. -/
noncomputable def Try.pinned : Pinned := { name := "ytjpebcomecoheaa", sum := "ed85f6a8ae5c6a40e22ea70d83aed55d068f814a6c5ad5158e4c0e589fb7c15d", checked := Try.checked }
namespace Rows
def none {H : Type} : Left H := { results := [], args := [] }

/-- 'laws.FnMul': WHATEVER THE INPUT: true; the input reads as it did. -/
def fnMulSpec : ChangeSpec := { name := "fnMul", fn := fun _ => fun
  | [d1, d2] => { results := [.lit (.bool true)], args := [d1, d2] }
  | _ => none }
def fnMulRow : OpenClaim := { program := "ytjpebcomecoheaa", sum := "ed85f6a8ae5c6a40e22ea70d83aed55d068f814a6c5ad5158e4c0e589fb7c15d", func := "loop.example/surfacemaps/laws.FnMul", spec := "fnMul", unfollowed := true, recurses := true, apart := false }
def FnMulSaid : Prop := fnMulRow.holds Try.pinned (OpenSpec.ofChange fnMulSpec)

/-- ITS FALSE NEIGHBOUR: 'it returns false'. Refute it at one input. -/
def fnMulWrong : ChangeSpec := { name := "fnMul", fn := fun _ => fun
  | [d1, d2] => { results := [.lit (.bool false)], args := [d1, d2] }
  | _ => none }
def FnMulWrongFalsely : Prop := fnMulRow.holds Try.pinned (OpenSpec.ofChange fnMulWrong)

/-- 'laws.FnBack': WHATEVER THE INPUT: true; the input reads as it did. -/
def fnBackSpec : ChangeSpec := { name := "fnBack", fn := fun _ => fun
  | [d] => { results := [.lit (.bool true)], args := [d] }
  | _ => none }
def fnBackRow : OpenClaim := { program := "ytjpebcomecoheaa", sum := "ed85f6a8ae5c6a40e22ea70d83aed55d068f814a6c5ad5158e4c0e589fb7c15d", func := "loop.example/surfacemaps/laws.FnBack", spec := "fnBack", unfollowed := true, recurses := true, apart := false }
def FnBackSaid : Prop := fnBackRow.holds Try.pinned (OpenSpec.ofChange fnBackSpec)

/-- ITS FALSE NEIGHBOUR: 'it returns false'. Refute it at one input. -/
def fnBackWrong : ChangeSpec := { name := "fnBack", fn := fun _ => fun
  | [d] => { results := [.lit (.bool false)], args := [d] }
  | _ => none }
def FnBackWrongFalsely : Prop := fnBackRow.holds Try.pinned (OpenSpec.ofChange fnBackWrong)

/-- 'laws.FnSign': WHATEVER THE INPUT: true; the input reads as it did. -/
def fnSignSpec : ChangeSpec := { name := "fnSign", fn := fun _ => fun
  | [d] => { results := [.lit (.bool true)], args := [d] }
  | _ => none }
def fnSignRow : OpenClaim := { program := "ytjpebcomecoheaa", sum := "ed85f6a8ae5c6a40e22ea70d83aed55d068f814a6c5ad5158e4c0e589fb7c15d", func := "loop.example/surfacemaps/laws.FnSign", spec := "fnSign", unfollowed := true, recurses := true, apart := false }
def FnSignSaid : Prop := fnSignRow.holds Try.pinned (OpenSpec.ofChange fnSignSpec)

/-- ITS FALSE NEIGHBOUR: 'it returns false'. Refute it at one input. -/
def fnSignWrong : ChangeSpec := { name := "fnSign", fn := fun _ => fun
  | [d] => { results := [.lit (.bool false)], args := [d] }
  | _ => none }
def FnSignWrongFalsely : Prop := fnSignRow.holds Try.pinned (OpenSpec.ofChange fnSignWrong)

/-- 'laws.FnConj': WHATEVER THE INPUT: true; the input reads as it did. -/
def fnConjSpec : ChangeSpec := { name := "fnConj", fn := fun _ => fun
  | [d] => { results := [.lit (.bool true)], args := [d] }
  | _ => none }
def fnConjRow : OpenClaim := { program := "ytjpebcomecoheaa", sum := "ed85f6a8ae5c6a40e22ea70d83aed55d068f814a6c5ad5158e4c0e589fb7c15d", func := "loop.example/surfacemaps/laws.FnConj", spec := "fnConj", apart := false }
def FnConjSaid : Prop := fnConjRow.holds Try.pinned (OpenSpec.ofChange fnConjSpec)

/-- ITS FALSE NEIGHBOUR: 'it returns false'. Refute it at one input. -/
def fnConjWrong : ChangeSpec := { name := "fnConj", fn := fun _ => fun
  | [d] => { results := [.lit (.bool false)], args := [d] }
  | _ => none }
def FnConjWrongFalsely : Prop := fnConjRow.holds Try.pinned (OpenSpec.ofChange fnConjWrong)

/-- 'laws.FnDual': WHATEVER THE INPUT: true; the input reads as it did. -/
def fnDualSpec : ChangeSpec := { name := "fnDual", fn := fun _ => fun
  | [d1, d2] => { results := [.lit (.bool true)], args := [d1, d2] }
  | _ => none }
def fnDualRow : OpenClaim := { program := "ytjpebcomecoheaa", sum := "ed85f6a8ae5c6a40e22ea70d83aed55d068f814a6c5ad5158e4c0e589fb7c15d", func := "loop.example/surfacemaps/laws.FnDual", spec := "fnDual", unfollowed := true, recurses := true, apart := false }
def FnDualSaid : Prop := fnDualRow.holds Try.pinned (OpenSpec.ofChange fnDualSpec)

/-- ITS FALSE NEIGHBOUR: 'it returns false'. Refute it at one input. -/
def fnDualWrong : ChangeSpec := { name := "fnDual", fn := fun _ => fun
  | [d1, d2] => { results := [.lit (.bool false)], args := [d1, d2] }
  | _ => none }
def FnDualWrongFalsely : Prop := fnDualRow.holds Try.pinned (OpenSpec.ofChange fnDualWrong)

/-- 'laws.FnMirror': WHATEVER THE INPUT: true; the input reads as it did. -/
def fnMirrorSpec : ChangeSpec := { name := "fnMirror", fn := fun _ => fun
  | [d] => { results := [.lit (.bool true)], args := [d] }
  | _ => none }
def fnMirrorRow : OpenClaim := { program := "ytjpebcomecoheaa", sum := "ed85f6a8ae5c6a40e22ea70d83aed55d068f814a6c5ad5158e4c0e589fb7c15d", func := "loop.example/surfacemaps/laws.FnMirror", spec := "fnMirror", unfollowed := true, recurses := true, apart := false }
def FnMirrorSaid : Prop := fnMirrorRow.holds Try.pinned (OpenSpec.ofChange fnMirrorSpec)

/-- ITS FALSE NEIGHBOUR: 'it returns false'. Refute it at one input. -/
def fnMirrorWrong : ChangeSpec := { name := "fnMirror", fn := fun _ => fun
  | [d] => { results := [.lit (.bool false)], args := [d] }
  | _ => none }
def FnMirrorWrongFalsely : Prop := fnMirrorRow.holds Try.pinned (OpenSpec.ofChange fnMirrorWrong)

/-- 'laws.FnForm': WHATEVER THE INPUT: true; the input reads as it did. -/
def fnFormSpec : ChangeSpec := { name := "fnForm", fn := fun _ => fun
  | [d] => { results := [.lit (.bool true)], args := [d] }
  | _ => none }
def fnFormRow : OpenClaim := { program := "ytjpebcomecoheaa", sum := "ed85f6a8ae5c6a40e22ea70d83aed55d068f814a6c5ad5158e4c0e589fb7c15d", func := "loop.example/surfacemaps/laws.FnForm", spec := "fnForm", apart := false }
def FnFormSaid : Prop := fnFormRow.holds Try.pinned (OpenSpec.ofChange fnFormSpec)

/-- ITS FALSE NEIGHBOUR: 'it returns false'. Refute it at one input. -/
def fnFormWrong : ChangeSpec := { name := "fnForm", fn := fun _ => fun
  | [d] => { results := [.lit (.bool false)], args := [d] }
  | _ => none }
def FnFormWrongFalsely : Prop := fnFormRow.holds Try.pinned (OpenSpec.ofChange fnFormWrong)

/-- 'laws.FnTurns': WHATEVER THE INPUT: true; the input reads as it did. -/
def fnTurnsSpec : ChangeSpec := { name := "fnTurns", fn := fun _ => fun
  | [d] => { results := [.lit (.bool true)], args := [d] }
  | _ => none }
def fnTurnsRow : OpenClaim := { program := "ytjpebcomecoheaa", sum := "ed85f6a8ae5c6a40e22ea70d83aed55d068f814a6c5ad5158e4c0e589fb7c15d", func := "loop.example/surfacemaps/laws.FnTurns", spec := "fnTurns", apart := false }
def FnTurnsSaid : Prop := fnTurnsRow.holds Try.pinned (OpenSpec.ofChange fnTurnsSpec)

/-- ITS FALSE NEIGHBOUR: 'it returns false'. Refute it at one input. -/
def fnTurnsWrong : ChangeSpec := { name := "fnTurns", fn := fun _ => fun
  | [d] => { results := [.lit (.bool false)], args := [d] }
  | _ => none }
def FnTurnsWrongFalsely : Prop := fnTurnsRow.holds Try.pinned (OpenSpec.ofChange fnTurnsWrong)

/-- 'laws.FnLeast': WHATEVER THE INPUT: true; the input reads as it did. -/
def fnLeastSpec : ChangeSpec := { name := "fnLeast", fn := fun _ => fun
  | [d] => { results := [.lit (.bool true)], args := [d] }
  | _ => none }
def fnLeastRow : OpenClaim := { program := "ytjpebcomecoheaa", sum := "ed85f6a8ae5c6a40e22ea70d83aed55d068f814a6c5ad5158e4c0e589fb7c15d", func := "loop.example/surfacemaps/laws.FnLeast", spec := "fnLeast", unfollowed := true, recurses := true, apart := false }
def FnLeastSaid : Prop := fnLeastRow.holds Try.pinned (OpenSpec.ofChange fnLeastSpec)

/-- ITS FALSE NEIGHBOUR: 'it returns false'. Refute it at one input. -/
def fnLeastWrong : ChangeSpec := { name := "fnLeast", fn := fun _ => fun
  | [d] => { results := [.lit (.bool false)], args := [d] }
  | _ => none }
def FnLeastWrongFalsely : Prop := fnLeastRow.holds Try.pinned (OpenSpec.ofChange fnLeastWrong)

/-- 'laws.FnDegrees': WHATEVER THE INPUT: true; the input reads as it did. -/
def fnDegreesSpec : ChangeSpec := { name := "fnDegrees", fn := fun _ => fun
  | [d] => { results := [.lit (.bool true)], args := [d] }
  | _ => none }
def fnDegreesRow : OpenClaim := { program := "ytjpebcomecoheaa", sum := "ed85f6a8ae5c6a40e22ea70d83aed55d068f814a6c5ad5158e4c0e589fb7c15d", func := "loop.example/surfacemaps/laws.FnDegrees", spec := "fnDegrees", unfollowed := true, recurses := true, apart := false }
def FnDegreesSaid : Prop := fnDegreesRow.holds Try.pinned (OpenSpec.ofChange fnDegreesSpec)

/-- ITS FALSE NEIGHBOUR: 'it returns false'. Refute it at one input. -/
def fnDegreesWrong : ChangeSpec := { name := "fnDegrees", fn := fun _ => fun
  | [d] => { results := [.lit (.bool false)], args := [d] }
  | _ => none }
def FnDegreesWrongFalsely : Prop := fnDegreesRow.holds Try.pinned (OpenSpec.ofChange fnDegreesWrong)

/-- 'laws.FnExactMapSame': WHATEVER THE INPUT: true; the input reads as it did. -/
def fnExactMapSameSpec : ChangeSpec := { name := "fnExactMapSame", fn := fun _ => fun
  | [d1, d2] => { results := [.lit (.bool true)], args := [d1, d2] }
  | _ => none }
def fnExactMapSameRow : OpenClaim := { program := "ytjpebcomecoheaa", sum := "ed85f6a8ae5c6a40e22ea70d83aed55d068f814a6c5ad5158e4c0e589fb7c15d", func := "loop.example/surfacemaps/laws.FnExactMapSame", spec := "fnExactMapSame", apart := false }
def FnExactMapSameSaid : Prop := fnExactMapSameRow.holds Try.pinned (OpenSpec.ofChange fnExactMapSameSpec)

/-- ITS FALSE NEIGHBOUR: 'it returns false'. Refute it at one input. -/
def fnExactMapSameWrong : ChangeSpec := { name := "fnExactMapSame", fn := fun _ => fun
  | [d1, d2] => { results := [.lit (.bool false)], args := [d1, d2] }
  | _ => none }
def FnExactMapSameWrongFalsely : Prop := fnExactMapSameRow.holds Try.pinned (OpenSpec.ofChange fnExactMapSameWrong)

/-- 'laws.FnExactMapFar': WHATEVER THE INPUT: true; the input reads as it did. -/
def fnExactMapFarSpec : ChangeSpec := { name := "fnExactMapFar", fn := fun _ => fun
  | [d1, d2, d3] => { results := [.lit (.bool true)], args := [d1, d2, d3] }
  | _ => none }
def fnExactMapFarRow : OpenClaim := { program := "ytjpebcomecoheaa", sum := "ed85f6a8ae5c6a40e22ea70d83aed55d068f814a6c5ad5158e4c0e589fb7c15d", func := "loop.example/surfacemaps/laws.FnExactMapFar", spec := "fnExactMapFar", unfollowed := true, recurses := true, apart := false }
def FnExactMapFarSaid : Prop := fnExactMapFarRow.holds Try.pinned (OpenSpec.ofChange fnExactMapFarSpec)

/-- ITS FALSE NEIGHBOUR: 'it returns false'. Refute it at one input. -/
def fnExactMapFarWrong : ChangeSpec := { name := "fnExactMapFar", fn := fun _ => fun
  | [d1, d2, d3] => { results := [.lit (.bool false)], args := [d1, d2, d3] }
  | _ => none }
def FnExactMapFarWrongFalsely : Prop := fnExactMapFarRow.holds Try.pinned (OpenSpec.ofChange fnExactMapFarWrong)

/- THE SECOND FORM. 'bulk': how many values and letters a reading holds, each counted each time it is reached (what is shared counts as often as it is met; a slice's spare places count too). A statement '..UptoSaid' is the law's where the arguments, and the package variables that the reading takes, are together of bulk at most 1048576: NARROWER than '..Said'. Prove '..Said' where nothing that the law and all that it calls make is longer than what came in: it says more and counts as full. Else prove '..UptoSaid'. A law counts once. -/
mutual
def uptoBulk {H : Type} : DataW H → Nat
  | .lit (.string bytes) => bytes.length + 1
  | .lit _ => 1
  | .nil => 1
  | .ptr d => uptoBulk d + 1
  | .slice elems spare => uptoBulkAll elems + uptoBulkAll spare + 1
  | .agg parts => uptoBulkAll parts + 1
  | .iface _ d => uptoBulk d + 1
  | .map entries => uptoBulkEntries entries + 1
  | .held _ => 1
def uptoBulkAll {H : Type} : List (DataW H) → Nat
  | [] => 0
  | d :: r => uptoBulk d + uptoBulkAll r
def uptoBulkEntries {H : Type} : List (Lit × DataW H) → Nat
  | [] => 0
  | x :: r => uptoBulkEntry x + uptoBulkEntries r
def uptoBulkEntry {H : Type} : Lit × DataW H → Nat
  | (.string bytes, d) => bytes.length + uptoBulk d + 1
  | (_, d) => uptoBulk d + 1
 end
def uptoSmall : (H : Type) → List (DataW H) → Bool := fun _ ds => decide (uptoBulkAll ds ≤ 1048576)
def OpenSpec.upto (s : _root_.Go.ChangeSpec) : _root_.Go.OpenSpec := { _root_.Go.OpenSpec.ofChange s with cond := some uptoSmall }

/-- 'laws.FnMul', WHERE WHAT IT READS IS OF BULK AT MOST 1048576: true; the input reads as it did. -/
def fnMulUptoRow : OpenClaim := { program := "ytjpebcomecoheaa", sum := "ed85f6a8ae5c6a40e22ea70d83aed55d068f814a6c5ad5158e4c0e589fb7c15d", func := "loop.example/surfacemaps/laws.FnMul", spec := "fnMul", unfollowed := true, recurses := true, apart := false, narrowed := true }
def FnMulUptoSaid : Prop := fnMulUptoRow.holds Try.pinned (OpenSpec.upto fnMulSpec)

/-- 'laws.FnBack', WHERE WHAT IT READS IS OF BULK AT MOST 1048576: true; the input reads as it did. -/
def fnBackUptoRow : OpenClaim := { program := "ytjpebcomecoheaa", sum := "ed85f6a8ae5c6a40e22ea70d83aed55d068f814a6c5ad5158e4c0e589fb7c15d", func := "loop.example/surfacemaps/laws.FnBack", spec := "fnBack", unfollowed := true, recurses := true, apart := false, narrowed := true }
def FnBackUptoSaid : Prop := fnBackUptoRow.holds Try.pinned (OpenSpec.upto fnBackSpec)

/-- 'laws.FnSign', WHERE WHAT IT READS IS OF BULK AT MOST 1048576: true; the input reads as it did. -/
def fnSignUptoRow : OpenClaim := { program := "ytjpebcomecoheaa", sum := "ed85f6a8ae5c6a40e22ea70d83aed55d068f814a6c5ad5158e4c0e589fb7c15d", func := "loop.example/surfacemaps/laws.FnSign", spec := "fnSign", unfollowed := true, recurses := true, apart := false, narrowed := true }
def FnSignUptoSaid : Prop := fnSignUptoRow.holds Try.pinned (OpenSpec.upto fnSignSpec)

/-- 'laws.FnConj', WHERE WHAT IT READS IS OF BULK AT MOST 1048576: true; the input reads as it did. -/
def fnConjUptoRow : OpenClaim := { program := "ytjpebcomecoheaa", sum := "ed85f6a8ae5c6a40e22ea70d83aed55d068f814a6c5ad5158e4c0e589fb7c15d", func := "loop.example/surfacemaps/laws.FnConj", spec := "fnConj", apart := false, narrowed := true }
def FnConjUptoSaid : Prop := fnConjUptoRow.holds Try.pinned (OpenSpec.upto fnConjSpec)

/-- 'laws.FnDual', WHERE WHAT IT READS IS OF BULK AT MOST 1048576: true; the input reads as it did. -/
def fnDualUptoRow : OpenClaim := { program := "ytjpebcomecoheaa", sum := "ed85f6a8ae5c6a40e22ea70d83aed55d068f814a6c5ad5158e4c0e589fb7c15d", func := "loop.example/surfacemaps/laws.FnDual", spec := "fnDual", unfollowed := true, recurses := true, apart := false, narrowed := true }
def FnDualUptoSaid : Prop := fnDualUptoRow.holds Try.pinned (OpenSpec.upto fnDualSpec)

/-- 'laws.FnMirror', WHERE WHAT IT READS IS OF BULK AT MOST 1048576: true; the input reads as it did. -/
def fnMirrorUptoRow : OpenClaim := { program := "ytjpebcomecoheaa", sum := "ed85f6a8ae5c6a40e22ea70d83aed55d068f814a6c5ad5158e4c0e589fb7c15d", func := "loop.example/surfacemaps/laws.FnMirror", spec := "fnMirror", unfollowed := true, recurses := true, apart := false, narrowed := true }
def FnMirrorUptoSaid : Prop := fnMirrorUptoRow.holds Try.pinned (OpenSpec.upto fnMirrorSpec)

/-- 'laws.FnForm', WHERE WHAT IT READS IS OF BULK AT MOST 1048576: true; the input reads as it did. -/
def fnFormUptoRow : OpenClaim := { program := "ytjpebcomecoheaa", sum := "ed85f6a8ae5c6a40e22ea70d83aed55d068f814a6c5ad5158e4c0e589fb7c15d", func := "loop.example/surfacemaps/laws.FnForm", spec := "fnForm", apart := false, narrowed := true }
def FnFormUptoSaid : Prop := fnFormUptoRow.holds Try.pinned (OpenSpec.upto fnFormSpec)

/-- 'laws.FnTurns', WHERE WHAT IT READS IS OF BULK AT MOST 1048576: true; the input reads as it did. -/
def fnTurnsUptoRow : OpenClaim := { program := "ytjpebcomecoheaa", sum := "ed85f6a8ae5c6a40e22ea70d83aed55d068f814a6c5ad5158e4c0e589fb7c15d", func := "loop.example/surfacemaps/laws.FnTurns", spec := "fnTurns", apart := false, narrowed := true }
def FnTurnsUptoSaid : Prop := fnTurnsUptoRow.holds Try.pinned (OpenSpec.upto fnTurnsSpec)

/-- 'laws.FnLeast', WHERE WHAT IT READS IS OF BULK AT MOST 1048576: true; the input reads as it did. -/
def fnLeastUptoRow : OpenClaim := { program := "ytjpebcomecoheaa", sum := "ed85f6a8ae5c6a40e22ea70d83aed55d068f814a6c5ad5158e4c0e589fb7c15d", func := "loop.example/surfacemaps/laws.FnLeast", spec := "fnLeast", unfollowed := true, recurses := true, apart := false, narrowed := true }
def FnLeastUptoSaid : Prop := fnLeastUptoRow.holds Try.pinned (OpenSpec.upto fnLeastSpec)

/-- 'laws.FnDegrees', WHERE WHAT IT READS IS OF BULK AT MOST 1048576: true; the input reads as it did. -/
def fnDegreesUptoRow : OpenClaim := { program := "ytjpebcomecoheaa", sum := "ed85f6a8ae5c6a40e22ea70d83aed55d068f814a6c5ad5158e4c0e589fb7c15d", func := "loop.example/surfacemaps/laws.FnDegrees", spec := "fnDegrees", unfollowed := true, recurses := true, apart := false, narrowed := true }
def FnDegreesUptoSaid : Prop := fnDegreesUptoRow.holds Try.pinned (OpenSpec.upto fnDegreesSpec)

/-- 'laws.FnExactMapSame', WHERE WHAT IT READS IS OF BULK AT MOST 1048576: true; the input reads as it did. -/
def fnExactMapSameUptoRow : OpenClaim := { program := "ytjpebcomecoheaa", sum := "ed85f6a8ae5c6a40e22ea70d83aed55d068f814a6c5ad5158e4c0e589fb7c15d", func := "loop.example/surfacemaps/laws.FnExactMapSame", spec := "fnExactMapSame", apart := false, narrowed := true }
def FnExactMapSameUptoSaid : Prop := fnExactMapSameUptoRow.holds Try.pinned (OpenSpec.upto fnExactMapSameSpec)

/-- 'laws.FnExactMapFar', WHERE WHAT IT READS IS OF BULK AT MOST 1048576: true; the input reads as it did. -/
def fnExactMapFarUptoRow : OpenClaim := { program := "ytjpebcomecoheaa", sum := "ed85f6a8ae5c6a40e22ea70d83aed55d068f814a6c5ad5158e4c0e589fb7c15d", func := "loop.example/surfacemaps/laws.FnExactMapFar", spec := "fnExactMapFar", unfollowed := true, recurses := true, apart := false, narrowed := true }
def FnExactMapFarUptoSaid : Prop := fnExactMapFarUptoRow.holds Try.pinned (OpenSpec.upto fnExactMapFarSpec)

end Rows
end Go.Proofs.Ytjpebcomecoheaa
