/-
  No cell of these rows narrows 'for every input' (looked for: loops, veiled, ifaces, maps, wideKeys, modest, calm, conditions, laid).
  DERIVED. THE GIVEN ROWS OF THIS SEAT. 9 by the template 'for every input the law returns true; each argument reads behind the call as it read before'; 0 by the template 'total and deterministic' (their statements: YtpaohaodnchfkaaTotals.lean).
  GIVEN WITH THE SEED: the statements are not yours to turn. If you find one false, say at which input.
  Laid BY PROGRAM, IN A SANDBOX (cutbox-rows.mjs): the forced cells as the released guide's own fill.sh prints them over the translation 9d304090cd576afe… (all of the seat's roots in one cut). By AI agents, Wed Nov 11 2026. No macro, syntax, notation, axiom, sorry.
-/
import Derived.Test.YtpaohaodnchfkaaChecked
import GoSem.Claim
import GoSem.ClaimJoined
import GoSem.ClaimMapViews
import Derived.JoinedTies
import Derived.KernelRfl
namespace Go.Proofs.Ytpaohaodnchfkaa
/- THE CELL 'sum', in the pinned program and in every row, IS THE sha256 OF THE DUMP (.gsa) THAT YtpaohaodnchfkaaProg.lean LOADS. Nothing in Lean hashes anything: it is a label: what it is worth is what the hold of that sum in a sandbox is worth. -/
noncomputable def Try.pinned : Pinned := { name := "ytpaohaodnchfkaa", sum := "9d304090cd576afe4ffe749aa95581d62efbf5ac459750cba69c93d63b4b9c44", checked := Try.checked }
namespace Rows
def none {H : Type} : Left H := { results := [], args := [] }

/-- 'laws.FnExactChoiceCounts': WHATEVER THE INPUT: true; the input reads as it did. -/
def fnExactChoiceCountsSpec : ChangeSpec := { name := "fnExactChoiceCounts", fn := fun _ => fun
  | [d1, d2] => { results := [.lit (.bool true)], args := [d1, d2] }
  | _ => none }
def fnExactChoiceCountsRow : OpenClaim := { program := "ytpaohaodnchfkaa", sum := "9d304090cd576afe4ffe749aa95581d62efbf5ac459750cba69c93d63b4b9c44", func := "loop.example/surfacemaps/laws.FnExactChoiceCounts", spec := "fnExactChoiceCounts", unfollowed := true, recurses := true, apart := false }
def FnExactChoiceCountsSaid : Prop := fnExactChoiceCountsRow.holds Try.pinned (OpenSpec.ofChange fnExactChoiceCountsSpec)

/-- ITS FALSE NEIGHBOUR: 'it returns false'. Refute it at one input. -/
def fnExactChoiceCountsWrong : ChangeSpec := { name := "fnExactChoiceCounts", fn := fun _ => fun
  | [d1, d2] => { results := [.lit (.bool false)], args := [d1, d2] }
  | _ => none }
def FnExactChoiceCountsWrongFalsely : Prop := fnExactChoiceCountsRow.holds Try.pinned (OpenSpec.ofChange fnExactChoiceCountsWrong)

/-- 'laws.FnExactChoiceTree': WHATEVER THE INPUT: true; the input reads as it did. -/
def fnExactChoiceTreeSpec : ChangeSpec := { name := "fnExactChoiceTree", fn := fun _ => fun
  | [d1, d2] => { results := [.lit (.bool true)], args := [d1, d2] }
  | _ => none }
def fnExactChoiceTreeRow : OpenClaim := { program := "ytpaohaodnchfkaa", sum := "9d304090cd576afe4ffe749aa95581d62efbf5ac459750cba69c93d63b4b9c44", func := "loop.example/surfacemaps/laws.FnExactChoiceTree", spec := "fnExactChoiceTree", unfollowed := true, recurses := true, apart := false }
def FnExactChoiceTreeSaid : Prop := fnExactChoiceTreeRow.holds Try.pinned (OpenSpec.ofChange fnExactChoiceTreeSpec)

/-- ITS FALSE NEIGHBOUR: 'it returns false'. Refute it at one input. -/
def fnExactChoiceTreeWrong : ChangeSpec := { name := "fnExactChoiceTree", fn := fun _ => fun
  | [d1, d2] => { results := [.lit (.bool false)], args := [d1, d2] }
  | _ => none }
def FnExactChoiceTreeWrongFalsely : Prop := fnExactChoiceTreeRow.holds Try.pinned (OpenSpec.ofChange fnExactChoiceTreeWrong)

/-- 'laws.FnExactChoiceQuasi': WHATEVER THE INPUT: true; the input reads as it did. -/
def fnExactChoiceQuasiSpec : ChangeSpec := { name := "fnExactChoiceQuasi", fn := fun _ => fun
  | [d1, d2] => { results := [.lit (.bool true)], args := [d1, d2] }
  | _ => none }
def fnExactChoiceQuasiRow : OpenClaim := { program := "ytpaohaodnchfkaa", sum := "9d304090cd576afe4ffe749aa95581d62efbf5ac459750cba69c93d63b4b9c44", func := "loop.example/surfacemaps/laws.FnExactChoiceQuasi", spec := "fnExactChoiceQuasi", unfollowed := true, recurses := true, apart := false }
def FnExactChoiceQuasiSaid : Prop := fnExactChoiceQuasiRow.holds Try.pinned (OpenSpec.ofChange fnExactChoiceQuasiSpec)

/-- ITS FALSE NEIGHBOUR: 'it returns false'. Refute it at one input. -/
def fnExactChoiceQuasiWrong : ChangeSpec := { name := "fnExactChoiceQuasi", fn := fun _ => fun
  | [d1, d2] => { results := [.lit (.bool false)], args := [d1, d2] }
  | _ => none }
def FnExactChoiceQuasiWrongFalsely : Prop := fnExactChoiceQuasiRow.holds Try.pinned (OpenSpec.ofChange fnExactChoiceQuasiWrong)

/-- 'laws.FnExactRibbonTrees': WHATEVER THE INPUT: true; the input reads as it did. -/
def fnExactRibbonTreesSpec : ChangeSpec := { name := "fnExactRibbonTrees", fn := fun _ => fun
  | [d] => { results := [.lit (.bool true)], args := [d] }
  | _ => none }
def fnExactRibbonTreesRow : OpenClaim := { program := "ytpaohaodnchfkaa", sum := "9d304090cd576afe4ffe749aa95581d62efbf5ac459750cba69c93d63b4b9c44", func := "loop.example/surfacemaps/laws.FnExactRibbonTrees", spec := "fnExactRibbonTrees", unfollowed := true, recurses := true, apart := false }
def FnExactRibbonTreesSaid : Prop := fnExactRibbonTreesRow.holds Try.pinned (OpenSpec.ofChange fnExactRibbonTreesSpec)

/-- ITS FALSE NEIGHBOUR: 'it returns false'. Refute it at one input. -/
def fnExactRibbonTreesWrong : ChangeSpec := { name := "fnExactRibbonTrees", fn := fun _ => fun
  | [d] => { results := [.lit (.bool false)], args := [d] }
  | _ => none }
def FnExactRibbonTreesWrongFalsely : Prop := fnExactRibbonTreesRow.holds Try.pinned (OpenSpec.ofChange fnExactRibbonTreesWrong)

/-- 'laws.FnExactRibbonQuasis': WHATEVER THE INPUT: true; the input reads as it did. -/
def fnExactRibbonQuasisSpec : ChangeSpec := { name := "fnExactRibbonQuasis", fn := fun _ => fun
  | [d] => { results := [.lit (.bool true)], args := [d] }
  | _ => none }
def fnExactRibbonQuasisRow : OpenClaim := { program := "ytpaohaodnchfkaa", sum := "9d304090cd576afe4ffe749aa95581d62efbf5ac459750cba69c93d63b4b9c44", func := "loop.example/surfacemaps/laws.FnExactRibbonQuasis", spec := "fnExactRibbonQuasis", unfollowed := true, recurses := true, apart := false }
def FnExactRibbonQuasisSaid : Prop := fnExactRibbonQuasisRow.holds Try.pinned (OpenSpec.ofChange fnExactRibbonQuasisSpec)

/-- ITS FALSE NEIGHBOUR: 'it returns false'. Refute it at one input. -/
def fnExactRibbonQuasisWrong : ChangeSpec := { name := "fnExactRibbonQuasis", fn := fun _ => fun
  | [d] => { results := [.lit (.bool false)], args := [d] }
  | _ => none }
def FnExactRibbonQuasisWrongFalsely : Prop := fnExactRibbonQuasisRow.holds Try.pinned (OpenSpec.ofChange fnExactRibbonQuasisWrong)

/-- 'laws.FnExactRibbonValue': WHATEVER THE INPUT: true; the input reads as it did. -/
def fnExactRibbonValueSpec : ChangeSpec := { name := "fnExactRibbonValue", fn := fun _ => fun
  | [d1, d2, d3, d4] => { results := [.lit (.bool true)], args := [d1, d2, d3, d4] }
  | _ => none }
def fnExactRibbonValueRow : OpenClaim := { program := "ytpaohaodnchfkaa", sum := "9d304090cd576afe4ffe749aa95581d62efbf5ac459750cba69c93d63b4b9c44", func := "loop.example/surfacemaps/laws.FnExactRibbonValue", spec := "fnExactRibbonValue", unfollowed := true, recurses := true, apart := false }
def FnExactRibbonValueSaid : Prop := fnExactRibbonValueRow.holds Try.pinned (OpenSpec.ofChange fnExactRibbonValueSpec)

/-- ITS FALSE NEIGHBOUR: 'it returns false'. Refute it at one input. -/
def fnExactRibbonValueWrong : ChangeSpec := { name := "fnExactRibbonValue", fn := fun _ => fun
  | [d1, d2, d3, d4] => { results := [.lit (.bool false)], args := [d1, d2, d3, d4] }
  | _ => none }
def FnExactRibbonValueWrongFalsely : Prop := fnExactRibbonValueRow.holds Try.pinned (OpenSpec.ofChange fnExactRibbonValueWrong)

/-- 'laws.FnExactEdgeKind': WHATEVER THE INPUT: true; the input reads as it did. -/
def fnExactEdgeKindSpec : ChangeSpec := { name := "fnExactEdgeKind", fn := fun _ => fun
  | [d1, d2] => { results := [.lit (.bool true)], args := [d1, d2] }
  | _ => none }
def fnExactEdgeKindRow : OpenClaim := { program := "ytpaohaodnchfkaa", sum := "9d304090cd576afe4ffe749aa95581d62efbf5ac459750cba69c93d63b4b9c44", func := "loop.example/surfacemaps/laws.FnExactEdgeKind", spec := "fnExactEdgeKind", unfollowed := true, recurses := true, apart := false }
def FnExactEdgeKindSaid : Prop := fnExactEdgeKindRow.holds Try.pinned (OpenSpec.ofChange fnExactEdgeKindSpec)

/-- ITS FALSE NEIGHBOUR: 'it returns false'. Refute it at one input. -/
def fnExactEdgeKindWrong : ChangeSpec := { name := "fnExactEdgeKind", fn := fun _ => fun
  | [d1, d2] => { results := [.lit (.bool false)], args := [d1, d2] }
  | _ => none }
def FnExactEdgeKindWrongFalsely : Prop := fnExactEdgeKindRow.holds Try.pinned (OpenSpec.ofChange fnExactEdgeKindWrong)

/-- 'laws.FnExactEdgeDelete': WHATEVER THE INPUT: true; the input reads as it did. -/
def fnExactEdgeDeleteSpec : ChangeSpec := { name := "fnExactEdgeDelete", fn := fun _ => fun
  | [d1, d2] => { results := [.lit (.bool true)], args := [d1, d2] }
  | _ => none }
def fnExactEdgeDeleteRow : OpenClaim := { program := "ytpaohaodnchfkaa", sum := "9d304090cd576afe4ffe749aa95581d62efbf5ac459750cba69c93d63b4b9c44", func := "loop.example/surfacemaps/laws.FnExactEdgeDelete", spec := "fnExactEdgeDelete", unfollowed := true, recurses := true, apart := false }
def FnExactEdgeDeleteSaid : Prop := fnExactEdgeDeleteRow.holds Try.pinned (OpenSpec.ofChange fnExactEdgeDeleteSpec)

/-- ITS FALSE NEIGHBOUR: 'it returns false'. Refute it at one input. -/
def fnExactEdgeDeleteWrong : ChangeSpec := { name := "fnExactEdgeDelete", fn := fun _ => fun
  | [d1, d2] => { results := [.lit (.bool false)], args := [d1, d2] }
  | _ => none }
def FnExactEdgeDeleteWrongFalsely : Prop := fnExactEdgeDeleteRow.holds Try.pinned (OpenSpec.ofChange fnExactEdgeDeleteWrong)

/-- 'laws.FnExactEdgeContract': WHATEVER THE INPUT: true; the input reads as it did. -/
def fnExactEdgeContractSpec : ChangeSpec := { name := "fnExactEdgeContract", fn := fun _ => fun
  | [d1, d2] => { results := [.lit (.bool true)], args := [d1, d2] }
  | _ => none }
def fnExactEdgeContractRow : OpenClaim := { program := "ytpaohaodnchfkaa", sum := "9d304090cd576afe4ffe749aa95581d62efbf5ac459750cba69c93d63b4b9c44", func := "loop.example/surfacemaps/laws.FnExactEdgeContract", spec := "fnExactEdgeContract", unfollowed := true, recurses := true, apart := false }
def FnExactEdgeContractSaid : Prop := fnExactEdgeContractRow.holds Try.pinned (OpenSpec.ofChange fnExactEdgeContractSpec)

/-- ITS FALSE NEIGHBOUR: 'it returns false'. Refute it at one input. -/
def fnExactEdgeContractWrong : ChangeSpec := { name := "fnExactEdgeContract", fn := fun _ => fun
  | [d1, d2] => { results := [.lit (.bool false)], args := [d1, d2] }
  | _ => none }
def FnExactEdgeContractWrongFalsely : Prop := fnExactEdgeContractRow.holds Try.pinned (OpenSpec.ofChange fnExactEdgeContractWrong)

/- THE SECOND FORM. 'bulk': how many values and letters a reading holds, each counted each time it is reached (what is shared counts as often as it is met; a slice's spare places count too). A statement '..UptoSaid' is the law's where the arguments, and the package variables that the reading takes, are together of bulk at most 1048576: NARROWER than '..Said'. Prove '..Said' where nothing that the law and all that it calls make is longer than what came in: it says more and counts as full. Else prove '..UptoSaid'. A law counts once. -/
mutual
def uptoBulk {H : Type} : DataW H → Nat
  | .lit (.string bytes) => bytes.length + 1
  | .lit _ => 1
  | .nil => 1
  | .ptr d => uptoBulk d + 1
  | .slice elems spare => uptoBulkAll elems + uptoBulkAll spare + 1
  | .agg parts => uptoBulkAll parts + 1
  | .iface _ d => uptoBulk d + 1
  | .map entries => uptoBulkEntries entries + 1
  | .held _ => 1
def uptoBulkAll {H : Type} : List (DataW H) → Nat
  | [] => 0
  | d :: r => uptoBulk d + uptoBulkAll r
def uptoBulkEntries {H : Type} : List (Lit × DataW H) → Nat
  | [] => 0
  | x :: r => uptoBulkEntry x + uptoBulkEntries r
def uptoBulkEntry {H : Type} : Lit × DataW H → Nat
  | (.string bytes, d) => bytes.length + uptoBulk d + 1
  | (_, d) => uptoBulk d + 1
 end
def uptoSmall : (H : Type) → List (DataW H) → Bool := fun _ ds => decide (uptoBulkAll ds ≤ 1048576)
def OpenSpec.upto (s : _root_.Go.ChangeSpec) : _root_.Go.OpenSpec := { _root_.Go.OpenSpec.ofChange s with cond := some uptoSmall }

/-- 'laws.FnExactChoiceCounts', WHERE WHAT IT READS IS OF BULK AT MOST 1048576: true; the input reads as it did. -/
def fnExactChoiceCountsUptoRow : OpenClaim := { program := "ytpaohaodnchfkaa", sum := "9d304090cd576afe4ffe749aa95581d62efbf5ac459750cba69c93d63b4b9c44", func := "loop.example/surfacemaps/laws.FnExactChoiceCounts", spec := "fnExactChoiceCounts", unfollowed := true, recurses := true, apart := false, narrowed := true }
def FnExactChoiceCountsUptoSaid : Prop := fnExactChoiceCountsUptoRow.holds Try.pinned (OpenSpec.upto fnExactChoiceCountsSpec)

/-- 'laws.FnExactChoiceTree', WHERE WHAT IT READS IS OF BULK AT MOST 1048576: true; the input reads as it did. -/
def fnExactChoiceTreeUptoRow : OpenClaim := { program := "ytpaohaodnchfkaa", sum := "9d304090cd576afe4ffe749aa95581d62efbf5ac459750cba69c93d63b4b9c44", func := "loop.example/surfacemaps/laws.FnExactChoiceTree", spec := "fnExactChoiceTree", unfollowed := true, recurses := true, apart := false, narrowed := true }
def FnExactChoiceTreeUptoSaid : Prop := fnExactChoiceTreeUptoRow.holds Try.pinned (OpenSpec.upto fnExactChoiceTreeSpec)

/-- 'laws.FnExactChoiceQuasi', WHERE WHAT IT READS IS OF BULK AT MOST 1048576: true; the input reads as it did. -/
def fnExactChoiceQuasiUptoRow : OpenClaim := { program := "ytpaohaodnchfkaa", sum := "9d304090cd576afe4ffe749aa95581d62efbf5ac459750cba69c93d63b4b9c44", func := "loop.example/surfacemaps/laws.FnExactChoiceQuasi", spec := "fnExactChoiceQuasi", unfollowed := true, recurses := true, apart := false, narrowed := true }
def FnExactChoiceQuasiUptoSaid : Prop := fnExactChoiceQuasiUptoRow.holds Try.pinned (OpenSpec.upto fnExactChoiceQuasiSpec)

/-- 'laws.FnExactRibbonTrees', WHERE WHAT IT READS IS OF BULK AT MOST 1048576: true; the input reads as it did. -/
def fnExactRibbonTreesUptoRow : OpenClaim := { program := "ytpaohaodnchfkaa", sum := "9d304090cd576afe4ffe749aa95581d62efbf5ac459750cba69c93d63b4b9c44", func := "loop.example/surfacemaps/laws.FnExactRibbonTrees", spec := "fnExactRibbonTrees", unfollowed := true, recurses := true, apart := false, narrowed := true }
def FnExactRibbonTreesUptoSaid : Prop := fnExactRibbonTreesUptoRow.holds Try.pinned (OpenSpec.upto fnExactRibbonTreesSpec)

/-- 'laws.FnExactRibbonQuasis', WHERE WHAT IT READS IS OF BULK AT MOST 1048576: true; the input reads as it did. -/
def fnExactRibbonQuasisUptoRow : OpenClaim := { program := "ytpaohaodnchfkaa", sum := "9d304090cd576afe4ffe749aa95581d62efbf5ac459750cba69c93d63b4b9c44", func := "loop.example/surfacemaps/laws.FnExactRibbonQuasis", spec := "fnExactRibbonQuasis", unfollowed := true, recurses := true, apart := false, narrowed := true }
def FnExactRibbonQuasisUptoSaid : Prop := fnExactRibbonQuasisUptoRow.holds Try.pinned (OpenSpec.upto fnExactRibbonQuasisSpec)

/-- 'laws.FnExactRibbonValue', WHERE WHAT IT READS IS OF BULK AT MOST 1048576: true; the input reads as it did. -/
def fnExactRibbonValueUptoRow : OpenClaim := { program := "ytpaohaodnchfkaa", sum := "9d304090cd576afe4ffe749aa95581d62efbf5ac459750cba69c93d63b4b9c44", func := "loop.example/surfacemaps/laws.FnExactRibbonValue", spec := "fnExactRibbonValue", unfollowed := true, recurses := true, apart := false, narrowed := true }
def FnExactRibbonValueUptoSaid : Prop := fnExactRibbonValueUptoRow.holds Try.pinned (OpenSpec.upto fnExactRibbonValueSpec)

/-- 'laws.FnExactEdgeKind', WHERE WHAT IT READS IS OF BULK AT MOST 1048576: true; the input reads as it did. -/
def fnExactEdgeKindUptoRow : OpenClaim := { program := "ytpaohaodnchfkaa", sum := "9d304090cd576afe4ffe749aa95581d62efbf5ac459750cba69c93d63b4b9c44", func := "loop.example/surfacemaps/laws.FnExactEdgeKind", spec := "fnExactEdgeKind", unfollowed := true, recurses := true, apart := false, narrowed := true }
def FnExactEdgeKindUptoSaid : Prop := fnExactEdgeKindUptoRow.holds Try.pinned (OpenSpec.upto fnExactEdgeKindSpec)

/-- 'laws.FnExactEdgeDelete', WHERE WHAT IT READS IS OF BULK AT MOST 1048576: true; the input reads as it did. -/
def fnExactEdgeDeleteUptoRow : OpenClaim := { program := "ytpaohaodnchfkaa", sum := "9d304090cd576afe4ffe749aa95581d62efbf5ac459750cba69c93d63b4b9c44", func := "loop.example/surfacemaps/laws.FnExactEdgeDelete", spec := "fnExactEdgeDelete", unfollowed := true, recurses := true, apart := false, narrowed := true }
def FnExactEdgeDeleteUptoSaid : Prop := fnExactEdgeDeleteUptoRow.holds Try.pinned (OpenSpec.upto fnExactEdgeDeleteSpec)

/-- 'laws.FnExactEdgeContract', WHERE WHAT IT READS IS OF BULK AT MOST 1048576: true; the input reads as it did. -/
def fnExactEdgeContractUptoRow : OpenClaim := { program := "ytpaohaodnchfkaa", sum := "9d304090cd576afe4ffe749aa95581d62efbf5ac459750cba69c93d63b4b9c44", func := "loop.example/surfacemaps/laws.FnExactEdgeContract", spec := "fnExactEdgeContract", unfollowed := true, recurses := true, apart := false, narrowed := true }
def FnExactEdgeContractUptoSaid : Prop := fnExactEdgeContractUptoRow.holds Try.pinned (OpenSpec.upto fnExactEdgeContractSpec)

end Rows
end Go.Proofs.Ytpaohaodnchfkaa
