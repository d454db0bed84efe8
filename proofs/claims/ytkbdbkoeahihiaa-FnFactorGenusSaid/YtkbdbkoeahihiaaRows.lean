/-
  No cell of these rows narrows 'for every input' (looked for: loops, veiled, ifaces, maps, wideKeys, modest, calm, conditions, laid).
  DERIVED. THE GIVEN ROWS OF THIS SEAT. 6 by the template 'for every input the law returns true; each argument reads behind the call as it read before'; 0 by the template 'total and deterministic' (their statements: YtkbdbkoeahihiaaTotals.lean).
  GIVEN WITH THE SEED: the statements are not yours to turn. If you find one false, say at which input.
  Laid BY PROGRAM, IN A SANDBOX (cutbox-rows.mjs): the forced cells as the released guide's own fill.sh prints them over the translation f09ce2b70f2cebbb… (all of the seat's roots in one cut). By AI agents, Wed Nov 11 2026. No macro, syntax, notation, axiom, sorry.
-/
import Derived.Test.YtkbdbkoeahihiaaChecked
import GoSem.Claim
import GoSem.ClaimJoined
import GoSem.ClaimMapViews
import Derived.JoinedTies
import Derived.KernelRfl
namespace Go.Proofs.Ytkbdbkoeahihiaa
/- THE CELL 'sum', in the pinned program and in every row, IS THE sha256 OF THE DUMP (.gsa) THAT YtkbdbkoeahihiaaProg.lean LOADS. Nothing in Lean hashes anything: it is a label: what it is worth is what the hold of that sum in a sandbox is worth. -/
noncomputable def Try.pinned : Pinned := { name := "ytkbdbkoeahihiaa", sum := "f09ce2b70f2cebbb44d45953429f7291ca283f05e6f763d690b757d4c8181762", checked := Try.checked }
namespace Rows
def none {H : Type} : Left H := { results := [], args := [] }

/-- 'laws.FnParts': WHATEVER THE INPUT: true; the input reads as it did. -/
def fnPartsSpec : ChangeSpec := { name := "fnParts", fn := fun _ => fun
  | [d] => { results := [.lit (.bool true)], args := [d] }
  | _ => none }
def fnPartsRow : OpenClaim := { program := "ytkbdbkoeahihiaa", sum := "f09ce2b70f2cebbb44d45953429f7291ca283f05e6f763d690b757d4c8181762", func := "loop.example/surfacemaps/laws.FnParts", spec := "fnParts", unfollowed := true, recurses := true, apart := false }
def FnPartsSaid : Prop := fnPartsRow.holds Try.pinned (OpenSpec.ofChange fnPartsSpec)

/-- ITS FALSE NEIGHBOUR: 'it returns false'. Refute it at one input. -/
def fnPartsWrong : ChangeSpec := { name := "fnParts", fn := fun _ => fun
  | [d] => { results := [.lit (.bool false)], args := [d] }
  | _ => none }
def FnPartsWrongFalsely : Prop := fnPartsRow.holds Try.pinned (OpenSpec.ofChange fnPartsWrong)

/-- 'laws.FnPartsAll': WHATEVER THE INPUT: true; the input reads as it did. -/
def fnPartsAllSpec : ChangeSpec := { name := "fnPartsAll", fn := fun _ => fun
  | [d] => { results := [.lit (.bool true)], args := [d] }
  | _ => none }
def fnPartsAllRow : OpenClaim := { program := "ytkbdbkoeahihiaa", sum := "f09ce2b70f2cebbb44d45953429f7291ca283f05e6f763d690b757d4c8181762", func := "loop.example/surfacemaps/laws.FnPartsAll", spec := "fnPartsAll", unfollowed := true, recurses := true, apart := false }
def FnPartsAllSaid : Prop := fnPartsAllRow.holds Try.pinned (OpenSpec.ofChange fnPartsAllSpec)

/-- ITS FALSE NEIGHBOUR: 'it returns false'. Refute it at one input. -/
def fnPartsAllWrong : ChangeSpec := { name := "fnPartsAll", fn := fun _ => fun
  | [d] => { results := [.lit (.bool false)], args := [d] }
  | _ => none }
def FnPartsAllWrongFalsely : Prop := fnPartsAllRow.holds Try.pinned (OpenSpec.ofChange fnPartsAllWrong)

/-- 'laws.FnFactorGenus': WHATEVER THE INPUT: true; the input reads as it did. -/
def fnFactorGenusSpec : ChangeSpec := { name := "fnFactorGenus", fn := fun _ => fun
  | [d] => { results := [.lit (.bool true)], args := [d] }
  | _ => none }
def fnFactorGenusRow : OpenClaim := { program := "ytkbdbkoeahihiaa", sum := "f09ce2b70f2cebbb44d45953429f7291ca283f05e6f763d690b757d4c8181762", func := "loop.example/surfacemaps/laws.FnFactorGenus", spec := "fnFactorGenus", unfollowed := true, recurses := true, apart := false }
def FnFactorGenusSaid : Prop := fnFactorGenusRow.holds Try.pinned (OpenSpec.ofChange fnFactorGenusSpec)

/-- ITS FALSE NEIGHBOUR: 'it returns false'. Refute it at one input. -/
def fnFactorGenusWrong : ChangeSpec := { name := "fnFactorGenus", fn := fun _ => fun
  | [d] => { results := [.lit (.bool false)], args := [d] }
  | _ => none }
def FnFactorGenusWrongFalsely : Prop := fnFactorGenusRow.holds Try.pinned (OpenSpec.ofChange fnFactorGenusWrong)

/-- 'laws.FnCutJoin': WHATEVER THE INPUT: true; the input reads as it did. -/
def fnCutJoinSpec : ChangeSpec := { name := "fnCutJoin", fn := fun _ => fun
  | [d] => { results := [.lit (.bool true)], args := [d] }
  | _ => none }
def fnCutJoinRow : OpenClaim := { program := "ytkbdbkoeahihiaa", sum := "f09ce2b70f2cebbb44d45953429f7291ca283f05e6f763d690b757d4c8181762", func := "loop.example/surfacemaps/laws.FnCutJoin", spec := "fnCutJoin", unfollowed := true, recurses := true, apart := false }
def FnCutJoinSaid : Prop := fnCutJoinRow.holds Try.pinned (OpenSpec.ofChange fnCutJoinSpec)

/-- ITS FALSE NEIGHBOUR: 'it returns false'. Refute it at one input. -/
def fnCutJoinWrong : ChangeSpec := { name := "fnCutJoin", fn := fun _ => fun
  | [d] => { results := [.lit (.bool false)], args := [d] }
  | _ => none }
def FnCutJoinWrongFalsely : Prop := fnCutJoinRow.holds Try.pinned (OpenSpec.ofChange fnCutJoinWrong)

/-- 'laws.FnFactor': WHATEVER THE INPUT: true; the input reads as it did. -/
def fnFactorSpec : ChangeSpec := { name := "fnFactor", fn := fun _ => fun
  | [d] => { results := [.lit (.bool true)], args := [d] }
  | _ => none }
def fnFactorRow : OpenClaim := { program := "ytkbdbkoeahihiaa", sum := "f09ce2b70f2cebbb44d45953429f7291ca283f05e6f763d690b757d4c8181762", func := "loop.example/surfacemaps/laws.FnFactor", spec := "fnFactor", unfollowed := true, recurses := true, apart := false }
def FnFactorSaid : Prop := fnFactorRow.holds Try.pinned (OpenSpec.ofChange fnFactorSpec)

/-- ITS FALSE NEIGHBOUR: 'it returns false'. Refute it at one input. -/
def fnFactorWrong : ChangeSpec := { name := "fnFactor", fn := fun _ => fun
  | [d] => { results := [.lit (.bool false)], args := [d] }
  | _ => none }
def FnFactorWrongFalsely : Prop := fnFactorRow.holds Try.pinned (OpenSpec.ofChange fnFactorWrong)

/-- 'laws.FnTreesOfSwaps': WHATEVER THE INPUT: true; the input reads as it did. -/
def fnTreesOfSwapsSpec : ChangeSpec := { name := "fnTreesOfSwaps", fn := fun _ => fun
  | [d] => { results := [.lit (.bool true)], args := [d] }
  | _ => none }
def fnTreesOfSwapsRow : OpenClaim := { program := "ytkbdbkoeahihiaa", sum := "f09ce2b70f2cebbb44d45953429f7291ca283f05e6f763d690b757d4c8181762", func := "loop.example/surfacemaps/laws.FnTreesOfSwaps", spec := "fnTreesOfSwaps", unfollowed := true, recurses := true, apart := false }
def FnTreesOfSwapsSaid : Prop := fnTreesOfSwapsRow.holds Try.pinned (OpenSpec.ofChange fnTreesOfSwapsSpec)

/-- ITS FALSE NEIGHBOUR: 'it returns false'. Refute it at one input. -/
def fnTreesOfSwapsWrong : ChangeSpec := { name := "fnTreesOfSwaps", fn := fun _ => fun
  | [d] => { results := [.lit (.bool false)], args := [d] }
  | _ => none }
def FnTreesOfSwapsWrongFalsely : Prop := fnTreesOfSwapsRow.holds Try.pinned (OpenSpec.ofChange fnTreesOfSwapsWrong)

/- THE SECOND FORM. 'bulk': how many values and letters a reading holds, each counted each time it is reached (what is shared counts as often as it is met; a slice's spare places count too). A statement '..UptoSaid' is the law's where the arguments, and the package variables that the reading takes, are together of bulk at most 1048576: NARROWER than '..Said'. Prove '..Said' where nothing that the law and all that it calls make is longer than what came in: it says more and counts as full. Else prove '..UptoSaid'. A law counts once. -/
mutual
def uptoBulk {H : Type} : DataW H → Nat
  | .lit (.string bytes) => bytes.length + 1
  | .lit _ => 1
  | .nil => 1
  | .ptr d => uptoBulk d + 1
  | .slice elems spare => uptoBulkAll elems + uptoBulkAll spare + 1
  | .agg parts => uptoBulkAll parts + 1
  | .iface _ d => uptoBulk d + 1
  | .map entries => uptoBulkEntries entries + 1
  | .held _ => 1
def uptoBulkAll {H : Type} : List (DataW H) → Nat
  | [] => 0
  | d :: r => uptoBulk d + uptoBulkAll r
def uptoBulkEntries {H : Type} : List (Lit × DataW H) → Nat
  | [] => 0
  | x :: r => uptoBulkEntry x + uptoBulkEntries r
def uptoBulkEntry {H : Type} : Lit × DataW H → Nat
  | (.string bytes, d) => bytes.length + uptoBulk d + 1
  | (_, d) => uptoBulk d + 1
 end
def uptoSmall : (H : Type) → List (DataW H) → Bool := fun _ ds => decide (uptoBulkAll ds ≤ 1048576)
def OpenSpec.upto (s : _root_.Go.ChangeSpec) : _root_.Go.OpenSpec := { _root_.Go.OpenSpec.ofChange s with cond := some uptoSmall }

/-- 'laws.FnParts', WHERE WHAT IT READS IS OF BULK AT MOST 1048576: true; the input reads as it did. -/
def fnPartsUptoRow : OpenClaim := { program := "ytkbdbkoeahihiaa", sum := "f09ce2b70f2cebbb44d45953429f7291ca283f05e6f763d690b757d4c8181762", func := "loop.example/surfacemaps/laws.FnParts", spec := "fnParts", unfollowed := true, recurses := true, apart := false, narrowed := true }
def FnPartsUptoSaid : Prop := fnPartsUptoRow.holds Try.pinned (OpenSpec.upto fnPartsSpec)

/-- 'laws.FnPartsAll', WHERE WHAT IT READS IS OF BULK AT MOST 1048576: true; the input reads as it did. -/
def fnPartsAllUptoRow : OpenClaim := { program := "ytkbdbkoeahihiaa", sum := "f09ce2b70f2cebbb44d45953429f7291ca283f05e6f763d690b757d4c8181762", func := "loop.example/surfacemaps/laws.FnPartsAll", spec := "fnPartsAll", unfollowed := true, recurses := true, apart := false, narrowed := true }
def FnPartsAllUptoSaid : Prop := fnPartsAllUptoRow.holds Try.pinned (OpenSpec.upto fnPartsAllSpec)

/-- 'laws.FnFactorGenus', WHERE WHAT IT READS IS OF BULK AT MOST 1048576: true; the input reads as it did. -/
def fnFactorGenusUptoRow : OpenClaim := { program := "ytkbdbkoeahihiaa", sum := "f09ce2b70f2cebbb44d45953429f7291ca283f05e6f763d690b757d4c8181762", func := "loop.example/surfacemaps/laws.FnFactorGenus", spec := "fnFactorGenus", unfollowed := true, recurses := true, apart := false, narrowed := true }
def FnFactorGenusUptoSaid : Prop := fnFactorGenusUptoRow.holds Try.pinned (OpenSpec.upto fnFactorGenusSpec)

/-- 'laws.FnCutJoin', WHERE WHAT IT READS IS OF BULK AT MOST 1048576: true; the input reads as it did. -/
def fnCutJoinUptoRow : OpenClaim := { program := "ytkbdbkoeahihiaa", sum := "f09ce2b70f2cebbb44d45953429f7291ca283f05e6f763d690b757d4c8181762", func := "loop.example/surfacemaps/laws.FnCutJoin", spec := "fnCutJoin", unfollowed := true, recurses := true, apart := false, narrowed := true }
def FnCutJoinUptoSaid : Prop := fnCutJoinUptoRow.holds Try.pinned (OpenSpec.upto fnCutJoinSpec)

/-- 'laws.FnFactor', WHERE WHAT IT READS IS OF BULK AT MOST 1048576: true; the input reads as it did. -/
def fnFactorUptoRow : OpenClaim := { program := "ytkbdbkoeahihiaa", sum := "f09ce2b70f2cebbb44d45953429f7291ca283f05e6f763d690b757d4c8181762", func := "loop.example/surfacemaps/laws.FnFactor", spec := "fnFactor", unfollowed := true, recurses := true, apart := false, narrowed := true }
def FnFactorUptoSaid : Prop := fnFactorUptoRow.holds Try.pinned (OpenSpec.upto fnFactorSpec)

/-- 'laws.FnTreesOfSwaps', WHERE WHAT IT READS IS OF BULK AT MOST 1048576: true; the input reads as it did. -/
def fnTreesOfSwapsUptoRow : OpenClaim := { program := "ytkbdbkoeahihiaa", sum := "f09ce2b70f2cebbb44d45953429f7291ca283f05e6f763d690b757d4c8181762", func := "loop.example/surfacemaps/laws.FnTreesOfSwaps", spec := "fnTreesOfSwaps", unfollowed := true, recurses := true, apart := false, narrowed := true }
def FnTreesOfSwapsUptoSaid : Prop := fnTreesOfSwapsUptoRow.holds Try.pinned (OpenSpec.upto fnTreesOfSwapsSpec)

end Rows
end Go.Proofs.Ytkbdbkoeahihiaa
