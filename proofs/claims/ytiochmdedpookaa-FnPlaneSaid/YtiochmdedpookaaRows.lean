/-
  No cell of these rows narrows 'for every input' (looked for: loops, veiled, ifaces, maps, wideKeys, modest, calm, conditions, laid).
  DERIVED. THE GIVEN ROWS OF THIS SEAT. 8 by the template 'for every input the law returns true; each argument reads behind the call as it read before'; 0 by the template 'total and deterministic' (their statements: YtiochmdedpookaaTotals.lean).
  GIVEN WITH THE SEED: the statements are not yours to turn. If you find one false, say at which input.
  Laid BY PROGRAM, IN A SANDBOX (cutbox-rows.mjs): the forced cells as the released guide's own fill.sh prints them over the translation 20953c61b35bccda… (all of the seat's roots in one cut). By AI agents, Wed Nov 11 2026. No macro, syntax, notation, axiom, sorry.
-/
import Derived.Test.YtiochmdedpookaaChecked
import GoSem.Claim
import GoSem.ClaimJoined
import GoSem.ClaimMapViews
import Derived.JoinedTies
import Derived.KernelRfl
namespace Go.Proofs.Ytiochmdedpookaa
/- THE CELL 'sum', in the pinned program and in every row, IS THE sha256 OF THE DUMP (.gsa) THAT YtiochmdedpookaaProg.lean LOADS. Nothing in Lean hashes anything: it is a label: what it is worth is what the hold of that sum in a sandbox is worth. -/
noncomputable def Try.pinned : Pinned := { name := "ytiochmdedpookaa", sum := "20953c61b35bccda3c4ba80a26d33e4715e1051e6d32fabc828aad28ad94539e", checked := Try.checked }
namespace Rows
def none {H : Type} : Left H := { results := [], args := [] }

/-- 'laws.FnRun': WHATEVER THE INPUT: true; the input reads as it did. -/
def fnRunSpec : ChangeSpec := { name := "fnRun", fn := fun _ => fun
  | [d] => { results := [.lit (.bool true)], args := [d] }
  | _ => none }
def fnRunRow : OpenClaim := { program := "ytiochmdedpookaa", sum := "20953c61b35bccda3c4ba80a26d33e4715e1051e6d32fabc828aad28ad94539e", func := "loop.example/surfacemaps/laws.FnRun", spec := "fnRun", unfollowed := true, recurses := true, plainKeys := false, apart := false }
def FnRunSaid : Prop := fnRunRow.holds Try.pinned (OpenSpec.ofChange fnRunSpec)

/-- ITS FALSE NEIGHBOUR: 'it returns false'. Refute it at one input. -/
def fnRunWrong : ChangeSpec := { name := "fnRun", fn := fun _ => fun
  | [d] => { results := [.lit (.bool false)], args := [d] }
  | _ => none }
def FnRunWrongFalsely : Prop := fnRunRow.holds Try.pinned (OpenSpec.ofChange fnRunWrong)

/-- 'laws.FnPlane': WHATEVER THE INPUT: true; the input reads as it did. -/
def fnPlaneSpec : ChangeSpec := { name := "fnPlane", fn := fun _ => fun
  | [d] => { results := [.lit (.bool true)], args := [d] }
  | _ => none }
def fnPlaneRow : OpenClaim := { program := "ytiochmdedpookaa", sum := "20953c61b35bccda3c4ba80a26d33e4715e1051e6d32fabc828aad28ad94539e", func := "loop.example/surfacemaps/laws.FnPlane", spec := "fnPlane", unfollowed := true, recurses := true, plainKeys := false, apart := false }
def FnPlaneSaid : Prop := fnPlaneRow.holds Try.pinned (OpenSpec.ofChange fnPlaneSpec)

/-- ITS FALSE NEIGHBOUR: 'it returns false'. Refute it at one input. -/
def fnPlaneWrong : ChangeSpec := { name := "fnPlane", fn := fun _ => fun
  | [d] => { results := [.lit (.bool false)], args := [d] }
  | _ => none }
def FnPlaneWrongFalsely : Prop := fnPlaneRow.holds Try.pinned (OpenSpec.ofChange fnPlaneWrong)

/-- 'laws.FnFace': WHATEVER THE INPUT: true; the input reads as it did. -/
def fnFaceSpec : ChangeSpec := { name := "fnFace", fn := fun _ => fun
  | [d] => { results := [.lit (.bool true)], args := [d] }
  | _ => none }
def fnFaceRow : OpenClaim := { program := "ytiochmdedpookaa", sum := "20953c61b35bccda3c4ba80a26d33e4715e1051e6d32fabc828aad28ad94539e", func := "loop.example/surfacemaps/laws.FnFace", spec := "fnFace", unfollowed := true, recurses := true, plainKeys := false, apart := false }
def FnFaceSaid : Prop := fnFaceRow.holds Try.pinned (OpenSpec.ofChange fnFaceSpec)

/-- ITS FALSE NEIGHBOUR: 'it returns false'. Refute it at one input. -/
def fnFaceWrong : ChangeSpec := { name := "fnFace", fn := fun _ => fun
  | [d] => { results := [.lit (.bool false)], args := [d] }
  | _ => none }
def FnFaceWrongFalsely : Prop := fnFaceRow.holds Try.pinned (OpenSpec.ofChange fnFaceWrong)

/-- 'laws.FnTrees': WHATEVER THE INPUT: true; the input reads as it did. -/
def fnTreesSpec : ChangeSpec := { name := "fnTrees", fn := fun _ => fun
  | [d] => { results := [.lit (.bool true)], args := [d] }
  | _ => none }
def fnTreesRow : OpenClaim := { program := "ytiochmdedpookaa", sum := "20953c61b35bccda3c4ba80a26d33e4715e1051e6d32fabc828aad28ad94539e", func := "loop.example/surfacemaps/laws.FnTrees", spec := "fnTrees", plainKeys := false, apart := false }
def FnTreesSaid : Prop := fnTreesRow.holds Try.pinned (OpenSpec.ofChange fnTreesSpec)

/-- ITS FALSE NEIGHBOUR: 'it returns false'. Refute it at one input. -/
def fnTreesWrong : ChangeSpec := { name := "fnTrees", fn := fun _ => fun
  | [d] => { results := [.lit (.bool false)], args := [d] }
  | _ => none }
def FnTreesWrongFalsely : Prop := fnTreesRow.holds Try.pinned (OpenSpec.ofChange fnTreesWrong)

/-- 'laws.FnExactRootedRun': WHATEVER THE INPUT: true; the input reads as it did. -/
def fnExactRootedRunSpec : ChangeSpec := { name := "fnExactRootedRun", fn := fun _ => fun
  | [d1, d2] => { results := [.lit (.bool true)], args := [d1, d2] }
  | _ => none }
def fnExactRootedRunRow : OpenClaim := { program := "ytiochmdedpookaa", sum := "20953c61b35bccda3c4ba80a26d33e4715e1051e6d32fabc828aad28ad94539e", func := "loop.example/surfacemaps/laws.FnExactRootedRun", spec := "fnExactRootedRun", unfollowed := true, recurses := true, plainKeys := false, apart := false }
def FnExactRootedRunSaid : Prop := fnExactRootedRunRow.holds Try.pinned (OpenSpec.ofChange fnExactRootedRunSpec)

/-- ITS FALSE NEIGHBOUR: 'it returns false'. Refute it at one input. -/
def fnExactRootedRunWrong : ChangeSpec := { name := "fnExactRootedRun", fn := fun _ => fun
  | [d1, d2] => { results := [.lit (.bool false)], args := [d1, d2] }
  | _ => none }
def FnExactRootedRunWrongFalsely : Prop := fnExactRootedRunRow.holds Try.pinned (OpenSpec.ofChange fnExactRootedRunWrong)

/-- 'laws.FnExactRootedPlane': WHATEVER THE INPUT: true; the input reads as it did. -/
def fnExactRootedPlaneSpec : ChangeSpec := { name := "fnExactRootedPlane", fn := fun _ => fun
  | [d] => { results := [.lit (.bool true)], args := [d] }
  | _ => none }
def fnExactRootedPlaneRow : OpenClaim := { program := "ytiochmdedpookaa", sum := "20953c61b35bccda3c4ba80a26d33e4715e1051e6d32fabc828aad28ad94539e", func := "loop.example/surfacemaps/laws.FnExactRootedPlane", spec := "fnExactRootedPlane", plainKeys := false, apart := false }
def FnExactRootedPlaneSaid : Prop := fnExactRootedPlaneRow.holds Try.pinned (OpenSpec.ofChange fnExactRootedPlaneSpec)

/-- ITS FALSE NEIGHBOUR: 'it returns false'. Refute it at one input. -/
def fnExactRootedPlaneWrong : ChangeSpec := { name := "fnExactRootedPlane", fn := fun _ => fun
  | [d] => { results := [.lit (.bool false)], args := [d] }
  | _ => none }
def FnExactRootedPlaneWrongFalsely : Prop := fnExactRootedPlaneRow.holds Try.pinned (OpenSpec.ofChange fnExactRootedPlaneWrong)

/-- 'laws.FnExactRootedFace': WHATEVER THE INPUT: true; the input reads as it did. -/
def fnExactRootedFaceSpec : ChangeSpec := { name := "fnExactRootedFace", fn := fun _ => fun
  | [d1, d2] => { results := [.lit (.bool true)], args := [d1, d2] }
  | _ => none }
def fnExactRootedFaceRow : OpenClaim := { program := "ytiochmdedpookaa", sum := "20953c61b35bccda3c4ba80a26d33e4715e1051e6d32fabc828aad28ad94539e", func := "loop.example/surfacemaps/laws.FnExactRootedFace", spec := "fnExactRootedFace", unfollowed := true, recurses := true, plainKeys := false, apart := false }
def FnExactRootedFaceSaid : Prop := fnExactRootedFaceRow.holds Try.pinned (OpenSpec.ofChange fnExactRootedFaceSpec)

/-- ITS FALSE NEIGHBOUR: 'it returns false'. Refute it at one input. -/
def fnExactRootedFaceWrong : ChangeSpec := { name := "fnExactRootedFace", fn := fun _ => fun
  | [d1, d2] => { results := [.lit (.bool false)], args := [d1, d2] }
  | _ => none }
def FnExactRootedFaceWrongFalsely : Prop := fnExactRootedFaceRow.holds Try.pinned (OpenSpec.ofChange fnExactRootedFaceWrong)

/-- 'laws.FnExactRootedTrees': WHATEVER THE INPUT: true; the input reads as it did. -/
def fnExactRootedTreesSpec : ChangeSpec := { name := "fnExactRootedTrees", fn := fun _ => fun
  | [d] => { results := [.lit (.bool true)], args := [d] }
  | _ => none }
def fnExactRootedTreesRow : OpenClaim := { program := "ytiochmdedpookaa", sum := "20953c61b35bccda3c4ba80a26d33e4715e1051e6d32fabc828aad28ad94539e", func := "loop.example/surfacemaps/laws.FnExactRootedTrees", spec := "fnExactRootedTrees", plainKeys := false, apart := false }
def FnExactRootedTreesSaid : Prop := fnExactRootedTreesRow.holds Try.pinned (OpenSpec.ofChange fnExactRootedTreesSpec)

/-- ITS FALSE NEIGHBOUR: 'it returns false'. Refute it at one input. -/
def fnExactRootedTreesWrong : ChangeSpec := { name := "fnExactRootedTrees", fn := fun _ => fun
  | [d] => { results := [.lit (.bool false)], args := [d] }
  | _ => none }
def FnExactRootedTreesWrongFalsely : Prop := fnExactRootedTreesRow.holds Try.pinned (OpenSpec.ofChange fnExactRootedTreesWrong)

/- THE SECOND FORM. 'bulk': how many values and letters a reading holds, each counted each time it is reached (what is shared counts as often as it is met; a slice's spare places count too). A statement '..UptoSaid' is the law's where the arguments, and the package variables that the reading takes, are together of bulk at most 1048576: NARROWER than '..Said'. Prove '..Said' where nothing that the law and all that it calls make is longer than what came in: it says more and counts as full. Else prove '..UptoSaid'. A law counts once. -/
mutual
def uptoBulk {H : Type} : DataW H → Nat
  | .lit (.string bytes) => bytes.length + 1
  | .lit _ => 1
  | .nil => 1
  | .ptr d => uptoBulk d + 1
  | .slice elems spare => uptoBulkAll elems + uptoBulkAll spare + 1
  | .agg parts => uptoBulkAll parts + 1
  | .iface _ d => uptoBulk d + 1
  | .map entries => uptoBulkEntries entries + 1
  | .held _ => 1
def uptoBulkAll {H : Type} : List (DataW H) → Nat
  | [] => 0
  | d :: r => uptoBulk d + uptoBulkAll r
def uptoBulkEntries {H : Type} : List (Lit × DataW H) → Nat
  | [] => 0
  | x :: r => uptoBulkEntry x + uptoBulkEntries r
def uptoBulkEntry {H : Type} : Lit × DataW H → Nat
  | (.string bytes, d) => bytes.length + uptoBulk d + 1
  | (_, d) => uptoBulk d + 1
 end
def uptoSmall : (H : Type) → List (DataW H) → Bool := fun _ ds => decide (uptoBulkAll ds ≤ 1048576)
def OpenSpec.upto (s : _root_.Go.ChangeSpec) : _root_.Go.OpenSpec := { _root_.Go.OpenSpec.ofChange s with cond := some uptoSmall }

/-- 'laws.FnRun', WHERE WHAT IT READS IS OF BULK AT MOST 1048576: true; the input reads as it did. -/
def fnRunUptoRow : OpenClaim := { program := "ytiochmdedpookaa", sum := "20953c61b35bccda3c4ba80a26d33e4715e1051e6d32fabc828aad28ad94539e", func := "loop.example/surfacemaps/laws.FnRun", spec := "fnRun", unfollowed := true, recurses := true, plainKeys := false, apart := false, narrowed := true }
def FnRunUptoSaid : Prop := fnRunUptoRow.holds Try.pinned (OpenSpec.upto fnRunSpec)

/-- 'laws.FnPlane', WHERE WHAT IT READS IS OF BULK AT MOST 1048576: true; the input reads as it did. -/
def fnPlaneUptoRow : OpenClaim := { program := "ytiochmdedpookaa", sum := "20953c61b35bccda3c4ba80a26d33e4715e1051e6d32fabc828aad28ad94539e", func := "loop.example/surfacemaps/laws.FnPlane", spec := "fnPlane", unfollowed := true, recurses := true, plainKeys := false, apart := false, narrowed := true }
def FnPlaneUptoSaid : Prop := fnPlaneUptoRow.holds Try.pinned (OpenSpec.upto fnPlaneSpec)

/-- 'laws.FnFace', WHERE WHAT IT READS IS OF BULK AT MOST 1048576: true; the input reads as it did. -/
def fnFaceUptoRow : OpenClaim := { program := "ytiochmdedpookaa", sum := "20953c61b35bccda3c4ba80a26d33e4715e1051e6d32fabc828aad28ad94539e", func := "loop.example/surfacemaps/laws.FnFace", spec := "fnFace", unfollowed := true, recurses := true, plainKeys := false, apart := false, narrowed := true }
def FnFaceUptoSaid : Prop := fnFaceUptoRow.holds Try.pinned (OpenSpec.upto fnFaceSpec)

/-- 'laws.FnTrees', WHERE WHAT IT READS IS OF BULK AT MOST 1048576: true; the input reads as it did. -/
def fnTreesUptoRow : OpenClaim := { program := "ytiochmdedpookaa", sum := "20953c61b35bccda3c4ba80a26d33e4715e1051e6d32fabc828aad28ad94539e", func := "loop.example/surfacemaps/laws.FnTrees", spec := "fnTrees", plainKeys := false, apart := false, narrowed := true }
def FnTreesUptoSaid : Prop := fnTreesUptoRow.holds Try.pinned (OpenSpec.upto fnTreesSpec)

/-- 'laws.FnExactRootedRun', WHERE WHAT IT READS IS OF BULK AT MOST 1048576: true; the input reads as it did. -/
def fnExactRootedRunUptoRow : OpenClaim := { program := "ytiochmdedpookaa", sum := "20953c61b35bccda3c4ba80a26d33e4715e1051e6d32fabc828aad28ad94539e", func := "loop.example/surfacemaps/laws.FnExactRootedRun", spec := "fnExactRootedRun", unfollowed := true, recurses := true, plainKeys := false, apart := false, narrowed := true }
def FnExactRootedRunUptoSaid : Prop := fnExactRootedRunUptoRow.holds Try.pinned (OpenSpec.upto fnExactRootedRunSpec)

/-- 'laws.FnExactRootedPlane', WHERE WHAT IT READS IS OF BULK AT MOST 1048576: true; the input reads as it did. -/
def fnExactRootedPlaneUptoRow : OpenClaim := { program := "ytiochmdedpookaa", sum := "20953c61b35bccda3c4ba80a26d33e4715e1051e6d32fabc828aad28ad94539e", func := "loop.example/surfacemaps/laws.FnExactRootedPlane", spec := "fnExactRootedPlane", plainKeys := false, apart := false, narrowed := true }
def FnExactRootedPlaneUptoSaid : Prop := fnExactRootedPlaneUptoRow.holds Try.pinned (OpenSpec.upto fnExactRootedPlaneSpec)

/-- 'laws.FnExactRootedFace', WHERE WHAT IT READS IS OF BULK AT MOST 1048576: true; the input reads as it did. -/
def fnExactRootedFaceUptoRow : OpenClaim := { program := "ytiochmdedpookaa", sum := "20953c61b35bccda3c4ba80a26d33e4715e1051e6d32fabc828aad28ad94539e", func := "loop.example/surfacemaps/laws.FnExactRootedFace", spec := "fnExactRootedFace", unfollowed := true, recurses := true, plainKeys := false, apart := false, narrowed := true }
def FnExactRootedFaceUptoSaid : Prop := fnExactRootedFaceUptoRow.holds Try.pinned (OpenSpec.upto fnExactRootedFaceSpec)

/-- 'laws.FnExactRootedTrees', WHERE WHAT IT READS IS OF BULK AT MOST 1048576: true; the input reads as it did. -/
def fnExactRootedTreesUptoRow : OpenClaim := { program := "ytiochmdedpookaa", sum := "20953c61b35bccda3c4ba80a26d33e4715e1051e6d32fabc828aad28ad94539e", func := "loop.example/surfacemaps/laws.FnExactRootedTrees", spec := "fnExactRootedTrees", plainKeys := false, apart := false, narrowed := true }
def FnExactRootedTreesUptoSaid : Prop := fnExactRootedTreesUptoRow.holds Try.pinned (OpenSpec.upto fnExactRootedTreesSpec)

end Rows
end Go.Proofs.Ytiochmdedpookaa
