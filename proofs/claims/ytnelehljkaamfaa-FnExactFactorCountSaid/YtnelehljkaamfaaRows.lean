/-
  No cell of these rows narrows 'for every input' (looked for: loops, veiled, ifaces, maps, wideKeys, modest, calm, conditions, laid).
  DERIVED. THE GIVEN ROWS OF THIS SEAT. 5 by the template 'for every input the law returns true; each argument reads behind the call as it read before'; 0 by the template 'total and deterministic' (their statements: YtnelehljkaamfaaTotals.lean).
  GIVEN WITH THE SEED: the statements are not yours to turn. If you find one false, say at which input.
  Laid BY PROGRAM, IN A SANDBOX (cutbox-rows.mjs): the forced cells as the released guide's own fill.sh prints them over the translation de1a7e4f98165b8a… (all of the seat's roots in one cut). By AI agents, Wed Nov 11 2026. No macro, syntax, notation, axiom, sorry.
-/
import Derived.Test.YtnelehljkaamfaaChecked
import GoSem.Claim
import GoSem.ClaimJoined
import GoSem.ClaimMapViews
import Derived.JoinedTies
import Derived.KernelRfl
namespace Go.Proofs.Ytnelehljkaamfaa
/- THE CELL 'sum', in the pinned program and in every row, IS THE sha256 OF THE DUMP (.gsa) THAT YtnelehljkaamfaaProg.lean LOADS. Nothing in Lean hashes anything: it is a label: what it is worth is what the hold of that sum in a sandbox is worth. -/
noncomputable def Try.pinned : Pinned := { name := "ytnelehljkaamfaa", sum := "de1a7e4f98165b8afffd2a8ea7b19781f5f4956f2d6bd8e16c1da3ec061c71c4", checked := Try.checked }
namespace Rows
def none {H : Type} : Left H := { results := [], args := [] }

/-- 'laws.FnExactPartsAll': WHATEVER THE INPUT: true; the input reads as it did. -/
def fnExactPartsAllSpec : ChangeSpec := { name := "fnExactPartsAll", fn := fun _ => fun
  | [d] => { results := [.lit (.bool true)], args := [d] }
  | _ => none }
def fnExactPartsAllRow : OpenClaim := { program := "ytnelehljkaamfaa", sum := "de1a7e4f98165b8afffd2a8ea7b19781f5f4956f2d6bd8e16c1da3ec061c71c4", func := "loop.example/surfacemaps/laws.FnExactPartsAll", spec := "fnExactPartsAll", unfollowed := true, recurses := true, apart := false }
def FnExactPartsAllSaid : Prop := fnExactPartsAllRow.holds Try.pinned (OpenSpec.ofChange fnExactPartsAllSpec)

/-- ITS FALSE NEIGHBOUR: 'it returns false'. Refute it at one input. -/
def fnExactPartsAllWrong : ChangeSpec := { name := "fnExactPartsAll", fn := fun _ => fun
  | [d] => { results := [.lit (.bool false)], args := [d] }
  | _ => none }
def FnExactPartsAllWrongFalsely : Prop := fnExactPartsAllRow.holds Try.pinned (OpenSpec.ofChange fnExactPartsAllWrong)

/-- 'laws.FnExactFactorCount': WHATEVER THE INPUT: true; the input reads as it did. -/
def fnExactFactorCountSpec : ChangeSpec := { name := "fnExactFactorCount", fn := fun _ => fun
  | [d] => { results := [.lit (.bool true)], args := [d] }
  | _ => none }
def fnExactFactorCountRow : OpenClaim := { program := "ytnelehljkaamfaa", sum := "de1a7e4f98165b8afffd2a8ea7b19781f5f4956f2d6bd8e16c1da3ec061c71c4", func := "loop.example/surfacemaps/laws.FnExactFactorCount", spec := "fnExactFactorCount", unfollowed := true, recurses := true, apart := false }
def FnExactFactorCountSaid : Prop := fnExactFactorCountRow.holds Try.pinned (OpenSpec.ofChange fnExactFactorCountSpec)

/-- ITS FALSE NEIGHBOUR: 'it returns false'. Refute it at one input. -/
def fnExactFactorCountWrong : ChangeSpec := { name := "fnExactFactorCount", fn := fun _ => fun
  | [d] => { results := [.lit (.bool false)], args := [d] }
  | _ => none }
def FnExactFactorCountWrongFalsely : Prop := fnExactFactorCountRow.holds Try.pinned (OpenSpec.ofChange fnExactFactorCountWrong)

/-- 'laws.FnExactCutJoin': WHATEVER THE INPUT: true; the input reads as it did. -/
def fnExactCutJoinSpec : ChangeSpec := { name := "fnExactCutJoin", fn := fun _ => fun
  | [d1, d2] => { results := [.lit (.bool true)], args := [d1, d2] }
  | _ => none }
def fnExactCutJoinRow : OpenClaim := { program := "ytnelehljkaamfaa", sum := "de1a7e4f98165b8afffd2a8ea7b19781f5f4956f2d6bd8e16c1da3ec061c71c4", func := "loop.example/surfacemaps/laws.FnExactCutJoin", spec := "fnExactCutJoin", unfollowed := true, recurses := true, apart := false }
def FnExactCutJoinSaid : Prop := fnExactCutJoinRow.holds Try.pinned (OpenSpec.ofChange fnExactCutJoinSpec)

/-- ITS FALSE NEIGHBOUR: 'it returns false'. Refute it at one input. -/
def fnExactCutJoinWrong : ChangeSpec := { name := "fnExactCutJoin", fn := fun _ => fun
  | [d1, d2] => { results := [.lit (.bool false)], args := [d1, d2] }
  | _ => none }
def FnExactCutJoinWrongFalsely : Prop := fnExactCutJoinRow.holds Try.pinned (OpenSpec.ofChange fnExactCutJoinWrong)

/-- 'laws.FnExactFactorEach': WHATEVER THE INPUT: true; the input reads as it did. -/
def fnExactFactorEachSpec : ChangeSpec := { name := "fnExactFactorEach", fn := fun _ => fun
  | [d] => { results := [.lit (.bool true)], args := [d] }
  | _ => none }
def fnExactFactorEachRow : OpenClaim := { program := "ytnelehljkaamfaa", sum := "de1a7e4f98165b8afffd2a8ea7b19781f5f4956f2d6bd8e16c1da3ec061c71c4", func := "loop.example/surfacemaps/laws.FnExactFactorEach", spec := "fnExactFactorEach", unfollowed := true, recurses := true, apart := false }
def FnExactFactorEachSaid : Prop := fnExactFactorEachRow.holds Try.pinned (OpenSpec.ofChange fnExactFactorEachSpec)

/-- ITS FALSE NEIGHBOUR: 'it returns false'. Refute it at one input. -/
def fnExactFactorEachWrong : ChangeSpec := { name := "fnExactFactorEach", fn := fun _ => fun
  | [d] => { results := [.lit (.bool false)], args := [d] }
  | _ => none }
def FnExactFactorEachWrongFalsely : Prop := fnExactFactorEachRow.holds Try.pinned (OpenSpec.ofChange fnExactFactorEachWrong)

/-- 'laws.FnExactFactorWhole': WHATEVER THE INPUT: true; the input reads as it did. -/
def fnExactFactorWholeSpec : ChangeSpec := { name := "fnExactFactorWhole", fn := fun _ => fun
  | [d] => { results := [.lit (.bool true)], args := [d] }
  | _ => none }
def fnExactFactorWholeRow : OpenClaim := { program := "ytnelehljkaamfaa", sum := "de1a7e4f98165b8afffd2a8ea7b19781f5f4956f2d6bd8e16c1da3ec061c71c4", func := "loop.example/surfacemaps/laws.FnExactFactorWhole", spec := "fnExactFactorWhole", unfollowed := true, recurses := true, apart := false }
def FnExactFactorWholeSaid : Prop := fnExactFactorWholeRow.holds Try.pinned (OpenSpec.ofChange fnExactFactorWholeSpec)

/-- ITS FALSE NEIGHBOUR: 'it returns false'. Refute it at one input. -/
def fnExactFactorWholeWrong : ChangeSpec := { name := "fnExactFactorWhole", fn := fun _ => fun
  | [d] => { results := [.lit (.bool false)], args := [d] }
  | _ => none }
def FnExactFactorWholeWrongFalsely : Prop := fnExactFactorWholeRow.holds Try.pinned (OpenSpec.ofChange fnExactFactorWholeWrong)

/- THE SECOND FORM. 'bulk': how many values and letters a reading holds, each counted each time it is reached (what is shared counts as often as it is met; a slice's spare places count too). A statement '..UptoSaid' is the law's where the arguments, and the package variables that the reading takes, are together of bulk at most 1048576: NARROWER than '..Said'. Prove '..Said' where nothing that the law and all that it calls make is longer than what came in: it says more and counts as full. Else prove '..UptoSaid'. A law counts once. -/
mutual
def uptoBulk {H : Type} : DataW H → Nat
  | .lit (.string bytes) => bytes.length + 1
  | .lit _ => 1
  | .nil => 1
  | .ptr d => uptoBulk d + 1
  | .slice elems spare => uptoBulkAll elems + uptoBulkAll spare + 1
  | .agg parts => uptoBulkAll parts + 1
  | .iface _ d => uptoBulk d + 1
  | .map entries => uptoBulkEntries entries + 1
  | .held _ => 1
def uptoBulkAll {H : Type} : List (DataW H) → Nat
  | [] => 0
  | d :: r => uptoBulk d + uptoBulkAll r
def uptoBulkEntries {H : Type} : List (Lit × DataW H) → Nat
  | [] => 0
  | x :: r => uptoBulkEntry x + uptoBulkEntries r
def uptoBulkEntry {H : Type} : Lit × DataW H → Nat
  | (.string bytes, d) => bytes.length + uptoBulk d + 1
  | (_, d) => uptoBulk d + 1
 end
def uptoSmall : (H : Type) → List (DataW H) → Bool := fun _ ds => decide (uptoBulkAll ds ≤ 1048576)
def OpenSpec.upto (s : _root_.Go.ChangeSpec) : _root_.Go.OpenSpec := { _root_.Go.OpenSpec.ofChange s with cond := some uptoSmall }

/-- 'laws.FnExactPartsAll', WHERE WHAT IT READS IS OF BULK AT MOST 1048576: true; the input reads as it did. -/
def fnExactPartsAllUptoRow : OpenClaim := { program := "ytnelehljkaamfaa", sum := "de1a7e4f98165b8afffd2a8ea7b19781f5f4956f2d6bd8e16c1da3ec061c71c4", func := "loop.example/surfacemaps/laws.FnExactPartsAll", spec := "fnExactPartsAll", unfollowed := true, recurses := true, apart := false, narrowed := true }
def FnExactPartsAllUptoSaid : Prop := fnExactPartsAllUptoRow.holds Try.pinned (OpenSpec.upto fnExactPartsAllSpec)

/-- 'laws.FnExactFactorCount', WHERE WHAT IT READS IS OF BULK AT MOST 1048576: true; the input reads as it did. -/
def fnExactFactorCountUptoRow : OpenClaim := { program := "ytnelehljkaamfaa", sum := "de1a7e4f98165b8afffd2a8ea7b19781f5f4956f2d6bd8e16c1da3ec061c71c4", func := "loop.example/surfacemaps/laws.FnExactFactorCount", spec := "fnExactFactorCount", unfollowed := true, recurses := true, apart := false, narrowed := true }
def FnExactFactorCountUptoSaid : Prop := fnExactFactorCountUptoRow.holds Try.pinned (OpenSpec.upto fnExactFactorCountSpec)

/-- 'laws.FnExactCutJoin', WHERE WHAT IT READS IS OF BULK AT MOST 1048576: true; the input reads as it did. -/
def fnExactCutJoinUptoRow : OpenClaim := { program := "ytnelehljkaamfaa", sum := "de1a7e4f98165b8afffd2a8ea7b19781f5f4956f2d6bd8e16c1da3ec061c71c4", func := "loop.example/surfacemaps/laws.FnExactCutJoin", spec := "fnExactCutJoin", unfollowed := true, recurses := true, apart := false, narrowed := true }
def FnExactCutJoinUptoSaid : Prop := fnExactCutJoinUptoRow.holds Try.pinned (OpenSpec.upto fnExactCutJoinSpec)

/-- 'laws.FnExactFactorEach', WHERE WHAT IT READS IS OF BULK AT MOST 1048576: true; the input reads as it did. -/
def fnExactFactorEachUptoRow : OpenClaim := { program := "ytnelehljkaamfaa", sum := "de1a7e4f98165b8afffd2a8ea7b19781f5f4956f2d6bd8e16c1da3ec061c71c4", func := "loop.example/surfacemaps/laws.FnExactFactorEach", spec := "fnExactFactorEach", unfollowed := true, recurses := true, apart := false, narrowed := true }
def FnExactFactorEachUptoSaid : Prop := fnExactFactorEachUptoRow.holds Try.pinned (OpenSpec.upto fnExactFactorEachSpec)

/-- 'laws.FnExactFactorWhole', WHERE WHAT IT READS IS OF BULK AT MOST 1048576: true; the input reads as it did. -/
def fnExactFactorWholeUptoRow : OpenClaim := { program := "ytnelehljkaamfaa", sum := "de1a7e4f98165b8afffd2a8ea7b19781f5f4956f2d6bd8e16c1da3ec061c71c4", func := "loop.example/surfacemaps/laws.FnExactFactorWhole", spec := "fnExactFactorWhole", unfollowed := true, recurses := true, apart := false, narrowed := true }
def FnExactFactorWholeUptoSaid : Prop := fnExactFactorWholeUptoRow.holds Try.pinned (OpenSpec.upto fnExactFactorWholeSpec)

end Rows
end Go.Proofs.Ytnelehljkaamfaa
