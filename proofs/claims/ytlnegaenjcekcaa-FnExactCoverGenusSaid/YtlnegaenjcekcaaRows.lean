/-
  No cell of these rows narrows 'for every input' (looked for: loops, veiled, ifaces, maps, wideKeys, modest, calm, conditions, laid).
  DERIVED. THE GIVEN ROWS OF THIS SEAT. 6 by the template 'for every input the law returns true; each argument reads behind the call as it read before'; 0 by the template 'total and deterministic' (their statements: YtlnegaenjcekcaaTotals.lean).
  GIVEN WITH THE SEED: the statements are not yours to turn. If you find one false, say at which input.
  Laid BY PROGRAM, IN A SANDBOX (cutbox-rows.mjs): the forced cells as the released guide's own fill.sh prints them over the translation ea44a0403a072d67… (all of the seat's roots in one cut). By AI agents, Wed Nov 11 2026. No macro, syntax, notation, axiom, sorry.
-/
import Derived.Test.YtlnegaenjcekcaaChecked
import GoSem.Claim
import GoSem.ClaimJoined
import GoSem.ClaimMapViews
import Derived.JoinedTies
import Derived.KernelRfl
namespace Go.Proofs.Ytlnegaenjcekcaa
/- THE CELL 'sum', in the pinned program and in every row, IS THE sha256 OF THE DUMP (.gsa) THAT YtlnegaenjcekcaaProg.lean LOADS. Nothing in Lean hashes anything: it is a label: what it is worth is what the hold of that sum in a sandbox is worth. -/
noncomputable def Try.pinned : Pinned := { name := "ytlnegaenjcekcaa", sum := "ea44a0403a072d67c142bf9effe0183859ceb8a8c3062f1d6b77b32b18a6d551", checked := Try.checked }
namespace Rows
def none {H : Type} : Left H := { results := [], args := [] }

/-- 'laws.FnExactCoverWinding': WHATEVER THE INPUT: true; the input reads as it did. -/
def fnExactCoverWindingSpec : ChangeSpec := { name := "fnExactCoverWinding", fn := fun _ => fun
  | [d1, d2, d3, d4] => { results := [.lit (.bool true)], args := [d1, d2, d3, d4] }
  | _ => none }
def fnExactCoverWindingRow : OpenClaim := { program := "ytlnegaenjcekcaa", sum := "ea44a0403a072d67c142bf9effe0183859ceb8a8c3062f1d6b77b32b18a6d551", func := "loop.example/surfacemaps/laws.FnExactCoverWinding", spec := "fnExactCoverWinding", unfollowed := true, recurses := true, apart := false }
def FnExactCoverWindingSaid : Prop := fnExactCoverWindingRow.holds Try.pinned (OpenSpec.ofChange fnExactCoverWindingSpec)

/-- ITS FALSE NEIGHBOUR: 'it returns false'. Refute it at one input. -/
def fnExactCoverWindingWrong : ChangeSpec := { name := "fnExactCoverWinding", fn := fun _ => fun
  | [d1, d2, d3, d4] => { results := [.lit (.bool false)], args := [d1, d2, d3, d4] }
  | _ => none }
def FnExactCoverWindingWrongFalsely : Prop := fnExactCoverWindingRow.holds Try.pinned (OpenSpec.ofChange fnExactCoverWindingWrong)

/-- 'laws.FnExactCoverBranch': WHATEVER THE INPUT: true; the input reads as it did. -/
def fnExactCoverBranchSpec : ChangeSpec := { name := "fnExactCoverBranch", fn := fun _ => fun
  | [d1, d2, d3] => { results := [.lit (.bool true)], args := [d1, d2, d3] }
  | _ => none }
def fnExactCoverBranchRow : OpenClaim := { program := "ytlnegaenjcekcaa", sum := "ea44a0403a072d67c142bf9effe0183859ceb8a8c3062f1d6b77b32b18a6d551", func := "loop.example/surfacemaps/laws.FnExactCoverBranch", spec := "fnExactCoverBranch", unfollowed := true, recurses := true, apart := false }
def FnExactCoverBranchSaid : Prop := fnExactCoverBranchRow.holds Try.pinned (OpenSpec.ofChange fnExactCoverBranchSpec)

/-- ITS FALSE NEIGHBOUR: 'it returns false'. Refute it at one input. -/
def fnExactCoverBranchWrong : ChangeSpec := { name := "fnExactCoverBranch", fn := fun _ => fun
  | [d1, d2, d3] => { results := [.lit (.bool false)], args := [d1, d2, d3] }
  | _ => none }
def FnExactCoverBranchWrongFalsely : Prop := fnExactCoverBranchRow.holds Try.pinned (OpenSpec.ofChange fnExactCoverBranchWrong)

/-- 'laws.FnExactCoverGenus': WHATEVER THE INPUT: true; the input reads as it did. -/
def fnExactCoverGenusSpec : ChangeSpec := { name := "fnExactCoverGenus", fn := fun _ => fun
  | [d1, d2, d3] => { results := [.lit (.bool true)], args := [d1, d2, d3] }
  | _ => none }
def fnExactCoverGenusRow : OpenClaim := { program := "ytlnegaenjcekcaa", sum := "ea44a0403a072d67c142bf9effe0183859ceb8a8c3062f1d6b77b32b18a6d551", func := "loop.example/surfacemaps/laws.FnExactCoverGenus", spec := "fnExactCoverGenus", unfollowed := true, recurses := true, apart := false }
def FnExactCoverGenusSaid : Prop := fnExactCoverGenusRow.holds Try.pinned (OpenSpec.ofChange fnExactCoverGenusSpec)

/-- ITS FALSE NEIGHBOUR: 'it returns false'. Refute it at one input. -/
def fnExactCoverGenusWrong : ChangeSpec := { name := "fnExactCoverGenus", fn := fun _ => fun
  | [d1, d2, d3] => { results := [.lit (.bool false)], args := [d1, d2, d3] }
  | _ => none }
def FnExactCoverGenusWrongFalsely : Prop := fnExactCoverGenusRow.holds Try.pinned (OpenSpec.ofChange fnExactCoverGenusWrong)

/-- 'laws.FnTrivial': WHATEVER THE INPUT: true; the input reads as it did. -/
def fnTrivialSpec : ChangeSpec := { name := "fnTrivial", fn := fun _ => fun
  | [d] => { results := [.lit (.bool true)], args := [d] }
  | _ => none }
def fnTrivialRow : OpenClaim := { program := "ytlnegaenjcekcaa", sum := "ea44a0403a072d67c142bf9effe0183859ceb8a8c3062f1d6b77b32b18a6d551", func := "loop.example/surfacemaps/laws.FnTrivial", spec := "fnTrivial", unfollowed := true, recurses := true, apart := false }
def FnTrivialSaid : Prop := fnTrivialRow.holds Try.pinned (OpenSpec.ofChange fnTrivialSpec)

/-- ITS FALSE NEIGHBOUR: 'it returns false'. Refute it at one input. -/
def fnTrivialWrong : ChangeSpec := { name := "fnTrivial", fn := fun _ => fun
  | [d] => { results := [.lit (.bool false)], args := [d] }
  | _ => none }
def FnTrivialWrongFalsely : Prop := fnTrivialRow.holds Try.pinned (OpenSpec.ofChange fnTrivialWrong)

/-- 'laws.FnVoltage': WHATEVER THE INPUT: true; the input reads as it did. -/
def fnVoltageSpec : ChangeSpec := { name := "fnVoltage", fn := fun _ => fun
  | [d] => { results := [.lit (.bool true)], args := [d] }
  | _ => none }
def fnVoltageRow : OpenClaim := { program := "ytlnegaenjcekcaa", sum := "ea44a0403a072d67c142bf9effe0183859ceb8a8c3062f1d6b77b32b18a6d551", func := "loop.example/surfacemaps/laws.FnVoltage", spec := "fnVoltage", unfollowed := true, recurses := true, apart := false }
def FnVoltageSaid : Prop := fnVoltageRow.holds Try.pinned (OpenSpec.ofChange fnVoltageSpec)

/-- ITS FALSE NEIGHBOUR: 'it returns false'. Refute it at one input. -/
def fnVoltageWrong : ChangeSpec := { name := "fnVoltage", fn := fun _ => fun
  | [d] => { results := [.lit (.bool false)], args := [d] }
  | _ => none }
def FnVoltageWrongFalsely : Prop := fnVoltageRow.holds Try.pinned (OpenSpec.ofChange fnVoltageWrong)

/-- 'laws.FnShift': WHATEVER THE INPUT: true; the input reads as it did. -/
def fnShiftSpec : ChangeSpec := { name := "fnShift", fn := fun _ => fun
  | [d] => { results := [.lit (.bool true)], args := [d] }
  | _ => none }
def fnShiftRow : OpenClaim := { program := "ytlnegaenjcekcaa", sum := "ea44a0403a072d67c142bf9effe0183859ceb8a8c3062f1d6b77b32b18a6d551", func := "loop.example/surfacemaps/laws.FnShift", spec := "fnShift", apart := false }
def FnShiftSaid : Prop := fnShiftRow.holds Try.pinned (OpenSpec.ofChange fnShiftSpec)

/-- ITS FALSE NEIGHBOUR: 'it returns false'. Refute it at one input. -/
def fnShiftWrong : ChangeSpec := { name := "fnShift", fn := fun _ => fun
  | [d] => { results := [.lit (.bool false)], args := [d] }
  | _ => none }
def FnShiftWrongFalsely : Prop := fnShiftRow.holds Try.pinned (OpenSpec.ofChange fnShiftWrong)

/- THE SECOND FORM. 'bulk': how many values and letters a reading holds, each counted each time it is reached (what is shared counts as often as it is met; a slice's spare places count too). A statement '..UptoSaid' is the law's where the arguments, and the package variables that the reading takes, are together of bulk at most 1048576: NARROWER than '..Said'. Prove '..Said' where nothing that the law and all that it calls make is longer than what came in: it says more and counts as full. Else prove '..UptoSaid'. A law counts once. -/
mutual
def uptoBulk {H : Type} : DataW H → Nat
  | .lit (.string bytes) => bytes.length + 1
  | .lit _ => 1
  | .nil => 1
  | .ptr d => uptoBulk d + 1
  | .slice elems spare => uptoBulkAll elems + uptoBulkAll spare + 1
  | .agg parts => uptoBulkAll parts + 1
  | .iface _ d => uptoBulk d + 1
  | .map entries => uptoBulkEntries entries + 1
  | .held _ => 1
def uptoBulkAll {H : Type} : List (DataW H) → Nat
  | [] => 0
  | d :: r => uptoBulk d + uptoBulkAll r
def uptoBulkEntries {H : Type} : List (Lit × DataW H) → Nat
  | [] => 0
  | x :: r => uptoBulkEntry x + uptoBulkEntries r
def uptoBulkEntry {H : Type} : Lit × DataW H → Nat
  | (.string bytes, d) => bytes.length + uptoBulk d + 1
  | (_, d) => uptoBulk d + 1
 end
def uptoSmall : (H : Type) → List (DataW H) → Bool := fun _ ds => decide (uptoBulkAll ds ≤ 1048576)
def OpenSpec.upto (s : _root_.Go.ChangeSpec) : _root_.Go.OpenSpec := { _root_.Go.OpenSpec.ofChange s with cond := some uptoSmall }

/-- 'laws.FnExactCoverWinding', WHERE WHAT IT READS IS OF BULK AT MOST 1048576: true; the input reads as it did. -/
def fnExactCoverWindingUptoRow : OpenClaim := { program := "ytlnegaenjcekcaa", sum := "ea44a0403a072d67c142bf9effe0183859ceb8a8c3062f1d6b77b32b18a6d551", func := "loop.example/surfacemaps/laws.FnExactCoverWinding", spec := "fnExactCoverWinding", unfollowed := true, recurses := true, apart := false, narrowed := true }
def FnExactCoverWindingUptoSaid : Prop := fnExactCoverWindingUptoRow.holds Try.pinned (OpenSpec.upto fnExactCoverWindingSpec)

/-- 'laws.FnExactCoverBranch', WHERE WHAT IT READS IS OF BULK AT MOST 1048576: true; the input reads as it did. -/
def fnExactCoverBranchUptoRow : OpenClaim := { program := "ytlnegaenjcekcaa", sum := "ea44a0403a072d67c142bf9effe0183859ceb8a8c3062f1d6b77b32b18a6d551", func := "loop.example/surfacemaps/laws.FnExactCoverBranch", spec := "fnExactCoverBranch", unfollowed := true, recurses := true, apart := false, narrowed := true }
def FnExactCoverBranchUptoSaid : Prop := fnExactCoverBranchUptoRow.holds Try.pinned (OpenSpec.upto fnExactCoverBranchSpec)

/-- 'laws.FnExactCoverGenus', WHERE WHAT IT READS IS OF BULK AT MOST 1048576: true; the input reads as it did. -/
def fnExactCoverGenusUptoRow : OpenClaim := { program := "ytlnegaenjcekcaa", sum := "ea44a0403a072d67c142bf9effe0183859ceb8a8c3062f1d6b77b32b18a6d551", func := "loop.example/surfacemaps/laws.FnExactCoverGenus", spec := "fnExactCoverGenus", unfollowed := true, recurses := true, apart := false, narrowed := true }
def FnExactCoverGenusUptoSaid : Prop := fnExactCoverGenusUptoRow.holds Try.pinned (OpenSpec.upto fnExactCoverGenusSpec)

/-- 'laws.FnTrivial', WHERE WHAT IT READS IS OF BULK AT MOST 1048576: true; the input reads as it did. -/
def fnTrivialUptoRow : OpenClaim := { program := "ytlnegaenjcekcaa", sum := "ea44a0403a072d67c142bf9effe0183859ceb8a8c3062f1d6b77b32b18a6d551", func := "loop.example/surfacemaps/laws.FnTrivial", spec := "fnTrivial", unfollowed := true, recurses := true, apart := false, narrowed := true }
def FnTrivialUptoSaid : Prop := fnTrivialUptoRow.holds Try.pinned (OpenSpec.upto fnTrivialSpec)

/-- 'laws.FnVoltage', WHERE WHAT IT READS IS OF BULK AT MOST 1048576: true; the input reads as it did. -/
def fnVoltageUptoRow : OpenClaim := { program := "ytlnegaenjcekcaa", sum := "ea44a0403a072d67c142bf9effe0183859ceb8a8c3062f1d6b77b32b18a6d551", func := "loop.example/surfacemaps/laws.FnVoltage", spec := "fnVoltage", unfollowed := true, recurses := true, apart := false, narrowed := true }
def FnVoltageUptoSaid : Prop := fnVoltageUptoRow.holds Try.pinned (OpenSpec.upto fnVoltageSpec)

/-- 'laws.FnShift', WHERE WHAT IT READS IS OF BULK AT MOST 1048576: true; the input reads as it did. -/
def fnShiftUptoRow : OpenClaim := { program := "ytlnegaenjcekcaa", sum := "ea44a0403a072d67c142bf9effe0183859ceb8a8c3062f1d6b77b32b18a6d551", func := "loop.example/surfacemaps/laws.FnShift", spec := "fnShift", apart := false, narrowed := true }
def FnShiftUptoSaid : Prop := fnShiftUptoRow.holds Try.pinned (OpenSpec.upto fnShiftSpec)

end Rows
end Go.Proofs.Ytlnegaenjcekcaa
