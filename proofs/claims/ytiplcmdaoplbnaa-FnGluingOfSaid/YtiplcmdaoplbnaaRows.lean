/-
  No cell of these rows narrows 'for every input' (looked for: loops, veiled, ifaces, maps, wideKeys, modest, calm, conditions, laid).
  DERIVED. THE GIVEN ROWS OF THIS SEAT. 5 by the template 'for every input the law returns true; each argument reads behind the call as it read before'; 0 by the template 'total and deterministic' (their statements: YtiplcmdaoplbnaaTotals.lean).
  GIVEN WITH THE SEED: the statements are not yours to turn. If you find one false, say at which input.
  Laid BY PROGRAM, IN A SANDBOX (cutbox-rows.mjs): the forced cells as the released guide's own fill.sh prints them over the translation 06005c407a39a0e9… (all of the seat's roots in one cut). By AI agents, Wed Nov 11 2026. No macro, syntax, notation, axiom, sorry.
-/
import Derived.Test.YtiplcmdaoplbnaaChecked
import GoSem.Claim
import GoSem.ClaimJoined
import GoSem.ClaimMapViews
import Derived.JoinedTies
import Derived.KernelRfl
namespace Go.Proofs.Ytiplcmdaoplbnaa
/- THE CELL 'sum', in the pinned program and in every row, IS THE sha256 OF THE DUMP (.gsa) THAT YtiplcmdaoplbnaaProg.lean LOADS. Nothing in Lean hashes anything: it is a label: what it is worth is what the hold of that sum in a sandbox is worth. -/
noncomputable def Try.pinned : Pinned := { name := "ytiplcmdaoplbnaa", sum := "06005c407a39a0e9ece5a8634d4f44073021025488b8b9fca449369f8713b82d", checked := Try.checked }
namespace Rows
def none {H : Type} : Left H := { results := [], args := [] }

/-- 'laws.FnCorners': WHATEVER THE INPUT: true; the input reads as it did. -/
def fnCornersSpec : ChangeSpec := { name := "fnCorners", fn := fun _ => fun
  | [d] => { results := [.lit (.bool true)], args := [d] }
  | _ => none }
def fnCornersRow : OpenClaim := { program := "ytiplcmdaoplbnaa", sum := "06005c407a39a0e9ece5a8634d4f44073021025488b8b9fca449369f8713b82d", func := "loop.example/surfacemaps/laws.FnCorners", spec := "fnCorners", unfollowed := true, recurses := true, apart := false }
def FnCornersSaid : Prop := fnCornersRow.holds Try.pinned (OpenSpec.ofChange fnCornersSpec)

/-- ITS FALSE NEIGHBOUR: 'it returns false'. Refute it at one input. -/
def fnCornersWrong : ChangeSpec := { name := "fnCorners", fn := fun _ => fun
  | [d] => { results := [.lit (.bool false)], args := [d] }
  | _ => none }
def FnCornersWrongFalsely : Prop := fnCornersRow.holds Try.pinned (OpenSpec.ofChange fnCornersWrong)

/-- 'laws.FnGluingGenus': WHATEVER THE INPUT: true; the input reads as it did. -/
def fnGluingGenusSpec : ChangeSpec := { name := "fnGluingGenus", fn := fun _ => fun
  | [d] => { results := [.lit (.bool true)], args := [d] }
  | _ => none }
def fnGluingGenusRow : OpenClaim := { program := "ytiplcmdaoplbnaa", sum := "06005c407a39a0e9ece5a8634d4f44073021025488b8b9fca449369f8713b82d", func := "loop.example/surfacemaps/laws.FnGluingGenus", spec := "fnGluingGenus", unfollowed := true, recurses := true, apart := false }
def FnGluingGenusSaid : Prop := fnGluingGenusRow.holds Try.pinned (OpenSpec.ofChange fnGluingGenusSpec)

/-- ITS FALSE NEIGHBOUR: 'it returns false'. Refute it at one input. -/
def fnGluingGenusWrong : ChangeSpec := { name := "fnGluingGenus", fn := fun _ => fun
  | [d] => { results := [.lit (.bool false)], args := [d] }
  | _ => none }
def FnGluingGenusWrongFalsely : Prop := fnGluingGenusRow.holds Try.pinned (OpenSpec.ofChange fnGluingGenusWrong)

/-- 'laws.FnGluingTurn': WHATEVER THE INPUT: true; the input reads as it did. -/
def fnGluingTurnSpec : ChangeSpec := { name := "fnGluingTurn", fn := fun _ => fun
  | [d] => { results := [.lit (.bool true)], args := [d] }
  | _ => none }
def fnGluingTurnRow : OpenClaim := { program := "ytiplcmdaoplbnaa", sum := "06005c407a39a0e9ece5a8634d4f44073021025488b8b9fca449369f8713b82d", func := "loop.example/surfacemaps/laws.FnGluingTurn", spec := "fnGluingTurn", unfollowed := true, recurses := true, apart := false }
def FnGluingTurnSaid : Prop := fnGluingTurnRow.holds Try.pinned (OpenSpec.ofChange fnGluingTurnSpec)

/-- ITS FALSE NEIGHBOUR: 'it returns false'. Refute it at one input. -/
def fnGluingTurnWrong : ChangeSpec := { name := "fnGluingTurn", fn := fun _ => fun
  | [d] => { results := [.lit (.bool false)], args := [d] }
  | _ => none }
def FnGluingTurnWrongFalsely : Prop := fnGluingTurnRow.holds Try.pinned (OpenSpec.ofChange fnGluingTurnWrong)

/-- 'laws.FnGluingMap': WHATEVER THE INPUT: true; the input reads as it did. -/
def fnGluingMapSpec : ChangeSpec := { name := "fnGluingMap", fn := fun _ => fun
  | [d] => { results := [.lit (.bool true)], args := [d] }
  | _ => none }
def fnGluingMapRow : OpenClaim := { program := "ytiplcmdaoplbnaa", sum := "06005c407a39a0e9ece5a8634d4f44073021025488b8b9fca449369f8713b82d", func := "loop.example/surfacemaps/laws.FnGluingMap", spec := "fnGluingMap", unfollowed := true, recurses := true, apart := false }
def FnGluingMapSaid : Prop := fnGluingMapRow.holds Try.pinned (OpenSpec.ofChange fnGluingMapSpec)

/-- ITS FALSE NEIGHBOUR: 'it returns false'. Refute it at one input. -/
def fnGluingMapWrong : ChangeSpec := { name := "fnGluingMap", fn := fun _ => fun
  | [d] => { results := [.lit (.bool false)], args := [d] }
  | _ => none }
def FnGluingMapWrongFalsely : Prop := fnGluingMapRow.holds Try.pinned (OpenSpec.ofChange fnGluingMapWrong)

/-- 'laws.FnGluingOf': WHATEVER THE INPUT: true; the input reads as it did. -/
def fnGluingOfSpec : ChangeSpec := { name := "fnGluingOf", fn := fun _ => fun
  | [d] => { results := [.lit (.bool true)], args := [d] }
  | _ => none }
def fnGluingOfRow : OpenClaim := { program := "ytiplcmdaoplbnaa", sum := "06005c407a39a0e9ece5a8634d4f44073021025488b8b9fca449369f8713b82d", func := "loop.example/surfacemaps/laws.FnGluingOf", spec := "fnGluingOf", unfollowed := true, recurses := true, apart := false }
def FnGluingOfSaid : Prop := fnGluingOfRow.holds Try.pinned (OpenSpec.ofChange fnGluingOfSpec)

/-- ITS FALSE NEIGHBOUR: 'it returns false'. Refute it at one input. -/
def fnGluingOfWrong : ChangeSpec := { name := "fnGluingOf", fn := fun _ => fun
  | [d] => { results := [.lit (.bool false)], args := [d] }
  | _ => none }
def FnGluingOfWrongFalsely : Prop := fnGluingOfRow.holds Try.pinned (OpenSpec.ofChange fnGluingOfWrong)

/- THE SECOND FORM. 'bulk': how many values and letters a reading holds, each counted each time it is reached (what is shared counts as often as it is met; a slice's spare places count too). A statement '..UptoSaid' is the law's where the arguments, and the package variables that the reading takes, are together of bulk at most 1048576: NARROWER than '..Said'. Prove '..Said' where nothing that the law and all that it calls make is longer than what came in: it says more and counts as full. Else prove '..UptoSaid'. A law counts once. -/
mutual
def uptoBulk {H : Type} : DataW H → Nat
  | .lit (.string bytes) => bytes.length + 1
  | .lit _ => 1
  | .nil => 1
  | .ptr d => uptoBulk d + 1
  | .slice elems spare => uptoBulkAll elems + uptoBulkAll spare + 1
  | .agg parts => uptoBulkAll parts + 1
  | .iface _ d => uptoBulk d + 1
  | .map entries => uptoBulkEntries entries + 1
  | .held _ => 1
def uptoBulkAll {H : Type} : List (DataW H) → Nat
  | [] => 0
  | d :: r => uptoBulk d + uptoBulkAll r
def uptoBulkEntries {H : Type} : List (Lit × DataW H) → Nat
  | [] => 0
  | x :: r => uptoBulkEntry x + uptoBulkEntries r
def uptoBulkEntry {H : Type} : Lit × DataW H → Nat
  | (.string bytes, d) => bytes.length + uptoBulk d + 1
  | (_, d) => uptoBulk d + 1
 end
def uptoSmall : (H : Type) → List (DataW H) → Bool := fun _ ds => decide (uptoBulkAll ds ≤ 1048576)
def OpenSpec.upto (s : _root_.Go.ChangeSpec) : _root_.Go.OpenSpec := { _root_.Go.OpenSpec.ofChange s with cond := some uptoSmall }

/-- 'laws.FnCorners', WHERE WHAT IT READS IS OF BULK AT MOST 1048576: true; the input reads as it did. -/
def fnCornersUptoRow : OpenClaim := { program := "ytiplcmdaoplbnaa", sum := "06005c407a39a0e9ece5a8634d4f44073021025488b8b9fca449369f8713b82d", func := "loop.example/surfacemaps/laws.FnCorners", spec := "fnCorners", unfollowed := true, recurses := true, apart := false, narrowed := true }
def FnCornersUptoSaid : Prop := fnCornersUptoRow.holds Try.pinned (OpenSpec.upto fnCornersSpec)

/-- 'laws.FnGluingGenus', WHERE WHAT IT READS IS OF BULK AT MOST 1048576: true; the input reads as it did. -/
def fnGluingGenusUptoRow : OpenClaim := { program := "ytiplcmdaoplbnaa", sum := "06005c407a39a0e9ece5a8634d4f44073021025488b8b9fca449369f8713b82d", func := "loop.example/surfacemaps/laws.FnGluingGenus", spec := "fnGluingGenus", unfollowed := true, recurses := true, apart := false, narrowed := true }
def FnGluingGenusUptoSaid : Prop := fnGluingGenusUptoRow.holds Try.pinned (OpenSpec.upto fnGluingGenusSpec)

/-- 'laws.FnGluingTurn', WHERE WHAT IT READS IS OF BULK AT MOST 1048576: true; the input reads as it did. -/
def fnGluingTurnUptoRow : OpenClaim := { program := "ytiplcmdaoplbnaa", sum := "06005c407a39a0e9ece5a8634d4f44073021025488b8b9fca449369f8713b82d", func := "loop.example/surfacemaps/laws.FnGluingTurn", spec := "fnGluingTurn", unfollowed := true, recurses := true, apart := false, narrowed := true }
def FnGluingTurnUptoSaid : Prop := fnGluingTurnUptoRow.holds Try.pinned (OpenSpec.upto fnGluingTurnSpec)

/-- 'laws.FnGluingMap', WHERE WHAT IT READS IS OF BULK AT MOST 1048576: true; the input reads as it did. -/
def fnGluingMapUptoRow : OpenClaim := { program := "ytiplcmdaoplbnaa", sum := "06005c407a39a0e9ece5a8634d4f44073021025488b8b9fca449369f8713b82d", func := "loop.example/surfacemaps/laws.FnGluingMap", spec := "fnGluingMap", unfollowed := true, recurses := true, apart := false, narrowed := true }
def FnGluingMapUptoSaid : Prop := fnGluingMapUptoRow.holds Try.pinned (OpenSpec.upto fnGluingMapSpec)

/-- 'laws.FnGluingOf', WHERE WHAT IT READS IS OF BULK AT MOST 1048576: true; the input reads as it did. -/
def fnGluingOfUptoRow : OpenClaim := { program := "ytiplcmdaoplbnaa", sum := "06005c407a39a0e9ece5a8634d4f44073021025488b8b9fca449369f8713b82d", func := "loop.example/surfacemaps/laws.FnGluingOf", spec := "fnGluingOf", unfollowed := true, recurses := true, apart := false, narrowed := true }
def FnGluingOfUptoSaid : Prop := fnGluingOfUptoRow.holds Try.pinned (OpenSpec.upto fnGluingOfSpec)

end Rows
end Go.Proofs.Ytiplcmdaoplbnaa
