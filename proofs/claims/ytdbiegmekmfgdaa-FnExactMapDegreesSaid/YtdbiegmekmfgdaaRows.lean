/-
  No cell of these rows narrows 'for every input' (looked for: loops, veiled, ifaces, maps, wideKeys, modest, calm, conditions, laid).
  DERIVED. THE GIVEN ROWS OF THIS SEAT. 13 by the template 'for every input the law returns true; each argument reads behind the call as it read before'; 0 by the template 'total and deterministic' (their statements: YtdbiegmekmfgdaaTotals.lean).
  GIVEN WITH THE SEED: the statements are not yours to turn. If you find one false, say at which input.
  Laid BY PROGRAM, IN A SANDBOX (cutbox-rows.mjs): the forced cells as the released guide's own fill.sh prints them over the translation aff6568747a50db5… (all of the seat's roots in one cut). By AI agents, Wed Nov 11 2026. No macro, syntax, notation, axiom, sorry.
-/
import Derived.Test.YtdbiegmekmfgdaaChecked
import GoSem.Claim
import GoSem.ClaimJoined
import GoSem.ClaimMapViews
import Derived.JoinedTies
import Derived.KernelRfl
namespace Go.Proofs.Ytdbiegmekmfgdaa
/- THE CELL 'sum', in the pinned program and in every row, IS THE sha256 OF THE DUMP (.gsa) THAT YtdbiegmekmfgdaaProg.lean LOADS. Nothing in Lean hashes anything: it is a label: what it is worth is what the hold of that sum in a sandbox is worth. -/
noncomputable def Try.pinned : Pinned := { name := "ytdbiegmekmfgdaa", sum := "aff6568747a50db5f478b62c55d3ecec30fb033f3d1fc07a154e1091bd11cccf", checked := Try.checked }
namespace Rows
def none {H : Type} : Left H := { results := [], args := [] }

/-- 'laws.FnExactPermOrbits': WHATEVER THE INPUT: true; the input reads as it did. -/
def fnExactPermOrbitsSpec : ChangeSpec := { name := "fnExactPermOrbits", fn := fun _ => fun
  | [d1, d2] => { results := [.lit (.bool true)], args := [d1, d2] }
  | _ => none }
def fnExactPermOrbitsRow : OpenClaim := { program := "ytdbiegmekmfgdaa", sum := "aff6568747a50db5f478b62c55d3ecec30fb033f3d1fc07a154e1091bd11cccf", func := "loop.example/surfacemaps/laws.FnExactPermOrbits", spec := "fnExactPermOrbits", apart := false }
def FnExactPermOrbitsSaid : Prop := fnExactPermOrbitsRow.holds Try.pinned (OpenSpec.ofChange fnExactPermOrbitsSpec)

/-- ITS FALSE NEIGHBOUR: 'it returns false'. Refute it at one input. -/
def fnExactPermOrbitsWrong : ChangeSpec := { name := "fnExactPermOrbits", fn := fun _ => fun
  | [d1, d2] => { results := [.lit (.bool false)], args := [d1, d2] }
  | _ => none }
def FnExactPermOrbitsWrongFalsely : Prop := fnExactPermOrbitsRow.holds Try.pinned (OpenSpec.ofChange fnExactPermOrbitsWrong)

/-- 'laws.FnExactMapValid': WHATEVER THE INPUT: true; the input reads as it did. -/
def fnExactMapValidSpec : ChangeSpec := { name := "fnExactMapValid", fn := fun _ => fun
  | [d] => { results := [.lit (.bool true)], args := [d] }
  | _ => none }
def fnExactMapValidRow : OpenClaim := { program := "ytdbiegmekmfgdaa", sum := "aff6568747a50db5f478b62c55d3ecec30fb033f3d1fc07a154e1091bd11cccf", func := "loop.example/surfacemaps/laws.FnExactMapValid", spec := "fnExactMapValid", apart := false }
def FnExactMapValidSaid : Prop := fnExactMapValidRow.holds Try.pinned (OpenSpec.ofChange fnExactMapValidSpec)

/-- ITS FALSE NEIGHBOUR: 'it returns false'. Refute it at one input. -/
def fnExactMapValidWrong : ChangeSpec := { name := "fnExactMapValid", fn := fun _ => fun
  | [d] => { results := [.lit (.bool false)], args := [d] }
  | _ => none }
def FnExactMapValidWrongFalsely : Prop := fnExactMapValidRow.holds Try.pinned (OpenSpec.ofChange fnExactMapValidWrong)

/-- 'laws.FnExactMapFaces': WHATEVER THE INPUT: true; the input reads as it did. -/
def fnExactMapFacesSpec : ChangeSpec := { name := "fnExactMapFaces", fn := fun _ => fun
  | [d] => { results := [.lit (.bool true)], args := [d] }
  | _ => none }
def fnExactMapFacesRow : OpenClaim := { program := "ytdbiegmekmfgdaa", sum := "aff6568747a50db5f478b62c55d3ecec30fb033f3d1fc07a154e1091bd11cccf", func := "loop.example/surfacemaps/laws.FnExactMapFaces", spec := "fnExactMapFaces", apart := false }
def FnExactMapFacesSaid : Prop := fnExactMapFacesRow.holds Try.pinned (OpenSpec.ofChange fnExactMapFacesSpec)

/-- ITS FALSE NEIGHBOUR: 'it returns false'. Refute it at one input. -/
def fnExactMapFacesWrong : ChangeSpec := { name := "fnExactMapFaces", fn := fun _ => fun
  | [d] => { results := [.lit (.bool false)], args := [d] }
  | _ => none }
def FnExactMapFacesWrongFalsely : Prop := fnExactMapFacesRow.holds Try.pinned (OpenSpec.ofChange fnExactMapFacesWrong)

/-- 'laws.FnExactMapCounts': WHATEVER THE INPUT: true; the input reads as it did. -/
def fnExactMapCountsSpec : ChangeSpec := { name := "fnExactMapCounts", fn := fun _ => fun
  | [d] => { results := [.lit (.bool true)], args := [d] }
  | _ => none }
def fnExactMapCountsRow : OpenClaim := { program := "ytdbiegmekmfgdaa", sum := "aff6568747a50db5f478b62c55d3ecec30fb033f3d1fc07a154e1091bd11cccf", func := "loop.example/surfacemaps/laws.FnExactMapCounts", spec := "fnExactMapCounts", unfollowed := true, recurses := true, apart := false }
def FnExactMapCountsSaid : Prop := fnExactMapCountsRow.holds Try.pinned (OpenSpec.ofChange fnExactMapCountsSpec)

/-- ITS FALSE NEIGHBOUR: 'it returns false'. Refute it at one input. -/
def fnExactMapCountsWrong : ChangeSpec := { name := "fnExactMapCounts", fn := fun _ => fun
  | [d] => { results := [.lit (.bool false)], args := [d] }
  | _ => none }
def FnExactMapCountsWrongFalsely : Prop := fnExactMapCountsRow.holds Try.pinned (OpenSpec.ofChange fnExactMapCountsWrong)

/-- 'laws.FnExactMapGenus': WHATEVER THE INPUT: true; the input reads as it did. -/
def fnExactMapGenusSpec : ChangeSpec := { name := "fnExactMapGenus", fn := fun _ => fun
  | [d] => { results := [.lit (.bool true)], args := [d] }
  | _ => none }
def fnExactMapGenusRow : OpenClaim := { program := "ytdbiegmekmfgdaa", sum := "aff6568747a50db5f478b62c55d3ecec30fb033f3d1fc07a154e1091bd11cccf", func := "loop.example/surfacemaps/laws.FnExactMapGenus", spec := "fnExactMapGenus", unfollowed := true, recurses := true, apart := false }
def FnExactMapGenusSaid : Prop := fnExactMapGenusRow.holds Try.pinned (OpenSpec.ofChange fnExactMapGenusSpec)

/-- ITS FALSE NEIGHBOUR: 'it returns false'. Refute it at one input. -/
def fnExactMapGenusWrong : ChangeSpec := { name := "fnExactMapGenus", fn := fun _ => fun
  | [d] => { results := [.lit (.bool false)], args := [d] }
  | _ => none }
def FnExactMapGenusWrongFalsely : Prop := fnExactMapGenusRow.holds Try.pinned (OpenSpec.ofChange fnExactMapGenusWrong)

/-- 'laws.FnExactMapDual': WHATEVER THE INPUT: true; the input reads as it did. -/
def fnExactMapDualSpec : ChangeSpec := { name := "fnExactMapDual", fn := fun _ => fun
  | [d] => { results := [.lit (.bool true)], args := [d] }
  | _ => none }
def fnExactMapDualRow : OpenClaim := { program := "ytdbiegmekmfgdaa", sum := "aff6568747a50db5f478b62c55d3ecec30fb033f3d1fc07a154e1091bd11cccf", func := "loop.example/surfacemaps/laws.FnExactMapDual", spec := "fnExactMapDual", apart := false }
def FnExactMapDualSaid : Prop := fnExactMapDualRow.holds Try.pinned (OpenSpec.ofChange fnExactMapDualSpec)

/-- ITS FALSE NEIGHBOUR: 'it returns false'. Refute it at one input. -/
def fnExactMapDualWrong : ChangeSpec := { name := "fnExactMapDual", fn := fun _ => fun
  | [d] => { results := [.lit (.bool false)], args := [d] }
  | _ => none }
def FnExactMapDualWrongFalsely : Prop := fnExactMapDualRow.holds Try.pinned (OpenSpec.ofChange fnExactMapDualWrong)

/-- 'laws.FnExactMapMirror': WHATEVER THE INPUT: true; the input reads as it did. -/
def fnExactMapMirrorSpec : ChangeSpec := { name := "fnExactMapMirror", fn := fun _ => fun
  | [d] => { results := [.lit (.bool true)], args := [d] }
  | _ => none }
def fnExactMapMirrorRow : OpenClaim := { program := "ytdbiegmekmfgdaa", sum := "aff6568747a50db5f478b62c55d3ecec30fb033f3d1fc07a154e1091bd11cccf", func := "loop.example/surfacemaps/laws.FnExactMapMirror", spec := "fnExactMapMirror", apart := false }
def FnExactMapMirrorSaid : Prop := fnExactMapMirrorRow.holds Try.pinned (OpenSpec.ofChange fnExactMapMirrorSpec)

/-- ITS FALSE NEIGHBOUR: 'it returns false'. Refute it at one input. -/
def fnExactMapMirrorWrong : ChangeSpec := { name := "fnExactMapMirror", fn := fun _ => fun
  | [d] => { results := [.lit (.bool false)], args := [d] }
  | _ => none }
def FnExactMapMirrorWrongFalsely : Prop := fnExactMapMirrorRow.holds Try.pinned (OpenSpec.ofChange fnExactMapMirrorWrong)

/-- 'laws.FnExactMapRename': WHATEVER THE INPUT: true; the input reads as it did. -/
def fnExactMapRenameSpec : ChangeSpec := { name := "fnExactMapRename", fn := fun _ => fun
  | [d1, d2] => { results := [.lit (.bool true)], args := [d1, d2] }
  | _ => none }
def fnExactMapRenameRow : OpenClaim := { program := "ytdbiegmekmfgdaa", sum := "aff6568747a50db5f478b62c55d3ecec30fb033f3d1fc07a154e1091bd11cccf", func := "loop.example/surfacemaps/laws.FnExactMapRename", spec := "fnExactMapRename", apart := false }
def FnExactMapRenameSaid : Prop := fnExactMapRenameRow.holds Try.pinned (OpenSpec.ofChange fnExactMapRenameSpec)

/-- ITS FALSE NEIGHBOUR: 'it returns false'. Refute it at one input. -/
def fnExactMapRenameWrong : ChangeSpec := { name := "fnExactMapRename", fn := fun _ => fun
  | [d1, d2] => { results := [.lit (.bool false)], args := [d1, d2] }
  | _ => none }
def FnExactMapRenameWrongFalsely : Prop := fnExactMapRenameRow.holds Try.pinned (OpenSpec.ofChange fnExactMapRenameWrong)

/-- 'laws.FnExactMapForm': WHATEVER THE INPUT: true; the input reads as it did. -/
def fnExactMapFormSpec : ChangeSpec := { name := "fnExactMapForm", fn := fun _ => fun
  | [d1, d2] => { results := [.lit (.bool true)], args := [d1, d2] }
  | _ => none }
def fnExactMapFormRow : OpenClaim := { program := "ytdbiegmekmfgdaa", sum := "aff6568747a50db5f478b62c55d3ecec30fb033f3d1fc07a154e1091bd11cccf", func := "loop.example/surfacemaps/laws.FnExactMapForm", spec := "fnExactMapForm", apart := false }
def FnExactMapFormSaid : Prop := fnExactMapFormRow.holds Try.pinned (OpenSpec.ofChange fnExactMapFormSpec)

/-- ITS FALSE NEIGHBOUR: 'it returns false'. Refute it at one input. -/
def fnExactMapFormWrong : ChangeSpec := { name := "fnExactMapForm", fn := fun _ => fun
  | [d1, d2] => { results := [.lit (.bool false)], args := [d1, d2] }
  | _ => none }
def FnExactMapFormWrongFalsely : Prop := fnExactMapFormRow.holds Try.pinned (OpenSpec.ofChange fnExactMapFormWrong)

/-- 'laws.FnExactMapLeast': WHATEVER THE INPUT: true; the input reads as it did. -/
def fnExactMapLeastSpec : ChangeSpec := { name := "fnExactMapLeast", fn := fun _ => fun
  | [d] => { results := [.lit (.bool true)], args := [d] }
  | _ => none }
def fnExactMapLeastRow : OpenClaim := { program := "ytdbiegmekmfgdaa", sum := "aff6568747a50db5f478b62c55d3ecec30fb033f3d1fc07a154e1091bd11cccf", func := "loop.example/surfacemaps/laws.FnExactMapLeast", spec := "fnExactMapLeast", unfollowed := true, recurses := true, apart := false }
def FnExactMapLeastSaid : Prop := fnExactMapLeastRow.holds Try.pinned (OpenSpec.ofChange fnExactMapLeastSpec)

/-- ITS FALSE NEIGHBOUR: 'it returns false'. Refute it at one input. -/
def fnExactMapLeastWrong : ChangeSpec := { name := "fnExactMapLeast", fn := fun _ => fun
  | [d] => { results := [.lit (.bool false)], args := [d] }
  | _ => none }
def FnExactMapLeastWrongFalsely : Prop := fnExactMapLeastRow.holds Try.pinned (OpenSpec.ofChange fnExactMapLeastWrong)

/-- 'laws.FnExactMapSame': WHATEVER THE INPUT: true; the input reads as it did. -/
def fnExactMapSameSpec : ChangeSpec := { name := "fnExactMapSame", fn := fun _ => fun
  | [d1, d2] => { results := [.lit (.bool true)], args := [d1, d2] }
  | _ => none }
def fnExactMapSameRow : OpenClaim := { program := "ytdbiegmekmfgdaa", sum := "aff6568747a50db5f478b62c55d3ecec30fb033f3d1fc07a154e1091bd11cccf", func := "loop.example/surfacemaps/laws.FnExactMapSame", spec := "fnExactMapSame", apart := false }
def FnExactMapSameSaid : Prop := fnExactMapSameRow.holds Try.pinned (OpenSpec.ofChange fnExactMapSameSpec)

/-- ITS FALSE NEIGHBOUR: 'it returns false'. Refute it at one input. -/
def fnExactMapSameWrong : ChangeSpec := { name := "fnExactMapSame", fn := fun _ => fun
  | [d1, d2] => { results := [.lit (.bool false)], args := [d1, d2] }
  | _ => none }
def FnExactMapSameWrongFalsely : Prop := fnExactMapSameRow.holds Try.pinned (OpenSpec.ofChange fnExactMapSameWrong)

/-- 'laws.FnExactMapTurns': WHATEVER THE INPUT: true; the input reads as it did. -/
def fnExactMapTurnsSpec : ChangeSpec := { name := "fnExactMapTurns", fn := fun _ => fun
  | [d] => { results := [.lit (.bool true)], args := [d] }
  | _ => none }
def fnExactMapTurnsRow : OpenClaim := { program := "ytdbiegmekmfgdaa", sum := "aff6568747a50db5f478b62c55d3ecec30fb033f3d1fc07a154e1091bd11cccf", func := "loop.example/surfacemaps/laws.FnExactMapTurns", spec := "fnExactMapTurns", apart := false }
def FnExactMapTurnsSaid : Prop := fnExactMapTurnsRow.holds Try.pinned (OpenSpec.ofChange fnExactMapTurnsSpec)

/-- ITS FALSE NEIGHBOUR: 'it returns false'. Refute it at one input. -/
def fnExactMapTurnsWrong : ChangeSpec := { name := "fnExactMapTurns", fn := fun _ => fun
  | [d] => { results := [.lit (.bool false)], args := [d] }
  | _ => none }
def FnExactMapTurnsWrongFalsely : Prop := fnExactMapTurnsRow.holds Try.pinned (OpenSpec.ofChange fnExactMapTurnsWrong)

/-- 'laws.FnExactMapDegrees': WHATEVER THE INPUT: true; the input reads as it did. -/
def fnExactMapDegreesSpec : ChangeSpec := { name := "fnExactMapDegrees", fn := fun _ => fun
  | [d] => { results := [.lit (.bool true)], args := [d] }
  | _ => none }
def fnExactMapDegreesRow : OpenClaim := { program := "ytdbiegmekmfgdaa", sum := "aff6568747a50db5f478b62c55d3ecec30fb033f3d1fc07a154e1091bd11cccf", func := "loop.example/surfacemaps/laws.FnExactMapDegrees", spec := "fnExactMapDegrees", unfollowed := true, recurses := true, apart := false }
def FnExactMapDegreesSaid : Prop := fnExactMapDegreesRow.holds Try.pinned (OpenSpec.ofChange fnExactMapDegreesSpec)

/-- ITS FALSE NEIGHBOUR: 'it returns false'. Refute it at one input. -/
def fnExactMapDegreesWrong : ChangeSpec := { name := "fnExactMapDegrees", fn := fun _ => fun
  | [d] => { results := [.lit (.bool false)], args := [d] }
  | _ => none }
def FnExactMapDegreesWrongFalsely : Prop := fnExactMapDegreesRow.holds Try.pinned (OpenSpec.ofChange fnExactMapDegreesWrong)

/- THE SECOND FORM. 'bulk': how many values and letters a reading holds, each counted each time it is reached (what is shared counts as often as it is met; a slice's spare places count too). A statement '..UptoSaid' is the law's where the arguments, and the package variables that the reading takes, are together of bulk at most 1048576: NARROWER than '..Said'. Prove '..Said' where nothing that the law and all that it calls make is longer than what came in: it says more and counts as full. Else prove '..UptoSaid'. A law counts once. -/
mutual
def uptoBulk {H : Type} : DataW H → Nat
  | .lit (.string bytes) => bytes.length + 1
  | .lit _ => 1
  | .nil => 1
  | .ptr d => uptoBulk d + 1
  | .slice elems spare => uptoBulkAll elems + uptoBulkAll spare + 1
  | .agg parts => uptoBulkAll parts + 1
  | .iface _ d => uptoBulk d + 1
  | .map entries => uptoBulkEntries entries + 1
  | .held _ => 1
def uptoBulkAll {H : Type} : List (DataW H) → Nat
  | [] => 0
  | d :: r => uptoBulk d + uptoBulkAll r
def uptoBulkEntries {H : Type} : List (Lit × DataW H) → Nat
  | [] => 0
  | x :: r => uptoBulkEntry x + uptoBulkEntries r
def uptoBulkEntry {H : Type} : Lit × DataW H → Nat
  | (.string bytes, d) => bytes.length + uptoBulk d + 1
  | (_, d) => uptoBulk d + 1
 end
def uptoSmall : (H : Type) → List (DataW H) → Bool := fun _ ds => decide (uptoBulkAll ds ≤ 1048576)
def OpenSpec.upto (s : _root_.Go.ChangeSpec) : _root_.Go.OpenSpec := { _root_.Go.OpenSpec.ofChange s with cond := some uptoSmall }

/-- 'laws.FnExactPermOrbits', WHERE WHAT IT READS IS OF BULK AT MOST 1048576: true; the input reads as it did. -/
def fnExactPermOrbitsUptoRow : OpenClaim := { program := "ytdbiegmekmfgdaa", sum := "aff6568747a50db5f478b62c55d3ecec30fb033f3d1fc07a154e1091bd11cccf", func := "loop.example/surfacemaps/laws.FnExactPermOrbits", spec := "fnExactPermOrbits", apart := false, narrowed := true }
def FnExactPermOrbitsUptoSaid : Prop := fnExactPermOrbitsUptoRow.holds Try.pinned (OpenSpec.upto fnExactPermOrbitsSpec)

/-- 'laws.FnExactMapValid', WHERE WHAT IT READS IS OF BULK AT MOST 1048576: true; the input reads as it did. -/
def fnExactMapValidUptoRow : OpenClaim := { program := "ytdbiegmekmfgdaa", sum := "aff6568747a50db5f478b62c55d3ecec30fb033f3d1fc07a154e1091bd11cccf", func := "loop.example/surfacemaps/laws.FnExactMapValid", spec := "fnExactMapValid", apart := false, narrowed := true }
def FnExactMapValidUptoSaid : Prop := fnExactMapValidUptoRow.holds Try.pinned (OpenSpec.upto fnExactMapValidSpec)

/-- 'laws.FnExactMapFaces', WHERE WHAT IT READS IS OF BULK AT MOST 1048576: true; the input reads as it did. -/
def fnExactMapFacesUptoRow : OpenClaim := { program := "ytdbiegmekmfgdaa", sum := "aff6568747a50db5f478b62c55d3ecec30fb033f3d1fc07a154e1091bd11cccf", func := "loop.example/surfacemaps/laws.FnExactMapFaces", spec := "fnExactMapFaces", apart := false, narrowed := true }
def FnExactMapFacesUptoSaid : Prop := fnExactMapFacesUptoRow.holds Try.pinned (OpenSpec.upto fnExactMapFacesSpec)

/-- 'laws.FnExactMapCounts', WHERE WHAT IT READS IS OF BULK AT MOST 1048576: true; the input reads as it did. -/
def fnExactMapCountsUptoRow : OpenClaim := { program := "ytdbiegmekmfgdaa", sum := "aff6568747a50db5f478b62c55d3ecec30fb033f3d1fc07a154e1091bd11cccf", func := "loop.example/surfacemaps/laws.FnExactMapCounts", spec := "fnExactMapCounts", unfollowed := true, recurses := true, apart := false, narrowed := true }
def FnExactMapCountsUptoSaid : Prop := fnExactMapCountsUptoRow.holds Try.pinned (OpenSpec.upto fnExactMapCountsSpec)

/-- 'laws.FnExactMapGenus', WHERE WHAT IT READS IS OF BULK AT MOST 1048576: true; the input reads as it did. -/
def fnExactMapGenusUptoRow : OpenClaim := { program := "ytdbiegmekmfgdaa", sum := "aff6568747a50db5f478b62c55d3ecec30fb033f3d1fc07a154e1091bd11cccf", func := "loop.example/surfacemaps/laws.FnExactMapGenus", spec := "fnExactMapGenus", unfollowed := true, recurses := true, apart := false, narrowed := true }
def FnExactMapGenusUptoSaid : Prop := fnExactMapGenusUptoRow.holds Try.pinned (OpenSpec.upto fnExactMapGenusSpec)

/-- 'laws.FnExactMapDual', WHERE WHAT IT READS IS OF BULK AT MOST 1048576: true; the input reads as it did. -/
def fnExactMapDualUptoRow : OpenClaim := { program := "ytdbiegmekmfgdaa", sum := "aff6568747a50db5f478b62c55d3ecec30fb033f3d1fc07a154e1091bd11cccf", func := "loop.example/surfacemaps/laws.FnExactMapDual", spec := "fnExactMapDual", apart := false, narrowed := true }
def FnExactMapDualUptoSaid : Prop := fnExactMapDualUptoRow.holds Try.pinned (OpenSpec.upto fnExactMapDualSpec)

/-- 'laws.FnExactMapMirror', WHERE WHAT IT READS IS OF BULK AT MOST 1048576: true; the input reads as it did. -/
def fnExactMapMirrorUptoRow : OpenClaim := { program := "ytdbiegmekmfgdaa", sum := "aff6568747a50db5f478b62c55d3ecec30fb033f3d1fc07a154e1091bd11cccf", func := "loop.example/surfacemaps/laws.FnExactMapMirror", spec := "fnExactMapMirror", apart := false, narrowed := true }
def FnExactMapMirrorUptoSaid : Prop := fnExactMapMirrorUptoRow.holds Try.pinned (OpenSpec.upto fnExactMapMirrorSpec)

/-- 'laws.FnExactMapRename', WHERE WHAT IT READS IS OF BULK AT MOST 1048576: true; the input reads as it did. -/
def fnExactMapRenameUptoRow : OpenClaim := { program := "ytdbiegmekmfgdaa", sum := "aff6568747a50db5f478b62c55d3ecec30fb033f3d1fc07a154e1091bd11cccf", func := "loop.example/surfacemaps/laws.FnExactMapRename", spec := "fnExactMapRename", apart := false, narrowed := true }
def FnExactMapRenameUptoSaid : Prop := fnExactMapRenameUptoRow.holds Try.pinned (OpenSpec.upto fnExactMapRenameSpec)

/-- 'laws.FnExactMapForm', WHERE WHAT IT READS IS OF BULK AT MOST 1048576: true; the input reads as it did. -/
def fnExactMapFormUptoRow : OpenClaim := { program := "ytdbiegmekmfgdaa", sum := "aff6568747a50db5f478b62c55d3ecec30fb033f3d1fc07a154e1091bd11cccf", func := "loop.example/surfacemaps/laws.FnExactMapForm", spec := "fnExactMapForm", apart := false, narrowed := true }
def FnExactMapFormUptoSaid : Prop := fnExactMapFormUptoRow.holds Try.pinned (OpenSpec.upto fnExactMapFormSpec)

/-- 'laws.FnExactMapLeast', WHERE WHAT IT READS IS OF BULK AT MOST 1048576: true; the input reads as it did. -/
def fnExactMapLeastUptoRow : OpenClaim := { program := "ytdbiegmekmfgdaa", sum := "aff6568747a50db5f478b62c55d3ecec30fb033f3d1fc07a154e1091bd11cccf", func := "loop.example/surfacemaps/laws.FnExactMapLeast", spec := "fnExactMapLeast", unfollowed := true, recurses := true, apart := false, narrowed := true }
def FnExactMapLeastUptoSaid : Prop := fnExactMapLeastUptoRow.holds Try.pinned (OpenSpec.upto fnExactMapLeastSpec)

/-- 'laws.FnExactMapSame', WHERE WHAT IT READS IS OF BULK AT MOST 1048576: true; the input reads as it did. -/
def fnExactMapSameUptoRow : OpenClaim := { program := "ytdbiegmekmfgdaa", sum := "aff6568747a50db5f478b62c55d3ecec30fb033f3d1fc07a154e1091bd11cccf", func := "loop.example/surfacemaps/laws.FnExactMapSame", spec := "fnExactMapSame", apart := false, narrowed := true }
def FnExactMapSameUptoSaid : Prop := fnExactMapSameUptoRow.holds Try.pinned (OpenSpec.upto fnExactMapSameSpec)

/-- 'laws.FnExactMapTurns', WHERE WHAT IT READS IS OF BULK AT MOST 1048576: true; the input reads as it did. -/
def fnExactMapTurnsUptoRow : OpenClaim := { program := "ytdbiegmekmfgdaa", sum := "aff6568747a50db5f478b62c55d3ecec30fb033f3d1fc07a154e1091bd11cccf", func := "loop.example/surfacemaps/laws.FnExactMapTurns", spec := "fnExactMapTurns", apart := false, narrowed := true }
def FnExactMapTurnsUptoSaid : Prop := fnExactMapTurnsUptoRow.holds Try.pinned (OpenSpec.upto fnExactMapTurnsSpec)

/-- 'laws.FnExactMapDegrees', WHERE WHAT IT READS IS OF BULK AT MOST 1048576: true; the input reads as it did. -/
def fnExactMapDegreesUptoRow : OpenClaim := { program := "ytdbiegmekmfgdaa", sum := "aff6568747a50db5f478b62c55d3ecec30fb033f3d1fc07a154e1091bd11cccf", func := "loop.example/surfacemaps/laws.FnExactMapDegrees", spec := "fnExactMapDegrees", unfollowed := true, recurses := true, apart := false, narrowed := true }
def FnExactMapDegreesUptoSaid : Prop := fnExactMapDegreesUptoRow.holds Try.pinned (OpenSpec.upto fnExactMapDegreesSpec)

end Rows
end Go.Proofs.Ytdbiegmekmfgdaa
