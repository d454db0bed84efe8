/-
  No cell of these rows narrows 'for every input' (looked for: loops, veiled, ifaces, maps, wideKeys, modest, calm, conditions, laid).
  DERIVED. THE GIVEN ROWS OF THIS SEAT. 13 by the template 'for every input the law returns true; each argument reads behind the call as it read before'; 0 by the template 'total and deterministic' (their statements: YtfcgfeopmnjfjaaTotals.lean).
  GIVEN WITH THE SEED: the statements are not yours to turn. If you find one false, say at which input.
  Laid BY PROGRAM, IN A SANDBOX (cutbox-rows.mjs): the forced cells as the released guide's own fill.sh prints them over the translation 79722bd295b00e17… (all of the seat's roots in one cut). By AI agents, Wed Nov 11 2026. No macro, syntax, notation, axiom, sorry.
-/
import Derived.Test.YtfcgfeopmnjfjaaChecked
import GoSem.Claim
import GoSem.ClaimJoined
import GoSem.ClaimMapViews
import Derived.JoinedTies
import Derived.KernelRfl
namespace Go.Proofs.Ytfcgfeopmnjfjaa
/- THE CELL 'sum', in the pinned program and in every row, IS THE sha256 OF THE DUMP (.gsa) THAT YtfcgfeopmnjfjaaProg.lean LOADS. Nothing in Lean hashes anything: it is a label: what it is worth is what the hold of that sum in a sandbox is worth. -/
noncomputable def Try.pinned : Pinned := { name := "ytfcgfeopmnjfjaa", sum := "79722bd295b00e17d0af40afc18328ff2bab161eebcdb9892ac3c386d5e8349d", checked := Try.checked }
namespace Rows
def none {H : Type} : Left H := { results := [], args := [] }

/-- 'laws.FnRun': WHATEVER THE INPUT: true; the input reads as it did. -/
def fnRunSpec : ChangeSpec := { name := "fnRun", fn := fun _ => fun
  | [d] => { results := [.lit (.bool true)], args := [d] }
  | _ => none }
def fnRunRow : OpenClaim := { program := "ytfcgfeopmnjfjaa", sum := "79722bd295b00e17d0af40afc18328ff2bab161eebcdb9892ac3c386d5e8349d", func := "loop.example/surfacemaps/laws.FnRun", spec := "fnRun", unfollowed := true, recurses := true, plainKeys := false, apart := false }
def FnRunSaid : Prop := fnRunRow.holds Try.pinned (OpenSpec.ofChange fnRunSpec)

/-- ITS FALSE NEIGHBOUR: 'it returns false'. Refute it at one input. -/
def fnRunWrong : ChangeSpec := { name := "fnRun", fn := fun _ => fun
  | [d] => { results := [.lit (.bool false)], args := [d] }
  | _ => none }
def FnRunWrongFalsely : Prop := fnRunRow.holds Try.pinned (OpenSpec.ofChange fnRunWrong)

/-- 'laws.FnPlane': WHATEVER THE INPUT: true; the input reads as it did. -/
def fnPlaneSpec : ChangeSpec := { name := "fnPlane", fn := fun _ => fun
  | [d] => { results := [.lit (.bool true)], args := [d] }
  | _ => none }
def fnPlaneRow : OpenClaim := { program := "ytfcgfeopmnjfjaa", sum := "79722bd295b00e17d0af40afc18328ff2bab161eebcdb9892ac3c386d5e8349d", func := "loop.example/surfacemaps/laws.FnPlane", spec := "fnPlane", unfollowed := true, recurses := true, plainKeys := false, apart := false }
def FnPlaneSaid : Prop := fnPlaneRow.holds Try.pinned (OpenSpec.ofChange fnPlaneSpec)

/-- ITS FALSE NEIGHBOUR: 'it returns false'. Refute it at one input. -/
def fnPlaneWrong : ChangeSpec := { name := "fnPlane", fn := fun _ => fun
  | [d] => { results := [.lit (.bool false)], args := [d] }
  | _ => none }
def FnPlaneWrongFalsely : Prop := fnPlaneRow.holds Try.pinned (OpenSpec.ofChange fnPlaneWrong)

/-- 'laws.FnColors': WHATEVER THE INPUT: true; the input reads as it did. -/
def fnColorsSpec : ChangeSpec := { name := "fnColors", fn := fun _ => fun
  | [d] => { results := [.lit (.bool true)], args := [d] }
  | _ => none }
def fnColorsRow : OpenClaim := { program := "ytfcgfeopmnjfjaa", sum := "79722bd295b00e17d0af40afc18328ff2bab161eebcdb9892ac3c386d5e8349d", func := "loop.example/surfacemaps/laws.FnColors", spec := "fnColors", unfollowed := true, recurses := true, plainKeys := false, apart := false }
def FnColorsSaid : Prop := fnColorsRow.holds Try.pinned (OpenSpec.ofChange fnColorsSpec)

/-- ITS FALSE NEIGHBOUR: 'it returns false'. Refute it at one input. -/
def fnColorsWrong : ChangeSpec := { name := "fnColors", fn := fun _ => fun
  | [d] => { results := [.lit (.bool false)], args := [d] }
  | _ => none }
def FnColorsWrongFalsely : Prop := fnColorsRow.holds Try.pinned (OpenSpec.ofChange fnColorsWrong)

/-- 'laws.FnTreesMany': WHATEVER THE INPUT: true; the input reads as it did. -/
def fnTreesManySpec : ChangeSpec := { name := "fnTreesMany", fn := fun _ => fun
  | [d] => { results := [.lit (.bool true)], args := [d] }
  | _ => none }
def fnTreesManyRow : OpenClaim := { program := "ytfcgfeopmnjfjaa", sum := "79722bd295b00e17d0af40afc18328ff2bab161eebcdb9892ac3c386d5e8349d", func := "loop.example/surfacemaps/laws.FnTreesMany", spec := "fnTreesMany", plainKeys := false, apart := false }
def FnTreesManySaid : Prop := fnTreesManyRow.holds Try.pinned (OpenSpec.ofChange fnTreesManySpec)

/-- ITS FALSE NEIGHBOUR: 'it returns false'. Refute it at one input. -/
def fnTreesManyWrong : ChangeSpec := { name := "fnTreesMany", fn := fun _ => fun
  | [d] => { results := [.lit (.bool false)], args := [d] }
  | _ => none }
def FnTreesManyWrongFalsely : Prop := fnTreesManyRow.holds Try.pinned (OpenSpec.ofChange fnTreesManyWrong)

/-- 'laws.FnExactRootedPlane': WHATEVER THE INPUT: true; the input reads as it did. -/
def fnExactRootedPlaneSpec : ChangeSpec := { name := "fnExactRootedPlane", fn := fun _ => fun
  | [d] => { results := [.lit (.bool true)], args := [d] }
  | _ => none }
def fnExactRootedPlaneRow : OpenClaim := { program := "ytfcgfeopmnjfjaa", sum := "79722bd295b00e17d0af40afc18328ff2bab161eebcdb9892ac3c386d5e8349d", func := "loop.example/surfacemaps/laws.FnExactRootedPlane", spec := "fnExactRootedPlane", plainKeys := false, apart := false }
def FnExactRootedPlaneSaid : Prop := fnExactRootedPlaneRow.holds Try.pinned (OpenSpec.ofChange fnExactRootedPlaneSpec)

/-- ITS FALSE NEIGHBOUR: 'it returns false'. Refute it at one input. -/
def fnExactRootedPlaneWrong : ChangeSpec := { name := "fnExactRootedPlane", fn := fun _ => fun
  | [d] => { results := [.lit (.bool false)], args := [d] }
  | _ => none }
def FnExactRootedPlaneWrongFalsely : Prop := fnExactRootedPlaneRow.holds Try.pinned (OpenSpec.ofChange fnExactRootedPlaneWrong)

/-- 'laws.FnExactGluingOf': WHATEVER THE INPUT: true; the input reads as it did. -/
def fnExactGluingOfSpec : ChangeSpec := { name := "fnExactGluingOf", fn := fun _ => fun
  | [d1, d2] => { results := [.lit (.bool true)], args := [d1, d2] }
  | _ => none }
def fnExactGluingOfRow : OpenClaim := { program := "ytfcgfeopmnjfjaa", sum := "79722bd295b00e17d0af40afc18328ff2bab161eebcdb9892ac3c386d5e8349d", func := "loop.example/surfacemaps/laws.FnExactGluingOf", spec := "fnExactGluingOf", unfollowed := true, recurses := true, plainKeys := false, apart := false }
def FnExactGluingOfSaid : Prop := fnExactGluingOfRow.holds Try.pinned (OpenSpec.ofChange fnExactGluingOfSpec)

/-- ITS FALSE NEIGHBOUR: 'it returns false'. Refute it at one input. -/
def fnExactGluingOfWrong : ChangeSpec := { name := "fnExactGluingOf", fn := fun _ => fun
  | [d1, d2] => { results := [.lit (.bool false)], args := [d1, d2] }
  | _ => none }
def FnExactGluingOfWrongFalsely : Prop := fnExactGluingOfRow.holds Try.pinned (OpenSpec.ofChange fnExactGluingOfWrong)

/-- 'laws.FnExactGluingColors': WHATEVER THE INPUT: true; the input reads as it did. -/
def fnExactGluingColorsSpec : ChangeSpec := { name := "fnExactGluingColors", fn := fun _ => fun
  | [d1, d2] => { results := [.lit (.bool true)], args := [d1, d2] }
  | _ => none }
def fnExactGluingColorsRow : OpenClaim := { program := "ytfcgfeopmnjfjaa", sum := "79722bd295b00e17d0af40afc18328ff2bab161eebcdb9892ac3c386d5e8349d", func := "loop.example/surfacemaps/laws.FnExactGluingColors", spec := "fnExactGluingColors", plainKeys := false, apart := false }
def FnExactGluingColorsSaid : Prop := fnExactGluingColorsRow.holds Try.pinned (OpenSpec.ofChange fnExactGluingColorsSpec)

/-- ITS FALSE NEIGHBOUR: 'it returns false'. Refute it at one input. -/
def fnExactGluingColorsWrong : ChangeSpec := { name := "fnExactGluingColors", fn := fun _ => fun
  | [d1, d2] => { results := [.lit (.bool false)], args := [d1, d2] }
  | _ => none }
def FnExactGluingColorsWrongFalsely : Prop := fnExactGluingColorsRow.holds Try.pinned (OpenSpec.ofChange fnExactGluingColorsWrong)

/-- 'laws.FnExactTreesMany': WHATEVER THE INPUT: true; the input reads as it did. -/
def fnExactTreesManySpec : ChangeSpec := { name := "fnExactTreesMany", fn := fun _ => fun
  | [d] => { results := [.lit (.bool true)], args := [d] }
  | _ => none }
def fnExactTreesManyRow : OpenClaim := { program := "ytfcgfeopmnjfjaa", sum := "79722bd295b00e17d0af40afc18328ff2bab161eebcdb9892ac3c386d5e8349d", func := "loop.example/surfacemaps/laws.FnExactTreesMany", spec := "fnExactTreesMany", plainKeys := false, apart := false }
def FnExactTreesManySaid : Prop := fnExactTreesManyRow.holds Try.pinned (OpenSpec.ofChange fnExactTreesManySpec)

/-- ITS FALSE NEIGHBOUR: 'it returns false'. Refute it at one input. -/
def fnExactTreesManyWrong : ChangeSpec := { name := "fnExactTreesMany", fn := fun _ => fun
  | [d] => { results := [.lit (.bool false)], args := [d] }
  | _ => none }
def FnExactTreesManyWrongFalsely : Prop := fnExactTreesManyRow.holds Try.pinned (OpenSpec.ofChange fnExactTreesManyWrong)

/-- 'laws.FnCorners': WHATEVER THE INPUT: true; the input reads as it did. -/
def fnCornersSpec : ChangeSpec := { name := "fnCorners", fn := fun _ => fun
  | [d] => { results := [.lit (.bool true)], args := [d] }
  | _ => none }
def fnCornersRow : OpenClaim := { program := "ytfcgfeopmnjfjaa", sum := "79722bd295b00e17d0af40afc18328ff2bab161eebcdb9892ac3c386d5e8349d", func := "loop.example/surfacemaps/laws.FnCorners", spec := "fnCorners", unfollowed := true, recurses := true, plainKeys := false, apart := false }
def FnCornersSaid : Prop := fnCornersRow.holds Try.pinned (OpenSpec.ofChange fnCornersSpec)

/-- ITS FALSE NEIGHBOUR: 'it returns false'. Refute it at one input. -/
def fnCornersWrong : ChangeSpec := { name := "fnCorners", fn := fun _ => fun
  | [d] => { results := [.lit (.bool false)], args := [d] }
  | _ => none }
def FnCornersWrongFalsely : Prop := fnCornersRow.holds Try.pinned (OpenSpec.ofChange fnCornersWrong)

/-- 'laws.FnGluingGenus': WHATEVER THE INPUT: true; the input reads as it did. -/
def fnGluingGenusSpec : ChangeSpec := { name := "fnGluingGenus", fn := fun _ => fun
  | [d] => { results := [.lit (.bool true)], args := [d] }
  | _ => none }
def fnGluingGenusRow : OpenClaim := { program := "ytfcgfeopmnjfjaa", sum := "79722bd295b00e17d0af40afc18328ff2bab161eebcdb9892ac3c386d5e8349d", func := "loop.example/surfacemaps/laws.FnGluingGenus", spec := "fnGluingGenus", unfollowed := true, recurses := true, plainKeys := false, apart := false }
def FnGluingGenusSaid : Prop := fnGluingGenusRow.holds Try.pinned (OpenSpec.ofChange fnGluingGenusSpec)

/-- ITS FALSE NEIGHBOUR: 'it returns false'. Refute it at one input. -/
def fnGluingGenusWrong : ChangeSpec := { name := "fnGluingGenus", fn := fun _ => fun
  | [d] => { results := [.lit (.bool false)], args := [d] }
  | _ => none }
def FnGluingGenusWrongFalsely : Prop := fnGluingGenusRow.holds Try.pinned (OpenSpec.ofChange fnGluingGenusWrong)

/-- 'laws.FnGluingTurn': WHATEVER THE INPUT: true; the input reads as it did. -/
def fnGluingTurnSpec : ChangeSpec := { name := "fnGluingTurn", fn := fun _ => fun
  | [d] => { results := [.lit (.bool true)], args := [d] }
  | _ => none }
def fnGluingTurnRow : OpenClaim := { program := "ytfcgfeopmnjfjaa", sum := "79722bd295b00e17d0af40afc18328ff2bab161eebcdb9892ac3c386d5e8349d", func := "loop.example/surfacemaps/laws.FnGluingTurn", spec := "fnGluingTurn", unfollowed := true, recurses := true, plainKeys := false, apart := false }
def FnGluingTurnSaid : Prop := fnGluingTurnRow.holds Try.pinned (OpenSpec.ofChange fnGluingTurnSpec)

/-- ITS FALSE NEIGHBOUR: 'it returns false'. Refute it at one input. -/
def fnGluingTurnWrong : ChangeSpec := { name := "fnGluingTurn", fn := fun _ => fun
  | [d] => { results := [.lit (.bool false)], args := [d] }
  | _ => none }
def FnGluingTurnWrongFalsely : Prop := fnGluingTurnRow.holds Try.pinned (OpenSpec.ofChange fnGluingTurnWrong)

/-- 'laws.FnGluingMap': WHATEVER THE INPUT: true; the input reads as it did. -/
def fnGluingMapSpec : ChangeSpec := { name := "fnGluingMap", fn := fun _ => fun
  | [d] => { results := [.lit (.bool true)], args := [d] }
  | _ => none }
def fnGluingMapRow : OpenClaim := { program := "ytfcgfeopmnjfjaa", sum := "79722bd295b00e17d0af40afc18328ff2bab161eebcdb9892ac3c386d5e8349d", func := "loop.example/surfacemaps/laws.FnGluingMap", spec := "fnGluingMap", unfollowed := true, recurses := true, plainKeys := false, apart := false }
def FnGluingMapSaid : Prop := fnGluingMapRow.holds Try.pinned (OpenSpec.ofChange fnGluingMapSpec)

/-- ITS FALSE NEIGHBOUR: 'it returns false'. Refute it at one input. -/
def fnGluingMapWrong : ChangeSpec := { name := "fnGluingMap", fn := fun _ => fun
  | [d] => { results := [.lit (.bool false)], args := [d] }
  | _ => none }
def FnGluingMapWrongFalsely : Prop := fnGluingMapRow.holds Try.pinned (OpenSpec.ofChange fnGluingMapWrong)

/-- 'laws.FnGluingOf': WHATEVER THE INPUT: true; the input reads as it did. -/
def fnGluingOfSpec : ChangeSpec := { name := "fnGluingOf", fn := fun _ => fun
  | [d] => { results := [.lit (.bool true)], args := [d] }
  | _ => none }
def fnGluingOfRow : OpenClaim := { program := "ytfcgfeopmnjfjaa", sum := "79722bd295b00e17d0af40afc18328ff2bab161eebcdb9892ac3c386d5e8349d", func := "loop.example/surfacemaps/laws.FnGluingOf", spec := "fnGluingOf", unfollowed := true, recurses := true, plainKeys := false, apart := false }
def FnGluingOfSaid : Prop := fnGluingOfRow.holds Try.pinned (OpenSpec.ofChange fnGluingOfSpec)

/-- ITS FALSE NEIGHBOUR: 'it returns false'. Refute it at one input. -/
def fnGluingOfWrong : ChangeSpec := { name := "fnGluingOf", fn := fun _ => fun
  | [d] => { results := [.lit (.bool false)], args := [d] }
  | _ => none }
def FnGluingOfWrongFalsely : Prop := fnGluingOfRow.holds Try.pinned (OpenSpec.ofChange fnGluingOfWrong)

/- THE SECOND FORM. 'bulk': how many values and letters a reading holds, each counted each time it is reached (what is shared counts as often as it is met; a slice's spare places count too). A statement '..UptoSaid' is the law's where the arguments, and the package variables that the reading takes, are together of bulk at most 1048576: NARROWER than '..Said'. Prove '..Said' where nothing that the law and all that it calls make is longer than what came in: it says more and counts as full. Else prove '..UptoSaid'. A law counts once. -/
mutual
def uptoBulk {H : Type} : DataW H → Nat
  | .lit (.string bytes) => bytes.length + 1
  | .lit _ => 1
  | .nil => 1
  | .ptr d => uptoBulk d + 1
  | .slice elems spare => uptoBulkAll elems + uptoBulkAll spare + 1
  | .agg parts => uptoBulkAll parts + 1
  | .iface _ d => uptoBulk d + 1
  | .map entries => uptoBulkEntries entries + 1
  | .held _ => 1
def uptoBulkAll {H : Type} : List (DataW H) → Nat
  | [] => 0
  | d :: r => uptoBulk d + uptoBulkAll r
def uptoBulkEntries {H : Type} : List (Lit × DataW H) → Nat
  | [] => 0
  | x :: r => uptoBulkEntry x + uptoBulkEntries r
def uptoBulkEntry {H : Type} : Lit × DataW H → Nat
  | (.string bytes, d) => bytes.length + uptoBulk d + 1
  | (_, d) => uptoBulk d + 1
 end
def uptoSmall : (H : Type) → List (DataW H) → Bool := fun _ ds => decide (uptoBulkAll ds ≤ 1048576)
def OpenSpec.upto (s : _root_.Go.ChangeSpec) : _root_.Go.OpenSpec := { _root_.Go.OpenSpec.ofChange s with cond := some uptoSmall }

/-- 'laws.FnRun', WHERE WHAT IT READS IS OF BULK AT MOST 1048576: true; the input reads as it did. -/
def fnRunUptoRow : OpenClaim := { program := "ytfcgfeopmnjfjaa", sum := "79722bd295b00e17d0af40afc18328ff2bab161eebcdb9892ac3c386d5e8349d", func := "loop.example/surfacemaps/laws.FnRun", spec := "fnRun", unfollowed := true, recurses := true, plainKeys := false, apart := false, narrowed := true }
def FnRunUptoSaid : Prop := fnRunUptoRow.holds Try.pinned (OpenSpec.upto fnRunSpec)

/-- 'laws.FnPlane', WHERE WHAT IT READS IS OF BULK AT MOST 1048576: true; the input reads as it did. -/
def fnPlaneUptoRow : OpenClaim := { program := "ytfcgfeopmnjfjaa", sum := "79722bd295b00e17d0af40afc18328ff2bab161eebcdb9892ac3c386d5e8349d", func := "loop.example/surfacemaps/laws.FnPlane", spec := "fnPlane", unfollowed := true, recurses := true, plainKeys := false, apart := false, narrowed := true }
def FnPlaneUptoSaid : Prop := fnPlaneUptoRow.holds Try.pinned (OpenSpec.upto fnPlaneSpec)

/-- 'laws.FnColors', WHERE WHAT IT READS IS OF BULK AT MOST 1048576: true; the input reads as it did. -/
def fnColorsUptoRow : OpenClaim := { program := "ytfcgfeopmnjfjaa", sum := "79722bd295b00e17d0af40afc18328ff2bab161eebcdb9892ac3c386d5e8349d", func := "loop.example/surfacemaps/laws.FnColors", spec := "fnColors", unfollowed := true, recurses := true, plainKeys := false, apart := false, narrowed := true }
def FnColorsUptoSaid : Prop := fnColorsUptoRow.holds Try.pinned (OpenSpec.upto fnColorsSpec)

/-- 'laws.FnTreesMany', WHERE WHAT IT READS IS OF BULK AT MOST 1048576: true; the input reads as it did. -/
def fnTreesManyUptoRow : OpenClaim := { program := "ytfcgfeopmnjfjaa", sum := "79722bd295b00e17d0af40afc18328ff2bab161eebcdb9892ac3c386d5e8349d", func := "loop.example/surfacemaps/laws.FnTreesMany", spec := "fnTreesMany", plainKeys := false, apart := false, narrowed := true }
def FnTreesManyUptoSaid : Prop := fnTreesManyUptoRow.holds Try.pinned (OpenSpec.upto fnTreesManySpec)

/-- 'laws.FnExactRootedPlane', WHERE WHAT IT READS IS OF BULK AT MOST 1048576: true; the input reads as it did. -/
def fnExactRootedPlaneUptoRow : OpenClaim := { program := "ytfcgfeopmnjfjaa", sum := "79722bd295b00e17d0af40afc18328ff2bab161eebcdb9892ac3c386d5e8349d", func := "loop.example/surfacemaps/laws.FnExactRootedPlane", spec := "fnExactRootedPlane", plainKeys := false, apart := false, narrowed := true }
def FnExactRootedPlaneUptoSaid : Prop := fnExactRootedPlaneUptoRow.holds Try.pinned (OpenSpec.upto fnExactRootedPlaneSpec)

/-- 'laws.FnExactGluingOf', WHERE WHAT IT READS IS OF BULK AT MOST 1048576: true; the input reads as it did. -/
def fnExactGluingOfUptoRow : OpenClaim := { program := "ytfcgfeopmnjfjaa", sum := "79722bd295b00e17d0af40afc18328ff2bab161eebcdb9892ac3c386d5e8349d", func := "loop.example/surfacemaps/laws.FnExactGluingOf", spec := "fnExactGluingOf", unfollowed := true, recurses := true, plainKeys := false, apart := false, narrowed := true }
def FnExactGluingOfUptoSaid : Prop := fnExactGluingOfUptoRow.holds Try.pinned (OpenSpec.upto fnExactGluingOfSpec)

/-- 'laws.FnExactGluingColors', WHERE WHAT IT READS IS OF BULK AT MOST 1048576: true; the input reads as it did. -/
def fnExactGluingColorsUptoRow : OpenClaim := { program := "ytfcgfeopmnjfjaa", sum := "79722bd295b00e17d0af40afc18328ff2bab161eebcdb9892ac3c386d5e8349d", func := "loop.example/surfacemaps/laws.FnExactGluingColors", spec := "fnExactGluingColors", plainKeys := false, apart := false, narrowed := true }
def FnExactGluingColorsUptoSaid : Prop := fnExactGluingColorsUptoRow.holds Try.pinned (OpenSpec.upto fnExactGluingColorsSpec)

/-- 'laws.FnExactTreesMany', WHERE WHAT IT READS IS OF BULK AT MOST 1048576: true; the input reads as it did. -/
def fnExactTreesManyUptoRow : OpenClaim := { program := "ytfcgfeopmnjfjaa", sum := "79722bd295b00e17d0af40afc18328ff2bab161eebcdb9892ac3c386d5e8349d", func := "loop.example/surfacemaps/laws.FnExactTreesMany", spec := "fnExactTreesMany", plainKeys := false, apart := false, narrowed := true }
def FnExactTreesManyUptoSaid : Prop := fnExactTreesManyUptoRow.holds Try.pinned (OpenSpec.upto fnExactTreesManySpec)

/-- 'laws.FnCorners', WHERE WHAT IT READS IS OF BULK AT MOST 1048576: true; the input reads as it did. -/
def fnCornersUptoRow : OpenClaim := { program := "ytfcgfeopmnjfjaa", sum := "79722bd295b00e17d0af40afc18328ff2bab161eebcdb9892ac3c386d5e8349d", func := "loop.example/surfacemaps/laws.FnCorners", spec := "fnCorners", unfollowed := true, recurses := true, plainKeys := false, apart := false, narrowed := true }
def FnCornersUptoSaid : Prop := fnCornersUptoRow.holds Try.pinned (OpenSpec.upto fnCornersSpec)

/-- 'laws.FnGluingGenus', WHERE WHAT IT READS IS OF BULK AT MOST 1048576: true; the input reads as it did. -/
def fnGluingGenusUptoRow : OpenClaim := { program := "ytfcgfeopmnjfjaa", sum := "79722bd295b00e17d0af40afc18328ff2bab161eebcdb9892ac3c386d5e8349d", func := "loop.example/surfacemaps/laws.FnGluingGenus", spec := "fnGluingGenus", unfollowed := true, recurses := true, plainKeys := false, apart := false, narrowed := true }
def FnGluingGenusUptoSaid : Prop := fnGluingGenusUptoRow.holds Try.pinned (OpenSpec.upto fnGluingGenusSpec)

/-- 'laws.FnGluingTurn', WHERE WHAT IT READS IS OF BULK AT MOST 1048576: true; the input reads as it did. -/
def fnGluingTurnUptoRow : OpenClaim := { program := "ytfcgfeopmnjfjaa", sum := "79722bd295b00e17d0af40afc18328ff2bab161eebcdb9892ac3c386d5e8349d", func := "loop.example/surfacemaps/laws.FnGluingTurn", spec := "fnGluingTurn", unfollowed := true, recurses := true, plainKeys := false, apart := false, narrowed := true }
def FnGluingTurnUptoSaid : Prop := fnGluingTurnUptoRow.holds Try.pinned (OpenSpec.upto fnGluingTurnSpec)

/-- 'laws.FnGluingMap', WHERE WHAT IT READS IS OF BULK AT MOST 1048576: true; the input reads as it did. -/
def fnGluingMapUptoRow : OpenClaim := { program := "ytfcgfeopmnjfjaa", sum := "79722bd295b00e17d0af40afc18328ff2bab161eebcdb9892ac3c386d5e8349d", func := "loop.example/surfacemaps/laws.FnGluingMap", spec := "fnGluingMap", unfollowed := true, recurses := true, plainKeys := false, apart := false, narrowed := true }
def FnGluingMapUptoSaid : Prop := fnGluingMapUptoRow.holds Try.pinned (OpenSpec.upto fnGluingMapSpec)

/-- 'laws.FnGluingOf', WHERE WHAT IT READS IS OF BULK AT MOST 1048576: true; the input reads as it did. -/
def fnGluingOfUptoRow : OpenClaim := { program := "ytfcgfeopmnjfjaa", sum := "79722bd295b00e17d0af40afc18328ff2bab161eebcdb9892ac3c386d5e8349d", func := "loop.example/surfacemaps/laws.FnGluingOf", spec := "fnGluingOf", unfollowed := true, recurses := true, plainKeys := false, apart := false, narrowed := true }
def FnGluingOfUptoSaid : Prop := fnGluingOfUptoRow.holds Try.pinned (OpenSpec.upto fnGluingOfSpec)

end Rows
end Go.Proofs.Ytfcgfeopmnjfjaa
