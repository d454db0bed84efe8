/-
  No cell of these rows narrows 'for every input' (looked for: loops, veiled, ifaces, maps, wideKeys, modest, calm, conditions, laid).
  DERIVED. THE GIVEN ROWS OF THIS SEAT. 10 by the template 'for every input the law returns true; each argument reads behind the call as it read before'; 0 by the template 'total and deterministic' (their statements: YtcahnldbamjikaaTotals.lean).
  GIVEN WITH THE SEED: the statements are not yours to turn. If you find one false, say at which input.
  Laid BY PROGRAM, IN A SANDBOX (cutbox-rows.mjs): the forced cells as the released guide's own fill.sh prints them over the translation ca4a1b01f63c9751… (all of the seat's roots in one cut). By AI agents, Wed Nov 11 2026. No macro, syntax, notation, axiom, sorry.
-/
import Derived.Test.YtcahnldbamjikaaChecked
import GoSem.Claim
import GoSem.ClaimJoined
import GoSem.ClaimMapViews
import Derived.JoinedTies
import Derived.KernelRfl
namespace Go.Proofs.Ytcahnldbamjikaa
/- THE CELL 'sum', in the pinned program and in every row, IS THE sha256 OF THE DUMP (.gsa) THAT YtcahnldbamjikaaProg.lean LOADS. Nothing in Lean hashes anything: it is a label: what it is worth is what the hold of that sum in a sandbox is worth. -/
noncomputable def Try.pinned : Pinned := { name := "ytcahnldbamjikaa", sum := "ca4a1b01f63c9751305446f293f1f9ab01bf653c202275e9815a94f2b0ee2282", checked := Try.checked }
namespace Rows
def none {H : Type} : Left H := { results := [], args := [] }

/-- 'laws.FnExactGluingValid': WHATEVER THE INPUT: true; the input reads as it did. -/
def fnExactGluingValidSpec : ChangeSpec := { name := "fnExactGluingValid", fn := fun _ => fun
  | [d] => { results := [.lit (.bool true)], args := [d] }
  | _ => none }
def fnExactGluingValidRow : OpenClaim := { program := "ytcahnldbamjikaa", sum := "ca4a1b01f63c9751305446f293f1f9ab01bf653c202275e9815a94f2b0ee2282", func := "loop.example/surfacemaps/laws.FnExactGluingValid", spec := "fnExactGluingValid", apart := false }
def FnExactGluingValidSaid : Prop := fnExactGluingValidRow.holds Try.pinned (OpenSpec.ofChange fnExactGluingValidSpec)

/-- ITS FALSE NEIGHBOUR: 'it returns false'. Refute it at one input. -/
def fnExactGluingValidWrong : ChangeSpec := { name := "fnExactGluingValid", fn := fun _ => fun
  | [d] => { results := [.lit (.bool false)], args := [d] }
  | _ => none }
def FnExactGluingValidWrongFalsely : Prop := fnExactGluingValidRow.holds Try.pinned (OpenSpec.ofChange fnExactGluingValidWrong)

/-- 'laws.FnExactGluingCorners': WHATEVER THE INPUT: true; the input reads as it did. -/
def fnExactGluingCornersSpec : ChangeSpec := { name := "fnExactGluingCorners", fn := fun _ => fun
  | [d] => { results := [.lit (.bool true)], args := [d] }
  | _ => none }
def fnExactGluingCornersRow : OpenClaim := { program := "ytcahnldbamjikaa", sum := "ca4a1b01f63c9751305446f293f1f9ab01bf653c202275e9815a94f2b0ee2282", func := "loop.example/surfacemaps/laws.FnExactGluingCorners", spec := "fnExactGluingCorners", unfollowed := true, recurses := true, apart := false }
def FnExactGluingCornersSaid : Prop := fnExactGluingCornersRow.holds Try.pinned (OpenSpec.ofChange fnExactGluingCornersSpec)

/-- ITS FALSE NEIGHBOUR: 'it returns false'. Refute it at one input. -/
def fnExactGluingCornersWrong : ChangeSpec := { name := "fnExactGluingCorners", fn := fun _ => fun
  | [d] => { results := [.lit (.bool false)], args := [d] }
  | _ => none }
def FnExactGluingCornersWrongFalsely : Prop := fnExactGluingCornersRow.holds Try.pinned (OpenSpec.ofChange fnExactGluingCornersWrong)

/-- 'laws.FnExactGluingGenus': WHATEVER THE INPUT: true; the input reads as it did. -/
def fnExactGluingGenusSpec : ChangeSpec := { name := "fnExactGluingGenus", fn := fun _ => fun
  | [d] => { results := [.lit (.bool true)], args := [d] }
  | _ => none }
def fnExactGluingGenusRow : OpenClaim := { program := "ytcahnldbamjikaa", sum := "ca4a1b01f63c9751305446f293f1f9ab01bf653c202275e9815a94f2b0ee2282", func := "loop.example/surfacemaps/laws.FnExactGluingGenus", spec := "fnExactGluingGenus", unfollowed := true, recurses := true, apart := false }
def FnExactGluingGenusSaid : Prop := fnExactGluingGenusRow.holds Try.pinned (OpenSpec.ofChange fnExactGluingGenusSpec)

/-- ITS FALSE NEIGHBOUR: 'it returns false'. Refute it at one input. -/
def fnExactGluingGenusWrong : ChangeSpec := { name := "fnExactGluingGenus", fn := fun _ => fun
  | [d] => { results := [.lit (.bool false)], args := [d] }
  | _ => none }
def FnExactGluingGenusWrongFalsely : Prop := fnExactGluingGenusRow.holds Try.pinned (OpenSpec.ofChange fnExactGluingGenusWrong)

/-- 'laws.FnExactGluingChord': WHATEVER THE INPUT: true; the input reads as it did. -/
def fnExactGluingChordSpec : ChangeSpec := { name := "fnExactGluingChord", fn := fun _ => fun
  | [d] => { results := [.lit (.bool true)], args := [d] }
  | _ => none }
def fnExactGluingChordRow : OpenClaim := { program := "ytcahnldbamjikaa", sum := "ca4a1b01f63c9751305446f293f1f9ab01bf653c202275e9815a94f2b0ee2282", func := "loop.example/surfacemaps/laws.FnExactGluingChord", spec := "fnExactGluingChord", apart := false }
def FnExactGluingChordSaid : Prop := fnExactGluingChordRow.holds Try.pinned (OpenSpec.ofChange fnExactGluingChordSpec)

/-- ITS FALSE NEIGHBOUR: 'it returns false'. Refute it at one input. -/
def fnExactGluingChordWrong : ChangeSpec := { name := "fnExactGluingChord", fn := fun _ => fun
  | [d] => { results := [.lit (.bool false)], args := [d] }
  | _ => none }
def FnExactGluingChordWrongFalsely : Prop := fnExactGluingChordRow.holds Try.pinned (OpenSpec.ofChange fnExactGluingChordWrong)

/-- 'laws.FnExactGluingPlanar': WHATEVER THE INPUT: true; the input reads as it did. -/
def fnExactGluingPlanarSpec : ChangeSpec := { name := "fnExactGluingPlanar", fn := fun _ => fun
  | [d] => { results := [.lit (.bool true)], args := [d] }
  | _ => none }
def fnExactGluingPlanarRow : OpenClaim := { program := "ytcahnldbamjikaa", sum := "ca4a1b01f63c9751305446f293f1f9ab01bf653c202275e9815a94f2b0ee2282", func := "loop.example/surfacemaps/laws.FnExactGluingPlanar", spec := "fnExactGluingPlanar", apart := false }
def FnExactGluingPlanarSaid : Prop := fnExactGluingPlanarRow.holds Try.pinned (OpenSpec.ofChange fnExactGluingPlanarSpec)

/-- ITS FALSE NEIGHBOUR: 'it returns false'. Refute it at one input. -/
def fnExactGluingPlanarWrong : ChangeSpec := { name := "fnExactGluingPlanar", fn := fun _ => fun
  | [d] => { results := [.lit (.bool false)], args := [d] }
  | _ => none }
def FnExactGluingPlanarWrongFalsely : Prop := fnExactGluingPlanarRow.holds Try.pinned (OpenSpec.ofChange fnExactGluingPlanarWrong)

/-- 'laws.FnExactGluingTurn': WHATEVER THE INPUT: true; the input reads as it did. -/
def fnExactGluingTurnSpec : ChangeSpec := { name := "fnExactGluingTurn", fn := fun _ => fun
  | [d] => { results := [.lit (.bool true)], args := [d] }
  | _ => none }
def fnExactGluingTurnRow : OpenClaim := { program := "ytcahnldbamjikaa", sum := "ca4a1b01f63c9751305446f293f1f9ab01bf653c202275e9815a94f2b0ee2282", func := "loop.example/surfacemaps/laws.FnExactGluingTurn", spec := "fnExactGluingTurn", apart := false }
def FnExactGluingTurnSaid : Prop := fnExactGluingTurnRow.holds Try.pinned (OpenSpec.ofChange fnExactGluingTurnSpec)

/-- ITS FALSE NEIGHBOUR: 'it returns false'. Refute it at one input. -/
def fnExactGluingTurnWrong : ChangeSpec := { name := "fnExactGluingTurn", fn := fun _ => fun
  | [d] => { results := [.lit (.bool false)], args := [d] }
  | _ => none }
def FnExactGluingTurnWrongFalsely : Prop := fnExactGluingTurnRow.holds Try.pinned (OpenSpec.ofChange fnExactGluingTurnWrong)

/-- 'laws.FnExactGluingMap': WHATEVER THE INPUT: true; the input reads as it did. -/
def fnExactGluingMapSpec : ChangeSpec := { name := "fnExactGluingMap", fn := fun _ => fun
  | [d] => { results := [.lit (.bool true)], args := [d] }
  | _ => none }
def fnExactGluingMapRow : OpenClaim := { program := "ytcahnldbamjikaa", sum := "ca4a1b01f63c9751305446f293f1f9ab01bf653c202275e9815a94f2b0ee2282", func := "loop.example/surfacemaps/laws.FnExactGluingMap", spec := "fnExactGluingMap", apart := false }
def FnExactGluingMapSaid : Prop := fnExactGluingMapRow.holds Try.pinned (OpenSpec.ofChange fnExactGluingMapSpec)

/-- ITS FALSE NEIGHBOUR: 'it returns false'. Refute it at one input. -/
def fnExactGluingMapWrong : ChangeSpec := { name := "fnExactGluingMap", fn := fun _ => fun
  | [d] => { results := [.lit (.bool false)], args := [d] }
  | _ => none }
def FnExactGluingMapWrongFalsely : Prop := fnExactGluingMapRow.holds Try.pinned (OpenSpec.ofChange fnExactGluingMapWrong)

/-- 'laws.FnExactGluingOf': WHATEVER THE INPUT: true; the input reads as it did. -/
def fnExactGluingOfSpec : ChangeSpec := { name := "fnExactGluingOf", fn := fun _ => fun
  | [d1, d2] => { results := [.lit (.bool true)], args := [d1, d2] }
  | _ => none }
def fnExactGluingOfRow : OpenClaim := { program := "ytcahnldbamjikaa", sum := "ca4a1b01f63c9751305446f293f1f9ab01bf653c202275e9815a94f2b0ee2282", func := "loop.example/surfacemaps/laws.FnExactGluingOf", spec := "fnExactGluingOf", unfollowed := true, recurses := true, apart := false }
def FnExactGluingOfSaid : Prop := fnExactGluingOfRow.holds Try.pinned (OpenSpec.ofChange fnExactGluingOfSpec)

/-- ITS FALSE NEIGHBOUR: 'it returns false'. Refute it at one input. -/
def fnExactGluingOfWrong : ChangeSpec := { name := "fnExactGluingOf", fn := fun _ => fun
  | [d1, d2] => { results := [.lit (.bool false)], args := [d1, d2] }
  | _ => none }
def FnExactGluingOfWrongFalsely : Prop := fnExactGluingOfRow.holds Try.pinned (OpenSpec.ofChange fnExactGluingOfWrong)

/-- 'laws.FnChord': WHATEVER THE INPUT: true; the input reads as it did. -/
def fnChordSpec : ChangeSpec := { name := "fnChord", fn := fun _ => fun
  | [d] => { results := [.lit (.bool true)], args := [d] }
  | _ => none }
def fnChordRow : OpenClaim := { program := "ytcahnldbamjikaa", sum := "ca4a1b01f63c9751305446f293f1f9ab01bf653c202275e9815a94f2b0ee2282", func := "loop.example/surfacemaps/laws.FnChord", spec := "fnChord", apart := false }
def FnChordSaid : Prop := fnChordRow.holds Try.pinned (OpenSpec.ofChange fnChordSpec)

/-- ITS FALSE NEIGHBOUR: 'it returns false'. Refute it at one input. -/
def fnChordWrong : ChangeSpec := { name := "fnChord", fn := fun _ => fun
  | [d] => { results := [.lit (.bool false)], args := [d] }
  | _ => none }
def FnChordWrongFalsely : Prop := fnChordRow.holds Try.pinned (OpenSpec.ofChange fnChordWrong)

/-- 'laws.FnGluingPlanar': WHATEVER THE INPUT: true; the input reads as it did. -/
def fnGluingPlanarSpec : ChangeSpec := { name := "fnGluingPlanar", fn := fun _ => fun
  | [d] => { results := [.lit (.bool true)], args := [d] }
  | _ => none }
def fnGluingPlanarRow : OpenClaim := { program := "ytcahnldbamjikaa", sum := "ca4a1b01f63c9751305446f293f1f9ab01bf653c202275e9815a94f2b0ee2282", func := "loop.example/surfacemaps/laws.FnGluingPlanar", spec := "fnGluingPlanar", unfollowed := true, recurses := true, apart := false }
def FnGluingPlanarSaid : Prop := fnGluingPlanarRow.holds Try.pinned (OpenSpec.ofChange fnGluingPlanarSpec)

/-- ITS FALSE NEIGHBOUR: 'it returns false'. Refute it at one input. -/
def fnGluingPlanarWrong : ChangeSpec := { name := "fnGluingPlanar", fn := fun _ => fun
  | [d] => { results := [.lit (.bool false)], args := [d] }
  | _ => none }
def FnGluingPlanarWrongFalsely : Prop := fnGluingPlanarRow.holds Try.pinned (OpenSpec.ofChange fnGluingPlanarWrong)

/- THE SECOND FORM. 'bulk': how many values and letters a reading holds, each counted each time it is reached (what is shared counts as often as it is met; a slice's spare places count too). A statement '..UptoSaid' is the law's where the arguments, and the package variables that the reading takes, are together of bulk at most 1048576: NARROWER than '..Said'. Prove '..Said' where nothing that the law and all that it calls make is longer than what came in: it says more and counts as full. Else prove '..UptoSaid'. A law counts once. -/
mutual
def uptoBulk {H : Type} : DataW H → Nat
  | .lit (.string bytes) => bytes.length + 1
  | .lit _ => 1
  | .nil => 1
  | .ptr d => uptoBulk d + 1
  | .slice elems spare => uptoBulkAll elems + uptoBulkAll spare + 1
  | .agg parts => uptoBulkAll parts + 1
  | .iface _ d => uptoBulk d + 1
  | .map entries => uptoBulkEntries entries + 1
  | .held _ => 1
def uptoBulkAll {H : Type} : List (DataW H) → Nat
  | [] => 0
  | d :: r => uptoBulk d + uptoBulkAll r
def uptoBulkEntries {H : Type} : List (Lit × DataW H) → Nat
  | [] => 0
  | x :: r => uptoBulkEntry x + uptoBulkEntries r
def uptoBulkEntry {H : Type} : Lit × DataW H → Nat
  | (.string bytes, d) => bytes.length + uptoBulk d + 1
  | (_, d) => uptoBulk d + 1
 end
def uptoSmall : (H : Type) → List (DataW H) → Bool := fun _ ds => decide (uptoBulkAll ds ≤ 1048576)
def OpenSpec.upto (s : _root_.Go.ChangeSpec) : _root_.Go.OpenSpec := { _root_.Go.OpenSpec.ofChange s with cond := some uptoSmall }

/-- 'laws.FnExactGluingValid', WHERE WHAT IT READS IS OF BULK AT MOST 1048576: true; the input reads as it did. -/
def fnExactGluingValidUptoRow : OpenClaim := { program := "ytcahnldbamjikaa", sum := "ca4a1b01f63c9751305446f293f1f9ab01bf653c202275e9815a94f2b0ee2282", func := "loop.example/surfacemaps/laws.FnExactGluingValid", spec := "fnExactGluingValid", apart := false, narrowed := true }
def FnExactGluingValidUptoSaid : Prop := fnExactGluingValidUptoRow.holds Try.pinned (OpenSpec.upto fnExactGluingValidSpec)

/-- 'laws.FnExactGluingCorners', WHERE WHAT IT READS IS OF BULK AT MOST 1048576: true; the input reads as it did. -/
def fnExactGluingCornersUptoRow : OpenClaim := { program := "ytcahnldbamjikaa", sum := "ca4a1b01f63c9751305446f293f1f9ab01bf653c202275e9815a94f2b0ee2282", func := "loop.example/surfacemaps/laws.FnExactGluingCorners", spec := "fnExactGluingCorners", unfollowed := true, recurses := true, apart := false, narrowed := true }
def FnExactGluingCornersUptoSaid : Prop := fnExactGluingCornersUptoRow.holds Try.pinned (OpenSpec.upto fnExactGluingCornersSpec)

/-- 'laws.FnExactGluingGenus', WHERE WHAT IT READS IS OF BULK AT MOST 1048576: true; the input reads as it did. -/
def fnExactGluingGenusUptoRow : OpenClaim := { program := "ytcahnldbamjikaa", sum := "ca4a1b01f63c9751305446f293f1f9ab01bf653c202275e9815a94f2b0ee2282", func := "loop.example/surfacemaps/laws.FnExactGluingGenus", spec := "fnExactGluingGenus", unfollowed := true, recurses := true, apart := false, narrowed := true }
def FnExactGluingGenusUptoSaid : Prop := fnExactGluingGenusUptoRow.holds Try.pinned (OpenSpec.upto fnExactGluingGenusSpec)

/-- 'laws.FnExactGluingChord', WHERE WHAT IT READS IS OF BULK AT MOST 1048576: true; the input reads as it did. -/
def fnExactGluingChordUptoRow : OpenClaim := { program := "ytcahnldbamjikaa", sum := "ca4a1b01f63c9751305446f293f1f9ab01bf653c202275e9815a94f2b0ee2282", func := "loop.example/surfacemaps/laws.FnExactGluingChord", spec := "fnExactGluingChord", apart := false, narrowed := true }
def FnExactGluingChordUptoSaid : Prop := fnExactGluingChordUptoRow.holds Try.pinned (OpenSpec.upto fnExactGluingChordSpec)

/-- 'laws.FnExactGluingPlanar', WHERE WHAT IT READS IS OF BULK AT MOST 1048576: true; the input reads as it did. -/
def fnExactGluingPlanarUptoRow : OpenClaim := { program := "ytcahnldbamjikaa", sum := "ca4a1b01f63c9751305446f293f1f9ab01bf653c202275e9815a94f2b0ee2282", func := "loop.example/surfacemaps/laws.FnExactGluingPlanar", spec := "fnExactGluingPlanar", apart := false, narrowed := true }
def FnExactGluingPlanarUptoSaid : Prop := fnExactGluingPlanarUptoRow.holds Try.pinned (OpenSpec.upto fnExactGluingPlanarSpec)

/-- 'laws.FnExactGluingTurn', WHERE WHAT IT READS IS OF BULK AT MOST 1048576: true; the input reads as it did. -/
def fnExactGluingTurnUptoRow : OpenClaim := { program := "ytcahnldbamjikaa", sum := "ca4a1b01f63c9751305446f293f1f9ab01bf653c202275e9815a94f2b0ee2282", func := "loop.example/surfacemaps/laws.FnExactGluingTurn", spec := "fnExactGluingTurn", apart := false, narrowed := true }
def FnExactGluingTurnUptoSaid : Prop := fnExactGluingTurnUptoRow.holds Try.pinned (OpenSpec.upto fnExactGluingTurnSpec)

/-- 'laws.FnExactGluingMap', WHERE WHAT IT READS IS OF BULK AT MOST 1048576: true; the input reads as it did. -/
def fnExactGluingMapUptoRow : OpenClaim := { program := "ytcahnldbamjikaa", sum := "ca4a1b01f63c9751305446f293f1f9ab01bf653c202275e9815a94f2b0ee2282", func := "loop.example/surfacemaps/laws.FnExactGluingMap", spec := "fnExactGluingMap", apart := false, narrowed := true }
def FnExactGluingMapUptoSaid : Prop := fnExactGluingMapUptoRow.holds Try.pinned (OpenSpec.upto fnExactGluingMapSpec)

/-- 'laws.FnExactGluingOf', WHERE WHAT IT READS IS OF BULK AT MOST 1048576: true; the input reads as it did. -/
def fnExactGluingOfUptoRow : OpenClaim := { program := "ytcahnldbamjikaa", sum := "ca4a1b01f63c9751305446f293f1f9ab01bf653c202275e9815a94f2b0ee2282", func := "loop.example/surfacemaps/laws.FnExactGluingOf", spec := "fnExactGluingOf", unfollowed := true, recurses := true, apart := false, narrowed := true }
def FnExactGluingOfUptoSaid : Prop := fnExactGluingOfUptoRow.holds Try.pinned (OpenSpec.upto fnExactGluingOfSpec)

/-- 'laws.FnChord', WHERE WHAT IT READS IS OF BULK AT MOST 1048576: true; the input reads as it did. -/
def fnChordUptoRow : OpenClaim := { program := "ytcahnldbamjikaa", sum := "ca4a1b01f63c9751305446f293f1f9ab01bf653c202275e9815a94f2b0ee2282", func := "loop.example/surfacemaps/laws.FnChord", spec := "fnChord", apart := false, narrowed := true }
def FnChordUptoSaid : Prop := fnChordUptoRow.holds Try.pinned (OpenSpec.upto fnChordSpec)

/-- 'laws.FnGluingPlanar', WHERE WHAT IT READS IS OF BULK AT MOST 1048576: true; the input reads as it did. -/
def fnGluingPlanarUptoRow : OpenClaim := { program := "ytcahnldbamjikaa", sum := "ca4a1b01f63c9751305446f293f1f9ab01bf653c202275e9815a94f2b0ee2282", func := "loop.example/surfacemaps/laws.FnGluingPlanar", spec := "fnGluingPlanar", unfollowed := true, recurses := true, apart := false, narrowed := true }
def FnGluingPlanarUptoSaid : Prop := fnGluingPlanarUptoRow.holds Try.pinned (OpenSpec.upto fnGluingPlanarSpec)

end Rows
end Go.Proofs.Ytcahnldbamjikaa
