/-
  No cell of these rows narrows 'for every input' (looked for: loops, veiled, ifaces, maps, wideKeys, modest, calm, conditions, laid).
  DERIVED. THE GIVEN ROWS OF THIS SEAT. 5 by the template 'for every input the law returns true; each argument reads behind the call as it read before'; 0 by the template 'total and deterministic' (their statements: YtdbknfdpgooioaaTotals.lean).
  GIVEN WITH THE SEED: the statements are not yours to turn. If you find one false, say at which input.
  Laid BY PROGRAM, IN A SANDBOX (cutbox-rows.mjs): the forced cells as the released guide's own fill.sh prints them over the translation d1ed10576ce58464… (all of the seat's roots in one cut). By AI agents, Wed Nov 11 2026. No macro, syntax, notation, axiom, sorry.
-/
import Derived.Test.YtdbknfdpgooioaaChecked
import GoSem.Claim
import GoSem.ClaimJoined
import GoSem.ClaimMapViews
import Derived.JoinedTies
import Derived.KernelRfl
namespace Go.Proofs.Ytdbknfdpgooioaa
/- THE CELL 'sum', in the pinned program and in every row, IS THE sha256 OF THE DUMP (.gsa) THAT YtdbknfdpgooioaaProg.lean LOADS. Nothing in Lean hashes anything: it is a label: what it is worth is what the hold of that sum in a sandbox is worth. -/
noncomputable def Try.pinned : Pinned := { name := "ytdbknfdpgooioaa", sum := "d1ed10576ce58464f4cd9bb31716cc974d3433e9206c293db9d186ab4570c404", checked := Try.checked }
namespace Rows
def none {H : Type} : Left H := { results := [], args := [] }

/-- 'laws.FnExactQuadIs': WHATEVER THE INPUT: true; the input reads as it did. -/
def fnExactQuadIsSpec : ChangeSpec := { name := "fnExactQuadIs", fn := fun _ => fun
  | [d] => { results := [.lit (.bool true)], args := [d] }
  | _ => none }
def fnExactQuadIsRow : OpenClaim := { program := "ytdbknfdpgooioaa", sum := "d1ed10576ce58464f4cd9bb31716cc974d3433e9206c293db9d186ab4570c404", func := "loop.example/surfacemaps/laws.FnExactQuadIs", spec := "fnExactQuadIs", unfollowed := true, recurses := true, apart := false }
def FnExactQuadIsSaid : Prop := fnExactQuadIsRow.holds Try.pinned (OpenSpec.ofChange fnExactQuadIsSpec)

/-- ITS FALSE NEIGHBOUR: 'it returns false'. Refute it at one input. -/
def fnExactQuadIsWrong : ChangeSpec := { name := "fnExactQuadIs", fn := fun _ => fun
  | [d] => { results := [.lit (.bool false)], args := [d] }
  | _ => none }
def FnExactQuadIsWrongFalsely : Prop := fnExactQuadIsRow.holds Try.pinned (OpenSpec.ofChange fnExactQuadIsWrong)

/-- 'laws.FnExactTutteQuad': WHATEVER THE INPUT: true; the input reads as it did. -/
def fnExactTutteQuadSpec : ChangeSpec := { name := "fnExactTutteQuad", fn := fun _ => fun
  | [d] => { results := [.lit (.bool true)], args := [d] }
  | _ => none }
def fnExactTutteQuadRow : OpenClaim := { program := "ytdbknfdpgooioaa", sum := "d1ed10576ce58464f4cd9bb31716cc974d3433e9206c293db9d186ab4570c404", func := "loop.example/surfacemaps/laws.FnExactTutteQuad", spec := "fnExactTutteQuad", apart := false }
def FnExactTutteQuadSaid : Prop := fnExactTutteQuadRow.holds Try.pinned (OpenSpec.ofChange fnExactTutteQuadSpec)

/-- ITS FALSE NEIGHBOUR: 'it returns false'. Refute it at one input. -/
def fnExactTutteQuadWrong : ChangeSpec := { name := "fnExactTutteQuad", fn := fun _ => fun
  | [d] => { results := [.lit (.bool false)], args := [d] }
  | _ => none }
def FnExactTutteQuadWrongFalsely : Prop := fnExactTutteQuadRow.holds Try.pinned (OpenSpec.ofChange fnExactTutteQuadWrong)

/-- 'laws.FnExactTutteMap': WHATEVER THE INPUT: true; the input reads as it did. -/
def fnExactTutteMapSpec : ChangeSpec := { name := "fnExactTutteMap", fn := fun _ => fun
  | [d1, d2] => { results := [.lit (.bool true)], args := [d1, d2] }
  | _ => none }
def fnExactTutteMapRow : OpenClaim := { program := "ytdbknfdpgooioaa", sum := "d1ed10576ce58464f4cd9bb31716cc974d3433e9206c293db9d186ab4570c404", func := "loop.example/surfacemaps/laws.FnExactTutteMap", spec := "fnExactTutteMap", unfollowed := true, recurses := true, apart := false }
def FnExactTutteMapSaid : Prop := fnExactTutteMapRow.holds Try.pinned (OpenSpec.ofChange fnExactTutteMapSpec)

/-- ITS FALSE NEIGHBOUR: 'it returns false'. Refute it at one input. -/
def fnExactTutteMapWrong : ChangeSpec := { name := "fnExactTutteMap", fn := fun _ => fun
  | [d1, d2] => { results := [.lit (.bool false)], args := [d1, d2] }
  | _ => none }
def FnExactTutteMapWrongFalsely : Prop := fnExactTutteMapRow.holds Try.pinned (OpenSpec.ofChange fnExactTutteMapWrong)

/-- 'laws.FnExactQuadTree': WHATEVER THE INPUT: true; the input reads as it did. -/
def fnExactQuadTreeSpec : ChangeSpec := { name := "fnExactQuadTree", fn := fun _ => fun
  | [d1, d2, d3] => { results := [.lit (.bool true)], args := [d1, d2, d3] }
  | _ => none }
def fnExactQuadTreeRow : OpenClaim := { program := "ytdbknfdpgooioaa", sum := "d1ed10576ce58464f4cd9bb31716cc974d3433e9206c293db9d186ab4570c404", func := "loop.example/surfacemaps/laws.FnExactQuadTree", spec := "fnExactQuadTree", inPlace := ["internal/abi.NoEscape"], unfollowed := true, recurses := true, apart := false }
def FnExactQuadTreeSaid : Prop := fnExactQuadTreeRow.holds Try.pinned (OpenSpec.ofChange fnExactQuadTreeSpec)

/-- ITS FALSE NEIGHBOUR: 'it returns false'. Refute it at one input. -/
def fnExactQuadTreeWrong : ChangeSpec := { name := "fnExactQuadTree", fn := fun _ => fun
  | [d1, d2, d3] => { results := [.lit (.bool false)], args := [d1, d2, d3] }
  | _ => none }
def FnExactQuadTreeWrongFalsely : Prop := fnExactQuadTreeRow.holds Try.pinned (OpenSpec.ofChange fnExactQuadTreeWrong)

/-- 'laws.FnExactMapFar': WHATEVER THE INPUT: true; the input reads as it did. -/
def fnExactMapFarSpec : ChangeSpec := { name := "fnExactMapFar", fn := fun _ => fun
  | [d1, d2, d3] => { results := [.lit (.bool true)], args := [d1, d2, d3] }
  | _ => none }
def fnExactMapFarRow : OpenClaim := { program := "ytdbknfdpgooioaa", sum := "d1ed10576ce58464f4cd9bb31716cc974d3433e9206c293db9d186ab4570c404", func := "loop.example/surfacemaps/laws.FnExactMapFar", spec := "fnExactMapFar", unfollowed := true, recurses := true, apart := false }
def FnExactMapFarSaid : Prop := fnExactMapFarRow.holds Try.pinned (OpenSpec.ofChange fnExactMapFarSpec)

/-- ITS FALSE NEIGHBOUR: 'it returns false'. Refute it at one input. -/
def fnExactMapFarWrong : ChangeSpec := { name := "fnExactMapFar", fn := fun _ => fun
  | [d1, d2, d3] => { results := [.lit (.bool false)], args := [d1, d2, d3] }
  | _ => none }
def FnExactMapFarWrongFalsely : Prop := fnExactMapFarRow.holds Try.pinned (OpenSpec.ofChange fnExactMapFarWrong)

/- THE SECOND FORM. 'bulk': how many values and letters a reading holds, each counted each time it is reached (what is shared counts as often as it is met; a slice's spare places count too). A statement '..UptoSaid' is the law's where the arguments, and the package variables that the reading takes, are together of bulk at most 1048576: NARROWER than '..Said'. Prove '..Said' where nothing that the law and all that it calls make is longer than what came in: it says more and counts as full. Else prove '..UptoSaid'. A law counts once. -/
mutual
def uptoBulk {H : Type} : DataW H → Nat
  | .lit (.string bytes) => bytes.length + 1
  | .lit _ => 1
  | .nil => 1
  | .ptr d => uptoBulk d + 1
  | .slice elems spare => uptoBulkAll elems + uptoBulkAll spare + 1
  | .agg parts => uptoBulkAll parts + 1
  | .iface _ d => uptoBulk d + 1
  | .map entries => uptoBulkEntries entries + 1
  | .held _ => 1
def uptoBulkAll {H : Type} : List (DataW H) → Nat
  | [] => 0
  | d :: r => uptoBulk d + uptoBulkAll r
def uptoBulkEntries {H : Type} : List (Lit × DataW H) → Nat
  | [] => 0
  | x :: r => uptoBulkEntry x + uptoBulkEntries r
def uptoBulkEntry {H : Type} : Lit × DataW H → Nat
  | (.string bytes, d) => bytes.length + uptoBulk d + 1
  | (_, d) => uptoBulk d + 1
 end
def uptoSmall : (H : Type) → List (DataW H) → Bool := fun _ ds => decide (uptoBulkAll ds ≤ 1048576)
def OpenSpec.upto (s : _root_.Go.ChangeSpec) : _root_.Go.OpenSpec := { _root_.Go.OpenSpec.ofChange s with cond := some uptoSmall }

/-- 'laws.FnExactQuadIs', WHERE WHAT IT READS IS OF BULK AT MOST 1048576: true; the input reads as it did. -/
def fnExactQuadIsUptoRow : OpenClaim := { program := "ytdbknfdpgooioaa", sum := "d1ed10576ce58464f4cd9bb31716cc974d3433e9206c293db9d186ab4570c404", func := "loop.example/surfacemaps/laws.FnExactQuadIs", spec := "fnExactQuadIs", unfollowed := true, recurses := true, apart := false, narrowed := true }
def FnExactQuadIsUptoSaid : Prop := fnExactQuadIsUptoRow.holds Try.pinned (OpenSpec.upto fnExactQuadIsSpec)

/-- 'laws.FnExactTutteQuad', WHERE WHAT IT READS IS OF BULK AT MOST 1048576: true; the input reads as it did. -/
def fnExactTutteQuadUptoRow : OpenClaim := { program := "ytdbknfdpgooioaa", sum := "d1ed10576ce58464f4cd9bb31716cc974d3433e9206c293db9d186ab4570c404", func := "loop.example/surfacemaps/laws.FnExactTutteQuad", spec := "fnExactTutteQuad", apart := false, narrowed := true }
def FnExactTutteQuadUptoSaid : Prop := fnExactTutteQuadUptoRow.holds Try.pinned (OpenSpec.upto fnExactTutteQuadSpec)

/-- 'laws.FnExactTutteMap', WHERE WHAT IT READS IS OF BULK AT MOST 1048576: true; the input reads as it did. -/
def fnExactTutteMapUptoRow : OpenClaim := { program := "ytdbknfdpgooioaa", sum := "d1ed10576ce58464f4cd9bb31716cc974d3433e9206c293db9d186ab4570c404", func := "loop.example/surfacemaps/laws.FnExactTutteMap", spec := "fnExactTutteMap", unfollowed := true, recurses := true, apart := false, narrowed := true }
def FnExactTutteMapUptoSaid : Prop := fnExactTutteMapUptoRow.holds Try.pinned (OpenSpec.upto fnExactTutteMapSpec)

/-- 'laws.FnExactQuadTree', WHERE WHAT IT READS IS OF BULK AT MOST 1048576: true; the input reads as it did. -/
def fnExactQuadTreeUptoRow : OpenClaim := { program := "ytdbknfdpgooioaa", sum := "d1ed10576ce58464f4cd9bb31716cc974d3433e9206c293db9d186ab4570c404", func := "loop.example/surfacemaps/laws.FnExactQuadTree", spec := "fnExactQuadTree", inPlace := ["internal/abi.NoEscape"], unfollowed := true, recurses := true, apart := false, narrowed := true }
def FnExactQuadTreeUptoSaid : Prop := fnExactQuadTreeUptoRow.holds Try.pinned (OpenSpec.upto fnExactQuadTreeSpec)

/-- 'laws.FnExactMapFar', WHERE WHAT IT READS IS OF BULK AT MOST 1048576: true; the input reads as it did. -/
def fnExactMapFarUptoRow : OpenClaim := { program := "ytdbknfdpgooioaa", sum := "d1ed10576ce58464f4cd9bb31716cc974d3433e9206c293db9d186ab4570c404", func := "loop.example/surfacemaps/laws.FnExactMapFar", spec := "fnExactMapFar", unfollowed := true, recurses := true, apart := false, narrowed := true }
def FnExactMapFarUptoSaid : Prop := fnExactMapFarUptoRow.holds Try.pinned (OpenSpec.upto fnExactMapFarSpec)

end Rows
end Go.Proofs.Ytdbknfdpgooioaa
