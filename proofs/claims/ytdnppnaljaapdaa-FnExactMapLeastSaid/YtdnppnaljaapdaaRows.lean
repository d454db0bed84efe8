/-
  No cell of these rows narrows 'for every input' (looked for: loops, veiled, ifaces, maps, wideKeys, modest, calm, conditions, laid).
  DERIVED. THE GIVEN ROWS OF THIS SEAT. 8 by the template 'for every input the law returns true; each argument reads behind the call as it read before'; 0 by the template 'total and deterministic' (their statements: YtdnppnaljaapdaaTotals.lean).
  GIVEN WITH THE SEED: the statements are not yours to turn. If you find one false, say at which input.
  Laid BY PROGRAM, IN A SANDBOX (cutbox-rows.mjs): the forced cells as the released guide's own fill.sh prints them over the translation 3fa7261d1ef427ef… (all of the seat's roots in one cut). By AI agents, Wed Nov 11 2026. No macro, syntax, notation, axiom, sorry.
-/
import Derived.Test.YtdnppnaljaapdaaChecked
import GoSem.Claim
import GoSem.ClaimJoined
import GoSem.ClaimMapViews
import Derived.JoinedTies
import Derived.KernelRfl
namespace Go.Proofs.Ytdnppnaljaapdaa
/- THE CELL 'sum', in the pinned program and in every row, IS THE sha256 OF THE DUMP (.gsa) THAT YtdnppnaljaapdaaProg.lean LOADS. Nothing in Lean hashes anything: it is a label: what it is worth is what the hold of that sum in a sandbox is worth. -/
noncomputable def Try.pinned : Pinned := { name := "ytdnppnaljaapdaa", sum := "3fa7261d1ef427ef7dcb4cd2b650f411fc512c6ed36c01e27b391d9399025f07", checked := Try.checked }
namespace Rows
def none {H : Type} : Left H := { results := [], args := [] }

/-- 'laws.FnSign': WHATEVER THE INPUT: true; the input reads as it did. -/
def fnSignSpec : ChangeSpec := { name := "fnSign", fn := fun _ => fun
  | [d] => { results := [.lit (.bool true)], args := [d] }
  | _ => none }
def fnSignRow : OpenClaim := { program := "ytdnppnaljaapdaa", sum := "3fa7261d1ef427ef7dcb4cd2b650f411fc512c6ed36c01e27b391d9399025f07", func := "loop.example/surfacemaps/laws.FnSign", spec := "fnSign", unfollowed := true, recurses := true, apart := false }
def FnSignSaid : Prop := fnSignRow.holds Try.pinned (OpenSpec.ofChange fnSignSpec)

/-- ITS FALSE NEIGHBOUR: 'it returns false'. Refute it at one input. -/
def fnSignWrong : ChangeSpec := { name := "fnSign", fn := fun _ => fun
  | [d] => { results := [.lit (.bool false)], args := [d] }
  | _ => none }
def FnSignWrongFalsely : Prop := fnSignRow.holds Try.pinned (OpenSpec.ofChange fnSignWrong)

/-- 'laws.FnDegrees': WHATEVER THE INPUT: true; the input reads as it did. -/
def fnDegreesSpec : ChangeSpec := { name := "fnDegrees", fn := fun _ => fun
  | [d] => { results := [.lit (.bool true)], args := [d] }
  | _ => none }
def fnDegreesRow : OpenClaim := { program := "ytdnppnaljaapdaa", sum := "3fa7261d1ef427ef7dcb4cd2b650f411fc512c6ed36c01e27b391d9399025f07", func := "loop.example/surfacemaps/laws.FnDegrees", spec := "fnDegrees", unfollowed := true, recurses := true, apart := false }
def FnDegreesSaid : Prop := fnDegreesRow.holds Try.pinned (OpenSpec.ofChange fnDegreesSpec)

/-- ITS FALSE NEIGHBOUR: 'it returns false'. Refute it at one input. -/
def fnDegreesWrong : ChangeSpec := { name := "fnDegrees", fn := fun _ => fun
  | [d] => { results := [.lit (.bool false)], args := [d] }
  | _ => none }
def FnDegreesWrongFalsely : Prop := fnDegreesRow.holds Try.pinned (OpenSpec.ofChange fnDegreesWrong)

/-- 'laws.FnForm': WHATEVER THE INPUT: true; the input reads as it did. -/
def fnFormSpec : ChangeSpec := { name := "fnForm", fn := fun _ => fun
  | [d] => { results := [.lit (.bool true)], args := [d] }
  | _ => none }
def fnFormRow : OpenClaim := { program := "ytdnppnaljaapdaa", sum := "3fa7261d1ef427ef7dcb4cd2b650f411fc512c6ed36c01e27b391d9399025f07", func := "loop.example/surfacemaps/laws.FnForm", spec := "fnForm", apart := false }
def FnFormSaid : Prop := fnFormRow.holds Try.pinned (OpenSpec.ofChange fnFormSpec)

/-- ITS FALSE NEIGHBOUR: 'it returns false'. Refute it at one input. -/
def fnFormWrong : ChangeSpec := { name := "fnForm", fn := fun _ => fun
  | [d] => { results := [.lit (.bool false)], args := [d] }
  | _ => none }
def FnFormWrongFalsely : Prop := fnFormRow.holds Try.pinned (OpenSpec.ofChange fnFormWrong)

/-- 'laws.FnTurns': WHATEVER THE INPUT: true; the input reads as it did. -/
def fnTurnsSpec : ChangeSpec := { name := "fnTurns", fn := fun _ => fun
  | [d] => { results := [.lit (.bool true)], args := [d] }
  | _ => none }
def fnTurnsRow : OpenClaim := { program := "ytdnppnaljaapdaa", sum := "3fa7261d1ef427ef7dcb4cd2b650f411fc512c6ed36c01e27b391d9399025f07", func := "loop.example/surfacemaps/laws.FnTurns", spec := "fnTurns", apart := false }
def FnTurnsSaid : Prop := fnTurnsRow.holds Try.pinned (OpenSpec.ofChange fnTurnsSpec)

/-- ITS FALSE NEIGHBOUR: 'it returns false'. Refute it at one input. -/
def fnTurnsWrong : ChangeSpec := { name := "fnTurns", fn := fun _ => fun
  | [d] => { results := [.lit (.bool false)], args := [d] }
  | _ => none }
def FnTurnsWrongFalsely : Prop := fnTurnsRow.holds Try.pinned (OpenSpec.ofChange fnTurnsWrong)

/-- 'laws.FnFar': WHATEVER THE INPUT: true; the input reads as it did. -/
def fnFarSpec : ChangeSpec := { name := "fnFar", fn := fun _ => fun
  | [d1, d2] => { results := [.lit (.bool true)], args := [d1, d2] }
  | _ => none }
def fnFarRow : OpenClaim := { program := "ytdnppnaljaapdaa", sum := "3fa7261d1ef427ef7dcb4cd2b650f411fc512c6ed36c01e27b391d9399025f07", func := "loop.example/surfacemaps/laws.FnFar", spec := "fnFar", unfollowed := true, recurses := true, apart := false }
def FnFarSaid : Prop := fnFarRow.holds Try.pinned (OpenSpec.ofChange fnFarSpec)

/-- ITS FALSE NEIGHBOUR: 'it returns false'. Refute it at one input. -/
def fnFarWrong : ChangeSpec := { name := "fnFar", fn := fun _ => fun
  | [d1, d2] => { results := [.lit (.bool false)], args := [d1, d2] }
  | _ => none }
def FnFarWrongFalsely : Prop := fnFarRow.holds Try.pinned (OpenSpec.ofChange fnFarWrong)

/-- 'laws.FnExactMapLeast': WHATEVER THE INPUT: true; the input reads as it did. -/
def fnExactMapLeastSpec : ChangeSpec := { name := "fnExactMapLeast", fn := fun _ => fun
  | [d] => { results := [.lit (.bool true)], args := [d] }
  | _ => none }
def fnExactMapLeastRow : OpenClaim := { program := "ytdnppnaljaapdaa", sum := "3fa7261d1ef427ef7dcb4cd2b650f411fc512c6ed36c01e27b391d9399025f07", func := "loop.example/surfacemaps/laws.FnExactMapLeast", spec := "fnExactMapLeast", unfollowed := true, recurses := true, apart := false }
def FnExactMapLeastSaid : Prop := fnExactMapLeastRow.holds Try.pinned (OpenSpec.ofChange fnExactMapLeastSpec)

/-- ITS FALSE NEIGHBOUR: 'it returns false'. Refute it at one input. -/
def fnExactMapLeastWrong : ChangeSpec := { name := "fnExactMapLeast", fn := fun _ => fun
  | [d] => { results := [.lit (.bool false)], args := [d] }
  | _ => none }
def FnExactMapLeastWrongFalsely : Prop := fnExactMapLeastRow.holds Try.pinned (OpenSpec.ofChange fnExactMapLeastWrong)

/-- 'laws.FnExactMapSame': WHATEVER THE INPUT: true; the input reads as it did. -/
def fnExactMapSameSpec : ChangeSpec := { name := "fnExactMapSame", fn := fun _ => fun
  | [d1, d2] => { results := [.lit (.bool true)], args := [d1, d2] }
  | _ => none }
def fnExactMapSameRow : OpenClaim := { program := "ytdnppnaljaapdaa", sum := "3fa7261d1ef427ef7dcb4cd2b650f411fc512c6ed36c01e27b391d9399025f07", func := "loop.example/surfacemaps/laws.FnExactMapSame", spec := "fnExactMapSame", apart := false }
def FnExactMapSameSaid : Prop := fnExactMapSameRow.holds Try.pinned (OpenSpec.ofChange fnExactMapSameSpec)

/-- ITS FALSE NEIGHBOUR: 'it returns false'. Refute it at one input. -/
def fnExactMapSameWrong : ChangeSpec := { name := "fnExactMapSame", fn := fun _ => fun
  | [d1, d2] => { results := [.lit (.bool false)], args := [d1, d2] }
  | _ => none }
def FnExactMapSameWrongFalsely : Prop := fnExactMapSameRow.holds Try.pinned (OpenSpec.ofChange fnExactMapSameWrong)

/-- 'laws.FnExactMapFar': WHATEVER THE INPUT: true; the input reads as it did. -/
def fnExactMapFarSpec : ChangeSpec := { name := "fnExactMapFar", fn := fun _ => fun
  | [d1, d2, d3] => { results := [.lit (.bool true)], args := [d1, d2, d3] }
  | _ => none }
def fnExactMapFarRow : OpenClaim := { program := "ytdnppnaljaapdaa", sum := "3fa7261d1ef427ef7dcb4cd2b650f411fc512c6ed36c01e27b391d9399025f07", func := "loop.example/surfacemaps/laws.FnExactMapFar", spec := "fnExactMapFar", unfollowed := true, recurses := true, apart := false }
def FnExactMapFarSaid : Prop := fnExactMapFarRow.holds Try.pinned (OpenSpec.ofChange fnExactMapFarSpec)

/-- ITS FALSE NEIGHBOUR: 'it returns false'. Refute it at one input. -/
def fnExactMapFarWrong : ChangeSpec := { name := "fnExactMapFar", fn := fun _ => fun
  | [d1, d2, d3] => { results := [.lit (.bool false)], args := [d1, d2, d3] }
  | _ => none }
def FnExactMapFarWrongFalsely : Prop := fnExactMapFarRow.holds Try.pinned (OpenSpec.ofChange fnExactMapFarWrong)

/- THE SECOND FORM. 'bulk': how many values and letters a reading holds, each counted each time it is reached (what is shared counts as often as it is met; a slice's spare places count too). A statement '..UptoSaid' is the law's where the arguments, and the package variables that the reading takes, are together of bulk at most 1048576: NARROWER than '..Said'. Prove '..Said' where nothing that the law and all that it calls make is longer than what came in: it says more and counts as full. Else prove '..UptoSaid'. A law counts once. -/
mutual
def uptoBulk {H : Type} : DataW H → Nat
  | .lit (.string bytes) => bytes.length + 1
  | .lit _ => 1
  | .nil => 1
  | .ptr d => uptoBulk d + 1
  | .slice elems spare => uptoBulkAll elems + uptoBulkAll spare + 1
  | .agg parts => uptoBulkAll parts + 1
  | .iface _ d => uptoBulk d + 1
  | .map entries => uptoBulkEntries entries + 1
  | .held _ => 1
def uptoBulkAll {H : Type} : List (DataW H) → Nat
  | [] => 0
  | d :: r => uptoBulk d + uptoBulkAll r
def uptoBulkEntries {H : Type} : List (Lit × DataW H) → Nat
  | [] => 0
  | x :: r => uptoBulkEntry x + uptoBulkEntries r
def uptoBulkEntry {H : Type} : Lit × DataW H → Nat
  | (.string bytes, d) => bytes.length + uptoBulk d + 1
  | (_, d) => uptoBulk d + 1
 end
def uptoSmall : (H : Type) → List (DataW H) → Bool := fun _ ds => decide (uptoBulkAll ds ≤ 1048576)
def OpenSpec.upto (s : _root_.Go.ChangeSpec) : _root_.Go.OpenSpec := { _root_.Go.OpenSpec.ofChange s with cond := some uptoSmall }

/-- 'laws.FnSign', WHERE WHAT IT READS IS OF BULK AT MOST 1048576: true; the input reads as it did. -/
def fnSignUptoRow : OpenClaim := { program := "ytdnppnaljaapdaa", sum := "3fa7261d1ef427ef7dcb4cd2b650f411fc512c6ed36c01e27b391d9399025f07", func := "loop.example/surfacemaps/laws.FnSign", spec := "fnSign", unfollowed := true, recurses := true, apart := false, narrowed := true }
def FnSignUptoSaid : Prop := fnSignUptoRow.holds Try.pinned (OpenSpec.upto fnSignSpec)

/-- 'laws.FnDegrees', WHERE WHAT IT READS IS OF BULK AT MOST 1048576: true; the input reads as it did. -/
def fnDegreesUptoRow : OpenClaim := { program := "ytdnppnaljaapdaa", sum := "3fa7261d1ef427ef7dcb4cd2b650f411fc512c6ed36c01e27b391d9399025f07", func := "loop.example/surfacemaps/laws.FnDegrees", spec := "fnDegrees", unfollowed := true, recurses := true, apart := false, narrowed := true }
def FnDegreesUptoSaid : Prop := fnDegreesUptoRow.holds Try.pinned (OpenSpec.upto fnDegreesSpec)

/-- 'laws.FnForm', WHERE WHAT IT READS IS OF BULK AT MOST 1048576: true; the input reads as it did. -/
def fnFormUptoRow : OpenClaim := { program := "ytdnppnaljaapdaa", sum := "3fa7261d1ef427ef7dcb4cd2b650f411fc512c6ed36c01e27b391d9399025f07", func := "loop.example/surfacemaps/laws.FnForm", spec := "fnForm", apart := false, narrowed := true }
def FnFormUptoSaid : Prop := fnFormUptoRow.holds Try.pinned (OpenSpec.upto fnFormSpec)

/-- 'laws.FnTurns', WHERE WHAT IT READS IS OF BULK AT MOST 1048576: true; the input reads as it did. -/
def fnTurnsUptoRow : OpenClaim := { program := "ytdnppnaljaapdaa", sum := "3fa7261d1ef427ef7dcb4cd2b650f411fc512c6ed36c01e27b391d9399025f07", func := "loop.example/surfacemaps/laws.FnTurns", spec := "fnTurns", apart := false, narrowed := true }
def FnTurnsUptoSaid : Prop := fnTurnsUptoRow.holds Try.pinned (OpenSpec.upto fnTurnsSpec)

/-- 'laws.FnFar', WHERE WHAT IT READS IS OF BULK AT MOST 1048576: true; the input reads as it did. -/
def fnFarUptoRow : OpenClaim := { program := "ytdnppnaljaapdaa", sum := "3fa7261d1ef427ef7dcb4cd2b650f411fc512c6ed36c01e27b391d9399025f07", func := "loop.example/surfacemaps/laws.FnFar", spec := "fnFar", unfollowed := true, recurses := true, apart := false, narrowed := true }
def FnFarUptoSaid : Prop := fnFarUptoRow.holds Try.pinned (OpenSpec.upto fnFarSpec)

/-- 'laws.FnExactMapLeast', WHERE WHAT IT READS IS OF BULK AT MOST 1048576: true; the input reads as it did. -/
def fnExactMapLeastUptoRow : OpenClaim := { program := "ytdnppnaljaapdaa", sum := "3fa7261d1ef427ef7dcb4cd2b650f411fc512c6ed36c01e27b391d9399025f07", func := "loop.example/surfacemaps/laws.FnExactMapLeast", spec := "fnExactMapLeast", unfollowed := true, recurses := true, apart := false, narrowed := true }
def FnExactMapLeastUptoSaid : Prop := fnExactMapLeastUptoRow.holds Try.pinned (OpenSpec.upto fnExactMapLeastSpec)

/-- 'laws.FnExactMapSame', WHERE WHAT IT READS IS OF BULK AT MOST 1048576: true; the input reads as it did. -/
def fnExactMapSameUptoRow : OpenClaim := { program := "ytdnppnaljaapdaa", sum := "3fa7261d1ef427ef7dcb4cd2b650f411fc512c6ed36c01e27b391d9399025f07", func := "loop.example/surfacemaps/laws.FnExactMapSame", spec := "fnExactMapSame", apart := false, narrowed := true }
def FnExactMapSameUptoSaid : Prop := fnExactMapSameUptoRow.holds Try.pinned (OpenSpec.upto fnExactMapSameSpec)

/-- 'laws.FnExactMapFar', WHERE WHAT IT READS IS OF BULK AT MOST 1048576: true; the input reads as it did. -/
def fnExactMapFarUptoRow : OpenClaim := { program := "ytdnppnaljaapdaa", sum := "3fa7261d1ef427ef7dcb4cd2b650f411fc512c6ed36c01e27b391d9399025f07", func := "loop.example/surfacemaps/laws.FnExactMapFar", spec := "fnExactMapFar", unfollowed := true, recurses := true, apart := false, narrowed := true }
def FnExactMapFarUptoSaid : Prop := fnExactMapFarUptoRow.holds Try.pinned (OpenSpec.upto fnExactMapFarSpec)

end Rows
end Go.Proofs.Ytdnppnaljaapdaa
