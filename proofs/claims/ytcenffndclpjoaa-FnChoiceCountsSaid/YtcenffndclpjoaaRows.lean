/-
  No cell of these rows narrows 'for every input' (looked for: loops, veiled, ifaces, maps, wideKeys, modest, calm, conditions, laid).
  DERIVED. THE GIVEN ROWS OF THIS SEAT. 4 by the template 'for every input the law returns true; each argument reads behind the call as it read before'; 0 by the template 'total and deterministic' (their statements: YtcenffndclpjoaaTotals.lean).
  GIVEN WITH THE SEED: the statements are not yours to turn. If you find one false, say at which input.
  Laid BY PROGRAM, IN A SANDBOX (cutbox-rows.mjs): the forced cells as the released guide's own fill.sh prints them over the translation 180919c961a18a38… (all of the seat's roots in one cut). By AI agents, Wed Nov 11 2026. No macro, syntax, notation, axiom, sorry.
-/
import Derived.Test.YtcenffndclpjoaaChecked
import GoSem.Claim
import GoSem.ClaimJoined
import GoSem.ClaimMapViews
import Derived.JoinedTies
import Derived.KernelRfl
namespace Go.Proofs.Ytcenffndclpjoaa
/- THE CELL 'sum', in the pinned program and in every row, IS THE sha256 OF THE DUMP (.gsa) THAT YtcenffndclpjoaaProg.lean LOADS. Nothing in Lean hashes anything: it is a label: what it is worth is what the hold of that sum in a sandbox is worth. -/
noncomputable def Try.pinned : Pinned := { name := "ytcenffndclpjoaa", sum := "180919c961a18a38220f896b32043705191e474f38b2bb266635bd1492818281", checked := Try.checked }
namespace Rows
def none {H : Type} : Left H := { results := [], args := [] }

/-- 'laws.FnChoiceCounts': WHATEVER THE INPUT: true; the input reads as it did. -/
def fnChoiceCountsSpec : ChangeSpec := { name := "fnChoiceCounts", fn := fun _ => fun
  | [d1, d2] => { results := [.lit (.bool true)], args := [d1, d2] }
  | _ => none }
def fnChoiceCountsRow : OpenClaim := { program := "ytcenffndclpjoaa", sum := "180919c961a18a38220f896b32043705191e474f38b2bb266635bd1492818281", func := "loop.example/surfacemaps/laws.FnChoiceCounts", spec := "fnChoiceCounts", unfollowed := true, recurses := true, apart := false }
def FnChoiceCountsSaid : Prop := fnChoiceCountsRow.holds Try.pinned (OpenSpec.ofChange fnChoiceCountsSpec)

/-- ITS FALSE NEIGHBOUR: 'it returns false'. Refute it at one input. -/
def fnChoiceCountsWrong : ChangeSpec := { name := "fnChoiceCounts", fn := fun _ => fun
  | [d1, d2] => { results := [.lit (.bool false)], args := [d1, d2] }
  | _ => none }
def FnChoiceCountsWrongFalsely : Prop := fnChoiceCountsRow.holds Try.pinned (OpenSpec.ofChange fnChoiceCountsWrong)

/-- 'laws.FnChoiceTree': WHATEVER THE INPUT: true; the input reads as it did. -/
def fnChoiceTreeSpec : ChangeSpec := { name := "fnChoiceTree", fn := fun _ => fun
  | [d] => { results := [.lit (.bool true)], args := [d] }
  | _ => none }
def fnChoiceTreeRow : OpenClaim := { program := "ytcenffndclpjoaa", sum := "180919c961a18a38220f896b32043705191e474f38b2bb266635bd1492818281", func := "loop.example/surfacemaps/laws.FnChoiceTree", spec := "fnChoiceTree", unfollowed := true, recurses := true, apart := false }
def FnChoiceTreeSaid : Prop := fnChoiceTreeRow.holds Try.pinned (OpenSpec.ofChange fnChoiceTreeSpec)

/-- ITS FALSE NEIGHBOUR: 'it returns false'. Refute it at one input. -/
def fnChoiceTreeWrong : ChangeSpec := { name := "fnChoiceTree", fn := fun _ => fun
  | [d] => { results := [.lit (.bool false)], args := [d] }
  | _ => none }
def FnChoiceTreeWrongFalsely : Prop := fnChoiceTreeRow.holds Try.pinned (OpenSpec.ofChange fnChoiceTreeWrong)

/-- 'laws.FnQuasis': WHATEVER THE INPUT: true; the input reads as it did. -/
def fnQuasisSpec : ChangeSpec := { name := "fnQuasis", fn := fun _ => fun
  | [d] => { results := [.lit (.bool true)], args := [d] }
  | _ => none }
def fnQuasisRow : OpenClaim := { program := "ytcenffndclpjoaa", sum := "180919c961a18a38220f896b32043705191e474f38b2bb266635bd1492818281", func := "loop.example/surfacemaps/laws.FnQuasis", spec := "fnQuasis", unfollowed := true, recurses := true, apart := false }
def FnQuasisSaid : Prop := fnQuasisRow.holds Try.pinned (OpenSpec.ofChange fnQuasisSpec)

/-- ITS FALSE NEIGHBOUR: 'it returns false'. Refute it at one input. -/
def fnQuasisWrong : ChangeSpec := { name := "fnQuasis", fn := fun _ => fun
  | [d] => { results := [.lit (.bool false)], args := [d] }
  | _ => none }
def FnQuasisWrongFalsely : Prop := fnQuasisRow.holds Try.pinned (OpenSpec.ofChange fnQuasisWrong)

/-- 'laws.FnKind': WHATEVER THE INPUT: true; the input reads as it did. -/
def fnKindSpec : ChangeSpec := { name := "fnKind", fn := fun _ => fun
  | [d] => { results := [.lit (.bool true)], args := [d] }
  | _ => none }
def fnKindRow : OpenClaim := { program := "ytcenffndclpjoaa", sum := "180919c961a18a38220f896b32043705191e474f38b2bb266635bd1492818281", func := "loop.example/surfacemaps/laws.FnKind", spec := "fnKind", unfollowed := true, recurses := true, apart := false }
def FnKindSaid : Prop := fnKindRow.holds Try.pinned (OpenSpec.ofChange fnKindSpec)

/-- ITS FALSE NEIGHBOUR: 'it returns false'. Refute it at one input. -/
def fnKindWrong : ChangeSpec := { name := "fnKind", fn := fun _ => fun
  | [d] => { results := [.lit (.bool false)], args := [d] }
  | _ => none }
def FnKindWrongFalsely : Prop := fnKindRow.holds Try.pinned (OpenSpec.ofChange fnKindWrong)

/- THE SECOND FORM. 'bulk': how many values and letters a reading holds, each counted each time it is reached (what is shared counts as often as it is met; a slice's spare places count too). A statement '..UptoSaid' is the law's where the arguments, and the package variables that the reading takes, are together of bulk at most 1048576: NARROWER than '..Said'. Prove '..Said' where nothing that the law and all that it calls make is longer than what came in: it says more and counts as full. Else prove '..UptoSaid'. A law counts once. -/
mutual
def uptoBulk {H : Type} : DataW H → Nat
  | .lit (.string bytes) => bytes.length + 1
  | .lit _ => 1
  | .nil => 1
  | .ptr d => uptoBulk d + 1
  | .slice elems spare => uptoBulkAll elems + uptoBulkAll spare + 1
  | .agg parts => uptoBulkAll parts + 1
  | .iface _ d => uptoBulk d + 1
  | .map entries => uptoBulkEntries entries + 1
  | .held _ => 1
def uptoBulkAll {H : Type} : List (DataW H) → Nat
  | [] => 0
  | d :: r => uptoBulk d + uptoBulkAll r
def uptoBulkEntries {H : Type} : List (Lit × DataW H) → Nat
  | [] => 0
  | x :: r => uptoBulkEntry x + uptoBulkEntries r
def uptoBulkEntry {H : Type} : Lit × DataW H → Nat
  | (.string bytes, d) => bytes.length + uptoBulk d + 1
  | (_, d) => uptoBulk d + 1
 end
def uptoSmall : (H : Type) → List (DataW H) → Bool := fun _ ds => decide (uptoBulkAll ds ≤ 1048576)
def OpenSpec.upto (s : _root_.Go.ChangeSpec) : _root_.Go.OpenSpec := { _root_.Go.OpenSpec.ofChange s with cond := some uptoSmall }

/-- 'laws.FnChoiceCounts', WHERE WHAT IT READS IS OF BULK AT MOST 1048576: true; the input reads as it did. -/
def fnChoiceCountsUptoRow : OpenClaim := { program := "ytcenffndclpjoaa", sum := "180919c961a18a38220f896b32043705191e474f38b2bb266635bd1492818281", func := "loop.example/surfacemaps/laws.FnChoiceCounts", spec := "fnChoiceCounts", unfollowed := true, recurses := true, apart := false, narrowed := true }
def FnChoiceCountsUptoSaid : Prop := fnChoiceCountsUptoRow.holds Try.pinned (OpenSpec.upto fnChoiceCountsSpec)

/-- 'laws.FnChoiceTree', WHERE WHAT IT READS IS OF BULK AT MOST 1048576: true; the input reads as it did. -/
def fnChoiceTreeUptoRow : OpenClaim := { program := "ytcenffndclpjoaa", sum := "180919c961a18a38220f896b32043705191e474f38b2bb266635bd1492818281", func := "loop.example/surfacemaps/laws.FnChoiceTree", spec := "fnChoiceTree", unfollowed := true, recurses := true, apart := false, narrowed := true }
def FnChoiceTreeUptoSaid : Prop := fnChoiceTreeUptoRow.holds Try.pinned (OpenSpec.upto fnChoiceTreeSpec)

/-- 'laws.FnQuasis', WHERE WHAT IT READS IS OF BULK AT MOST 1048576: true; the input reads as it did. -/
def fnQuasisUptoRow : OpenClaim := { program := "ytcenffndclpjoaa", sum := "180919c961a18a38220f896b32043705191e474f38b2bb266635bd1492818281", func := "loop.example/surfacemaps/laws.FnQuasis", spec := "fnQuasis", unfollowed := true, recurses := true, apart := false, narrowed := true }
def FnQuasisUptoSaid : Prop := fnQuasisUptoRow.holds Try.pinned (OpenSpec.upto fnQuasisSpec)

/-- 'laws.FnKind', WHERE WHAT IT READS IS OF BULK AT MOST 1048576: true; the input reads as it did. -/
def fnKindUptoRow : OpenClaim := { program := "ytcenffndclpjoaa", sum := "180919c961a18a38220f896b32043705191e474f38b2bb266635bd1492818281", func := "loop.example/surfacemaps/laws.FnKind", spec := "fnKind", unfollowed := true, recurses := true, apart := false, narrowed := true }
def FnKindUptoSaid : Prop := fnKindUptoRow.holds Try.pinned (OpenSpec.upto fnKindSpec)

end Rows
end Go.Proofs.Ytcenffndclpjoaa
