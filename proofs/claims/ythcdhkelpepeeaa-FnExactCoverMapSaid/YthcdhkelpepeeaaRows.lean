/-
  No cell of these rows narrows 'for every input' (looked for: loops, veiled, ifaces, maps, wideKeys, modest, calm, conditions, laid).
  DERIVED. THE GIVEN ROWS OF THIS SEAT. 11 by the template 'for every input the law returns true; each argument reads behind the call as it read before'; 0 by the template 'total and deterministic' (their statements: YthcdhkelpepeeaaTotals.lean).
  GIVEN WITH THE SEED: the statements are not yours to turn. If you find one false, say at which input.
  Laid BY PROGRAM, IN A SANDBOX (cutbox-rows.mjs): the forced cells as the released guide's own fill.sh prints them over the translation a865b490093de7a8… (all of the seat's roots in one cut). By AI agents, Wed Nov 11 2026. No macro, syntax, notation, axiom, sorry.
-/
import Derived.Test.YthcdhkelpepeeaaChecked
import GoSem.Claim
import GoSem.ClaimJoined
import GoSem.ClaimMapViews
import Derived.JoinedTies
import Derived.KernelRfl
namespace Go.Proofs.Ythcdhkelpepeeaa
/- THE CELL 'sum', in the pinned program and in every row, IS THE sha256 OF THE DUMP (.gsa) THAT YthcdhkelpepeeaaProg.lean LOADS. Nothing in Lean hashes anything: it is a label: what it is worth is what the hold of that sum in a sandbox is worth. -/
noncomputable def Try.pinned : Pinned := { name := "ythcdhkelpepeeaa", sum := "a865b490093de7a84f2d6c4537e70fb8026c4257b332744c6c565d819b5cb1a2", checked := Try.checked }
namespace Rows
def none {H : Type} : Left H := { results := [], args := [] }

/-- 'laws.FnExactVoltageValid': WHATEVER THE INPUT: true; the input reads as it did. -/
def fnExactVoltageValidSpec : ChangeSpec := { name := "fnExactVoltageValid", fn := fun _ => fun
  | [d1, d2, d3] => { results := [.lit (.bool true)], args := [d1, d2, d3] }
  | _ => none }
def fnExactVoltageValidRow : OpenClaim := { program := "ythcdhkelpepeeaa", sum := "a865b490093de7a84f2d6c4537e70fb8026c4257b332744c6c565d819b5cb1a2", func := "loop.example/surfacemaps/laws.FnExactVoltageValid", spec := "fnExactVoltageValid", apart := false }
def FnExactVoltageValidSaid : Prop := fnExactVoltageValidRow.holds Try.pinned (OpenSpec.ofChange fnExactVoltageValidSpec)

/-- ITS FALSE NEIGHBOUR: 'it returns false'. Refute it at one input. -/
def fnExactVoltageValidWrong : ChangeSpec := { name := "fnExactVoltageValid", fn := fun _ => fun
  | [d1, d2, d3] => { results := [.lit (.bool false)], args := [d1, d2, d3] }
  | _ => none }
def FnExactVoltageValidWrongFalsely : Prop := fnExactVoltageValidRow.holds Try.pinned (OpenSpec.ofChange fnExactVoltageValidWrong)

/-- 'laws.FnExactCoverWhole': WHATEVER THE INPUT: true; the input reads as it did. -/
def fnExactCoverWholeSpec : ChangeSpec := { name := "fnExactCoverWhole", fn := fun _ => fun
  | [d1, d2, d3] => { results := [.lit (.bool true)], args := [d1, d2, d3] }
  | _ => none }
def fnExactCoverWholeRow : OpenClaim := { program := "ythcdhkelpepeeaa", sum := "a865b490093de7a84f2d6c4537e70fb8026c4257b332744c6c565d819b5cb1a2", func := "loop.example/surfacemaps/laws.FnExactCoverWhole", spec := "fnExactCoverWhole", apart := false }
def FnExactCoverWholeSaid : Prop := fnExactCoverWholeRow.holds Try.pinned (OpenSpec.ofChange fnExactCoverWholeSpec)

/-- ITS FALSE NEIGHBOUR: 'it returns false'. Refute it at one input. -/
def fnExactCoverWholeWrong : ChangeSpec := { name := "fnExactCoverWhole", fn := fun _ => fun
  | [d1, d2, d3] => { results := [.lit (.bool false)], args := [d1, d2, d3] }
  | _ => none }
def FnExactCoverWholeWrongFalsely : Prop := fnExactCoverWholeRow.holds Try.pinned (OpenSpec.ofChange fnExactCoverWholeWrong)

/-- 'laws.FnExactCoverMap': WHATEVER THE INPUT: true; the input reads as it did. -/
def fnExactCoverMapSpec : ChangeSpec := { name := "fnExactCoverMap", fn := fun _ => fun
  | [d1, d2, d3] => { results := [.lit (.bool true)], args := [d1, d2, d3] }
  | _ => none }
def fnExactCoverMapRow : OpenClaim := { program := "ythcdhkelpepeeaa", sum := "a865b490093de7a84f2d6c4537e70fb8026c4257b332744c6c565d819b5cb1a2", func := "loop.example/surfacemaps/laws.FnExactCoverMap", spec := "fnExactCoverMap", apart := false }
def FnExactCoverMapSaid : Prop := fnExactCoverMapRow.holds Try.pinned (OpenSpec.ofChange fnExactCoverMapSpec)

/-- ITS FALSE NEIGHBOUR: 'it returns false'. Refute it at one input. -/
def fnExactCoverMapWrong : ChangeSpec := { name := "fnExactCoverMap", fn := fun _ => fun
  | [d1, d2, d3] => { results := [.lit (.bool false)], args := [d1, d2, d3] }
  | _ => none }
def FnExactCoverMapWrongFalsely : Prop := fnExactCoverMapRow.holds Try.pinned (OpenSpec.ofChange fnExactCoverMapWrong)

/-- 'laws.FnExactCoverWinding': WHATEVER THE INPUT: true; the input reads as it did. -/
def fnExactCoverWindingSpec : ChangeSpec := { name := "fnExactCoverWinding", fn := fun _ => fun
  | [d1, d2, d3, d4] => { results := [.lit (.bool true)], args := [d1, d2, d3, d4] }
  | _ => none }
def fnExactCoverWindingRow : OpenClaim := { program := "ythcdhkelpepeeaa", sum := "a865b490093de7a84f2d6c4537e70fb8026c4257b332744c6c565d819b5cb1a2", func := "loop.example/surfacemaps/laws.FnExactCoverWinding", spec := "fnExactCoverWinding", unfollowed := true, recurses := true, apart := false }
def FnExactCoverWindingSaid : Prop := fnExactCoverWindingRow.holds Try.pinned (OpenSpec.ofChange fnExactCoverWindingSpec)

/-- ITS FALSE NEIGHBOUR: 'it returns false'. Refute it at one input. -/
def fnExactCoverWindingWrong : ChangeSpec := { name := "fnExactCoverWinding", fn := fun _ => fun
  | [d1, d2, d3, d4] => { results := [.lit (.bool false)], args := [d1, d2, d3, d4] }
  | _ => none }
def FnExactCoverWindingWrongFalsely : Prop := fnExactCoverWindingRow.holds Try.pinned (OpenSpec.ofChange fnExactCoverWindingWrong)

/-- 'laws.FnExactCoverBranch': WHATEVER THE INPUT: true; the input reads as it did. -/
def fnExactCoverBranchSpec : ChangeSpec := { name := "fnExactCoverBranch", fn := fun _ => fun
  | [d1, d2, d3] => { results := [.lit (.bool true)], args := [d1, d2, d3] }
  | _ => none }
def fnExactCoverBranchRow : OpenClaim := { program := "ythcdhkelpepeeaa", sum := "a865b490093de7a84f2d6c4537e70fb8026c4257b332744c6c565d819b5cb1a2", func := "loop.example/surfacemaps/laws.FnExactCoverBranch", spec := "fnExactCoverBranch", unfollowed := true, recurses := true, apart := false }
def FnExactCoverBranchSaid : Prop := fnExactCoverBranchRow.holds Try.pinned (OpenSpec.ofChange fnExactCoverBranchSpec)

/-- ITS FALSE NEIGHBOUR: 'it returns false'. Refute it at one input. -/
def fnExactCoverBranchWrong : ChangeSpec := { name := "fnExactCoverBranch", fn := fun _ => fun
  | [d1, d2, d3] => { results := [.lit (.bool false)], args := [d1, d2, d3] }
  | _ => none }
def FnExactCoverBranchWrongFalsely : Prop := fnExactCoverBranchRow.holds Try.pinned (OpenSpec.ofChange fnExactCoverBranchWrong)

/-- 'laws.FnExactCoverGenus': WHATEVER THE INPUT: true; the input reads as it did. -/
def fnExactCoverGenusSpec : ChangeSpec := { name := "fnExactCoverGenus", fn := fun _ => fun
  | [d1, d2, d3] => { results := [.lit (.bool true)], args := [d1, d2, d3] }
  | _ => none }
def fnExactCoverGenusRow : OpenClaim := { program := "ythcdhkelpepeeaa", sum := "a865b490093de7a84f2d6c4537e70fb8026c4257b332744c6c565d819b5cb1a2", func := "loop.example/surfacemaps/laws.FnExactCoverGenus", spec := "fnExactCoverGenus", unfollowed := true, recurses := true, apart := false }
def FnExactCoverGenusSaid : Prop := fnExactCoverGenusRow.holds Try.pinned (OpenSpec.ofChange fnExactCoverGenusSpec)

/-- ITS FALSE NEIGHBOUR: 'it returns false'. Refute it at one input. -/
def fnExactCoverGenusWrong : ChangeSpec := { name := "fnExactCoverGenus", fn := fun _ => fun
  | [d1, d2, d3] => { results := [.lit (.bool false)], args := [d1, d2, d3] }
  | _ => none }
def FnExactCoverGenusWrongFalsely : Prop := fnExactCoverGenusRow.holds Try.pinned (OpenSpec.ofChange fnExactCoverGenusWrong)

/-- 'laws.FnExactCoverConj': WHATEVER THE INPUT: true; the input reads as it did. -/
def fnExactCoverConjSpec : ChangeSpec := { name := "fnExactCoverConj", fn := fun _ => fun
  | [d1, d2, d3, d4, d5] => { results := [.lit (.bool true)], args := [d1, d2, d3, d4, d5] }
  | _ => none }
def fnExactCoverConjRow : OpenClaim := { program := "ythcdhkelpepeeaa", sum := "a865b490093de7a84f2d6c4537e70fb8026c4257b332744c6c565d819b5cb1a2", func := "loop.example/surfacemaps/laws.FnExactCoverConj", spec := "fnExactCoverConj", unfollowed := true, recurses := true, apart := false }
def FnExactCoverConjSaid : Prop := fnExactCoverConjRow.holds Try.pinned (OpenSpec.ofChange fnExactCoverConjSpec)

/-- ITS FALSE NEIGHBOUR: 'it returns false'. Refute it at one input. -/
def fnExactCoverConjWrong : ChangeSpec := { name := "fnExactCoverConj", fn := fun _ => fun
  | [d1, d2, d3, d4, d5] => { results := [.lit (.bool false)], args := [d1, d2, d3, d4, d5] }
  | _ => none }
def FnExactCoverConjWrongFalsely : Prop := fnExactCoverConjRow.holds Try.pinned (OpenSpec.ofChange fnExactCoverConjWrong)

/-- 'laws.FnExactCoverTree': WHATEVER THE INPUT: true; the input reads as it did. -/
def fnExactCoverTreeSpec : ChangeSpec := { name := "fnExactCoverTree", fn := fun _ => fun
  | [d1, d2, d3] => { results := [.lit (.bool true)], args := [d1, d2, d3] }
  | _ => none }
def fnExactCoverTreeRow : OpenClaim := { program := "ythcdhkelpepeeaa", sum := "a865b490093de7a84f2d6c4537e70fb8026c4257b332744c6c565d819b5cb1a2", func := "loop.example/surfacemaps/laws.FnExactCoverTree", spec := "fnExactCoverTree", unfollowed := true, recurses := true, apart := false }
def FnExactCoverTreeSaid : Prop := fnExactCoverTreeRow.holds Try.pinned (OpenSpec.ofChange fnExactCoverTreeSpec)

/-- ITS FALSE NEIGHBOUR: 'it returns false'. Refute it at one input. -/
def fnExactCoverTreeWrong : ChangeSpec := { name := "fnExactCoverTree", fn := fun _ => fun
  | [d1, d2, d3] => { results := [.lit (.bool false)], args := [d1, d2, d3] }
  | _ => none }
def FnExactCoverTreeWrongFalsely : Prop := fnExactCoverTreeRow.holds Try.pinned (OpenSpec.ofChange fnExactCoverTreeWrong)

/-- 'laws.FnExactCoverShift': WHATEVER THE INPUT: true; the input reads as it did. -/
def fnExactCoverShiftSpec : ChangeSpec := { name := "fnExactCoverShift", fn := fun _ => fun
  | [d1, d2, d3, d4] => { results := [.lit (.bool true)], args := [d1, d2, d3, d4] }
  | _ => none }
def fnExactCoverShiftRow : OpenClaim := { program := "ythcdhkelpepeeaa", sum := "a865b490093de7a84f2d6c4537e70fb8026c4257b332744c6c565d819b5cb1a2", func := "loop.example/surfacemaps/laws.FnExactCoverShift", spec := "fnExactCoverShift", apart := false }
def FnExactCoverShiftSaid : Prop := fnExactCoverShiftRow.holds Try.pinned (OpenSpec.ofChange fnExactCoverShiftSpec)

/-- ITS FALSE NEIGHBOUR: 'it returns false'. Refute it at one input. -/
def fnExactCoverShiftWrong : ChangeSpec := { name := "fnExactCoverShift", fn := fun _ => fun
  | [d1, d2, d3, d4] => { results := [.lit (.bool false)], args := [d1, d2, d3, d4] }
  | _ => none }
def FnExactCoverShiftWrongFalsely : Prop := fnExactCoverShiftRow.holds Try.pinned (OpenSpec.ofChange fnExactCoverShiftWrong)

/-- 'laws.FnExactCoverDeck': WHATEVER THE INPUT: true; the input reads as it did. -/
def fnExactCoverDeckSpec : ChangeSpec := { name := "fnExactCoverDeck", fn := fun _ => fun
  | [d1, d2, d3] => { results := [.lit (.bool true)], args := [d1, d2, d3] }
  | _ => none }
def fnExactCoverDeckRow : OpenClaim := { program := "ythcdhkelpepeeaa", sum := "a865b490093de7a84f2d6c4537e70fb8026c4257b332744c6c565d819b5cb1a2", func := "loop.example/surfacemaps/laws.FnExactCoverDeck", spec := "fnExactCoverDeck", apart := false }
def FnExactCoverDeckSaid : Prop := fnExactCoverDeckRow.holds Try.pinned (OpenSpec.ofChange fnExactCoverDeckSpec)

/-- ITS FALSE NEIGHBOUR: 'it returns false'. Refute it at one input. -/
def fnExactCoverDeckWrong : ChangeSpec := { name := "fnExactCoverDeck", fn := fun _ => fun
  | [d1, d2, d3] => { results := [.lit (.bool false)], args := [d1, d2, d3] }
  | _ => none }
def FnExactCoverDeckWrongFalsely : Prop := fnExactCoverDeckRow.holds Try.pinned (OpenSpec.ofChange fnExactCoverDeckWrong)

/-- 'laws.FnExactCoverTrivial': WHATEVER THE INPUT: true; the input reads as it did. -/
def fnExactCoverTrivialSpec : ChangeSpec := { name := "fnExactCoverTrivial", fn := fun _ => fun
  | [d1, d2] => { results := [.lit (.bool true)], args := [d1, d2] }
  | _ => none }
def fnExactCoverTrivialRow : OpenClaim := { program := "ythcdhkelpepeeaa", sum := "a865b490093de7a84f2d6c4537e70fb8026c4257b332744c6c565d819b5cb1a2", func := "loop.example/surfacemaps/laws.FnExactCoverTrivial", spec := "fnExactCoverTrivial", apart := false }
def FnExactCoverTrivialSaid : Prop := fnExactCoverTrivialRow.holds Try.pinned (OpenSpec.ofChange fnExactCoverTrivialSpec)

/-- ITS FALSE NEIGHBOUR: 'it returns false'. Refute it at one input. -/
def fnExactCoverTrivialWrong : ChangeSpec := { name := "fnExactCoverTrivial", fn := fun _ => fun
  | [d1, d2] => { results := [.lit (.bool false)], args := [d1, d2] }
  | _ => none }
def FnExactCoverTrivialWrongFalsely : Prop := fnExactCoverTrivialRow.holds Try.pinned (OpenSpec.ofChange fnExactCoverTrivialWrong)

/- THE SECOND FORM. 'bulk': how many values and letters a reading holds, each counted each time it is reached (what is shared counts as often as it is met; a slice's spare places count too). A statement '..UptoSaid' is the law's where the arguments, and the package variables that the reading takes, are together of bulk at most 1048576: NARROWER than '..Said'. Prove '..Said' where nothing that the law and all that it calls make is longer than what came in: it says more and counts as full. Else prove '..UptoSaid'. A law counts once. -/
mutual
def uptoBulk {H : Type} : DataW H → Nat
  | .lit (.string bytes) => bytes.length + 1
  | .lit _ => 1
  | .nil => 1
  | .ptr d => uptoBulk d + 1
  | .slice elems spare => uptoBulkAll elems + uptoBulkAll spare + 1
  | .agg parts => uptoBulkAll parts + 1
  | .iface _ d => uptoBulk d + 1
  | .map entries => uptoBulkEntries entries + 1
  | .held _ => 1
def uptoBulkAll {H : Type} : List (DataW H) → Nat
  | [] => 0
  | d :: r => uptoBulk d + uptoBulkAll r
def uptoBulkEntries {H : Type} : List (Lit × DataW H) → Nat
  | [] => 0
  | x :: r => uptoBulkEntry x + uptoBulkEntries r
def uptoBulkEntry {H : Type} : Lit × DataW H → Nat
  | (.string bytes, d) => bytes.length + uptoBulk d + 1
  | (_, d) => uptoBulk d + 1
 end
def uptoSmall : (H : Type) → List (DataW H) → Bool := fun _ ds => decide (uptoBulkAll ds ≤ 1048576)
def OpenSpec.upto (s : _root_.Go.ChangeSpec) : _root_.Go.OpenSpec := { _root_.Go.OpenSpec.ofChange s with cond := some uptoSmall }

/-- 'laws.FnExactVoltageValid', WHERE WHAT IT READS IS OF BULK AT MOST 1048576: true; the input reads as it did. -/
def fnExactVoltageValidUptoRow : OpenClaim := { program := "ythcdhkelpepeeaa", sum := "a865b490093de7a84f2d6c4537e70fb8026c4257b332744c6c565d819b5cb1a2", func := "loop.example/surfacemaps/laws.FnExactVoltageValid", spec := "fnExactVoltageValid", apart := false, narrowed := true }
def FnExactVoltageValidUptoSaid : Prop := fnExactVoltageValidUptoRow.holds Try.pinned (OpenSpec.upto fnExactVoltageValidSpec)

/-- 'laws.FnExactCoverWhole', WHERE WHAT IT READS IS OF BULK AT MOST 1048576: true; the input reads as it did. -/
def fnExactCoverWholeUptoRow : OpenClaim := { program := "ythcdhkelpepeeaa", sum := "a865b490093de7a84f2d6c4537e70fb8026c4257b332744c6c565d819b5cb1a2", func := "loop.example/surfacemaps/laws.FnExactCoverWhole", spec := "fnExactCoverWhole", apart := false, narrowed := true }
def FnExactCoverWholeUptoSaid : Prop := fnExactCoverWholeUptoRow.holds Try.pinned (OpenSpec.upto fnExactCoverWholeSpec)

/-- 'laws.FnExactCoverMap', WHERE WHAT IT READS IS OF BULK AT MOST 1048576: true; the input reads as it did. -/
def fnExactCoverMapUptoRow : OpenClaim := { program := "ythcdhkelpepeeaa", sum := "a865b490093de7a84f2d6c4537e70fb8026c4257b332744c6c565d819b5cb1a2", func := "loop.example/surfacemaps/laws.FnExactCoverMap", spec := "fnExactCoverMap", apart := false, narrowed := true }
def FnExactCoverMapUptoSaid : Prop := fnExactCoverMapUptoRow.holds Try.pinned (OpenSpec.upto fnExactCoverMapSpec)

/-- 'laws.FnExactCoverWinding', WHERE WHAT IT READS IS OF BULK AT MOST 1048576: true; the input reads as it did. -/
def fnExactCoverWindingUptoRow : OpenClaim := { program := "ythcdhkelpepeeaa", sum := "a865b490093de7a84f2d6c4537e70fb8026c4257b332744c6c565d819b5cb1a2", func := "loop.example/surfacemaps/laws.FnExactCoverWinding", spec := "fnExactCoverWinding", unfollowed := true, recurses := true, apart := false, narrowed := true }
def FnExactCoverWindingUptoSaid : Prop := fnExactCoverWindingUptoRow.holds Try.pinned (OpenSpec.upto fnExactCoverWindingSpec)

/-- 'laws.FnExactCoverBranch', WHERE WHAT IT READS IS OF BULK AT MOST 1048576: true; the input reads as it did. -/
def fnExactCoverBranchUptoRow : OpenClaim := { program := "ythcdhkelpepeeaa", sum := "a865b490093de7a84f2d6c4537e70fb8026c4257b332744c6c565d819b5cb1a2", func := "loop.example/surfacemaps/laws.FnExactCoverBranch", spec := "fnExactCoverBranch", unfollowed := true, recurses := true, apart := false, narrowed := true }
def FnExactCoverBranchUptoSaid : Prop := fnExactCoverBranchUptoRow.holds Try.pinned (OpenSpec.upto fnExactCoverBranchSpec)

/-- 'laws.FnExactCoverGenus', WHERE WHAT IT READS IS OF BULK AT MOST 1048576: true; the input reads as it did. -/
def fnExactCoverGenusUptoRow : OpenClaim := { program := "ythcdhkelpepeeaa", sum := "a865b490093de7a84f2d6c4537e70fb8026c4257b332744c6c565d819b5cb1a2", func := "loop.example/surfacemaps/laws.FnExactCoverGenus", spec := "fnExactCoverGenus", unfollowed := true, recurses := true, apart := false, narrowed := true }
def FnExactCoverGenusUptoSaid : Prop := fnExactCoverGenusUptoRow.holds Try.pinned (OpenSpec.upto fnExactCoverGenusSpec)

/-- 'laws.FnExactCoverConj', WHERE WHAT IT READS IS OF BULK AT MOST 1048576: true; the input reads as it did. -/
def fnExactCoverConjUptoRow : OpenClaim := { program := "ythcdhkelpepeeaa", sum := "a865b490093de7a84f2d6c4537e70fb8026c4257b332744c6c565d819b5cb1a2", func := "loop.example/surfacemaps/laws.FnExactCoverConj", spec := "fnExactCoverConj", unfollowed := true, recurses := true, apart := false, narrowed := true }
def FnExactCoverConjUptoSaid : Prop := fnExactCoverConjUptoRow.holds Try.pinned (OpenSpec.upto fnExactCoverConjSpec)

/-- 'laws.FnExactCoverTree', WHERE WHAT IT READS IS OF BULK AT MOST 1048576: true; the input reads as it did. -/
def fnExactCoverTreeUptoRow : OpenClaim := { program := "ythcdhkelpepeeaa", sum := "a865b490093de7a84f2d6c4537e70fb8026c4257b332744c6c565d819b5cb1a2", func := "loop.example/surfacemaps/laws.FnExactCoverTree", spec := "fnExactCoverTree", unfollowed := true, recurses := true, apart := false, narrowed := true }
def FnExactCoverTreeUptoSaid : Prop := fnExactCoverTreeUptoRow.holds Try.pinned (OpenSpec.upto fnExactCoverTreeSpec)

/-- 'laws.FnExactCoverShift', WHERE WHAT IT READS IS OF BULK AT MOST 1048576: true; the input reads as it did. -/
def fnExactCoverShiftUptoRow : OpenClaim := { program := "ythcdhkelpepeeaa", sum := "a865b490093de7a84f2d6c4537e70fb8026c4257b332744c6c565d819b5cb1a2", func := "loop.example/surfacemaps/laws.FnExactCoverShift", spec := "fnExactCoverShift", apart := false, narrowed := true }
def FnExactCoverShiftUptoSaid : Prop := fnExactCoverShiftUptoRow.holds Try.pinned (OpenSpec.upto fnExactCoverShiftSpec)

/-- 'laws.FnExactCoverDeck', WHERE WHAT IT READS IS OF BULK AT MOST 1048576: true; the input reads as it did. -/
def fnExactCoverDeckUptoRow : OpenClaim := { program := "ythcdhkelpepeeaa", sum := "a865b490093de7a84f2d6c4537e70fb8026c4257b332744c6c565d819b5cb1a2", func := "loop.example/surfacemaps/laws.FnExactCoverDeck", spec := "fnExactCoverDeck", apart := false, narrowed := true }
def FnExactCoverDeckUptoSaid : Prop := fnExactCoverDeckUptoRow.holds Try.pinned (OpenSpec.upto fnExactCoverDeckSpec)

/-- 'laws.FnExactCoverTrivial', WHERE WHAT IT READS IS OF BULK AT MOST 1048576: true; the input reads as it did. -/
def fnExactCoverTrivialUptoRow : OpenClaim := { program := "ythcdhkelpepeeaa", sum := "a865b490093de7a84f2d6c4537e70fb8026c4257b332744c6c565d819b5cb1a2", func := "loop.example/surfacemaps/laws.FnExactCoverTrivial", spec := "fnExactCoverTrivial", apart := false, narrowed := true }
def FnExactCoverTrivialUptoSaid : Prop := fnExactCoverTrivialUptoRow.holds Try.pinned (OpenSpec.upto fnExactCoverTrivialSpec)

end Rows
end Go.Proofs.Ythcdhkelpepeeaa
