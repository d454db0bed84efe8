/-
  No cell of these rows narrows 'for every input' (looked for: loops, veiled, ifaces, maps, wideKeys, modest, calm, conditions, laid).
  DERIVED. THE GIVEN ROWS OF THIS SEAT. 7 by the template 'for every input the law returns true; each argument reads behind the call as it read before'; 0 by the template 'total and deterministic' (their statements: YtnhdlfpindlllaaTotals.lean).
  GIVEN WITH THE SEED: the statements are not yours to turn. If you find one false, say at which input.
  Laid BY PROGRAM, IN A SANDBOX (cutbox-rows.mjs): the forced cells as the released guide's own fill.sh prints them over the translation a09d9458f026c3e9… (all of the seat's roots in one cut). By AI agents, Wed Nov 11 2026. No macro, syntax, notation, axiom, sorry.
-/
import Derived.Test.YtnhdlfpindlllaaChecked
import GoSem.Claim
import GoSem.ClaimJoined
import GoSem.ClaimMapViews
import Derived.JoinedTies
import Derived.KernelRfl
namespace Go.Proofs.Ytnhdlfpindlllaa
/- THE CELL 'sum', in the pinned program and in every row, IS THE sha256 OF THE DUMP (.gsa) THAT YtnhdlfpindlllaaProg.lean LOADS. Nothing in Lean hashes anything: it is a label: what it is worth is what the hold of that sum in a sandbox is worth. -/
noncomputable def Try.pinned : Pinned := { name := "ytnhdlfpindlllaa", sum := "a09d9458f026c3e94fc5a3463321202c650d6de2871a9c69e45c5b722eac48e6", checked := Try.checked }
namespace Rows
def none {H : Type} : Left H := { results := [], args := [] }

/-- 'laws.FnExactPartsValid': WHATEVER THE INPUT: true; the input reads as it did. -/
def fnExactPartsValidSpec : ChangeSpec := { name := "fnExactPartsValid", fn := fun _ => fun
  | [d] => { results := [.lit (.bool true)], args := [d] }
  | _ => none }
def fnExactPartsValidRow : OpenClaim := { program := "ytnhdlfpindlllaa", sum := "a09d9458f026c3e94fc5a3463321202c650d6de2871a9c69e45c5b722eac48e6", func := "loop.example/surfacemaps/laws.FnExactPartsValid", spec := "fnExactPartsValid", apart := false }
def FnExactPartsValidSaid : Prop := fnExactPartsValidRow.holds Try.pinned (OpenSpec.ofChange fnExactPartsValidSpec)

/-- ITS FALSE NEIGHBOUR: 'it returns false'. Refute it at one input. -/
def fnExactPartsValidWrong : ChangeSpec := { name := "fnExactPartsValid", fn := fun _ => fun
  | [d] => { results := [.lit (.bool false)], args := [d] }
  | _ => none }
def FnExactPartsValidWrongFalsely : Prop := fnExactPartsValidRow.holds Try.pinned (OpenSpec.ofChange fnExactPartsValidWrong)

/-- 'laws.FnExactPartsConj': WHATEVER THE INPUT: true; the input reads as it did. -/
def fnExactPartsConjSpec : ChangeSpec := { name := "fnExactPartsConj", fn := fun _ => fun
  | [d] => { results := [.lit (.bool true)], args := [d] }
  | _ => none }
def fnExactPartsConjRow : OpenClaim := { program := "ytnhdlfpindlllaa", sum := "a09d9458f026c3e94fc5a3463321202c650d6de2871a9c69e45c5b722eac48e6", func := "loop.example/surfacemaps/laws.FnExactPartsConj", spec := "fnExactPartsConj", apart := false }
def FnExactPartsConjSaid : Prop := fnExactPartsConjRow.holds Try.pinned (OpenSpec.ofChange fnExactPartsConjSpec)

/-- ITS FALSE NEIGHBOUR: 'it returns false'. Refute it at one input. -/
def fnExactPartsConjWrong : ChangeSpec := { name := "fnExactPartsConj", fn := fun _ => fun
  | [d] => { results := [.lit (.bool false)], args := [d] }
  | _ => none }
def FnExactPartsConjWrongFalsely : Prop := fnExactPartsConjRow.holds Try.pinned (OpenSpec.ofChange fnExactPartsConjWrong)

/-- 'laws.FnExactClassSize': WHATEVER THE INPUT: true; the input reads as it did. -/
def fnExactClassSizeSpec : ChangeSpec := { name := "fnExactClassSize", fn := fun _ => fun
  | [d] => { results := [.lit (.bool true)], args := [d] }
  | _ => none }
def fnExactClassSizeRow : OpenClaim := { program := "ytnhdlfpindlllaa", sum := "a09d9458f026c3e94fc5a3463321202c650d6de2871a9c69e45c5b722eac48e6", func := "loop.example/surfacemaps/laws.FnExactClassSize", spec := "fnExactClassSize", apart := false }
def FnExactClassSizeSaid : Prop := fnExactClassSizeRow.holds Try.pinned (OpenSpec.ofChange fnExactClassSizeSpec)

/-- ITS FALSE NEIGHBOUR: 'it returns false'. Refute it at one input. -/
def fnExactClassSizeWrong : ChangeSpec := { name := "fnExactClassSize", fn := fun _ => fun
  | [d] => { results := [.lit (.bool false)], args := [d] }
  | _ => none }
def FnExactClassSizeWrongFalsely : Prop := fnExactClassSizeRow.holds Try.pinned (OpenSpec.ofChange fnExactClassSizeWrong)

/-- 'laws.FnExactClassFirst': WHATEVER THE INPUT: true; the input reads as it did. -/
def fnExactClassFirstSpec : ChangeSpec := { name := "fnExactClassFirst", fn := fun _ => fun
  | [d] => { results := [.lit (.bool true)], args := [d] }
  | _ => none }
def fnExactClassFirstRow : OpenClaim := { program := "ytnhdlfpindlllaa", sum := "a09d9458f026c3e94fc5a3463321202c650d6de2871a9c69e45c5b722eac48e6", func := "loop.example/surfacemaps/laws.FnExactClassFirst", spec := "fnExactClassFirst", apart := false }
def FnExactClassFirstSaid : Prop := fnExactClassFirstRow.holds Try.pinned (OpenSpec.ofChange fnExactClassFirstSpec)

/-- ITS FALSE NEIGHBOUR: 'it returns false'. Refute it at one input. -/
def fnExactClassFirstWrong : ChangeSpec := { name := "fnExactClassFirst", fn := fun _ => fun
  | [d] => { results := [.lit (.bool false)], args := [d] }
  | _ => none }
def FnExactClassFirstWrongFalsely : Prop := fnExactClassFirstRow.holds Try.pinned (OpenSpec.ofChange fnExactClassFirstWrong)

/-- 'laws.FnExactCharDegree': WHATEVER THE INPUT: true; the input reads as it did. -/
def fnExactCharDegreeSpec : ChangeSpec := { name := "fnExactCharDegree", fn := fun _ => fun
  | [d] => { results := [.lit (.bool true)], args := [d] }
  | _ => none }
def fnExactCharDegreeRow : OpenClaim := { program := "ytnhdlfpindlllaa", sum := "a09d9458f026c3e94fc5a3463321202c650d6de2871a9c69e45c5b722eac48e6", func := "loop.example/surfacemaps/laws.FnExactCharDegree", spec := "fnExactCharDegree", apart := false }
def FnExactCharDegreeSaid : Prop := fnExactCharDegreeRow.holds Try.pinned (OpenSpec.ofChange fnExactCharDegreeSpec)

/-- ITS FALSE NEIGHBOUR: 'it returns false'. Refute it at one input. -/
def fnExactCharDegreeWrong : ChangeSpec := { name := "fnExactCharDegree", fn := fun _ => fun
  | [d] => { results := [.lit (.bool false)], args := [d] }
  | _ => none }
def FnExactCharDegreeWrongFalsely : Prop := fnExactCharDegreeRow.holds Try.pinned (OpenSpec.ofChange fnExactCharDegreeWrong)

/-- 'laws.FnExactFactorGenus': WHATEVER THE INPUT: true; the input reads as it did. -/
def fnExactFactorGenusSpec : ChangeSpec := { name := "fnExactFactorGenus", fn := fun _ => fun
  | [d] => { results := [.lit (.bool true)], args := [d] }
  | _ => none }
def fnExactFactorGenusRow : OpenClaim := { program := "ytnhdlfpindlllaa", sum := "a09d9458f026c3e94fc5a3463321202c650d6de2871a9c69e45c5b722eac48e6", func := "loop.example/surfacemaps/laws.FnExactFactorGenus", spec := "fnExactFactorGenus", apart := false }
def FnExactFactorGenusSaid : Prop := fnExactFactorGenusRow.holds Try.pinned (OpenSpec.ofChange fnExactFactorGenusSpec)

/-- ITS FALSE NEIGHBOUR: 'it returns false'. Refute it at one input. -/
def fnExactFactorGenusWrong : ChangeSpec := { name := "fnExactFactorGenus", fn := fun _ => fun
  | [d] => { results := [.lit (.bool false)], args := [d] }
  | _ => none }
def FnExactFactorGenusWrongFalsely : Prop := fnExactFactorGenusRow.holds Try.pinned (OpenSpec.ofChange fnExactFactorGenusWrong)

/-- 'laws.FnExactCharValue': WHATEVER THE INPUT: true; the input reads as it did. -/
def fnExactCharValueSpec : ChangeSpec := { name := "fnExactCharValue", fn := fun _ => fun
  | [d1, d2] => { results := [.lit (.bool true)], args := [d1, d2] }
  | _ => none }
def fnExactCharValueRow : OpenClaim := { program := "ytnhdlfpindlllaa", sum := "a09d9458f026c3e94fc5a3463321202c650d6de2871a9c69e45c5b722eac48e6", func := "loop.example/surfacemaps/laws.FnExactCharValue", spec := "fnExactCharValue", recurses := true, apart := false }
def FnExactCharValueSaid : Prop := fnExactCharValueRow.holds Try.pinned (OpenSpec.ofChange fnExactCharValueSpec)

/-- ITS FALSE NEIGHBOUR: 'it returns false'. Refute it at one input. -/
def fnExactCharValueWrong : ChangeSpec := { name := "fnExactCharValue", fn := fun _ => fun
  | [d1, d2] => { results := [.lit (.bool false)], args := [d1, d2] }
  | _ => none }
def FnExactCharValueWrongFalsely : Prop := fnExactCharValueRow.holds Try.pinned (OpenSpec.ofChange fnExactCharValueWrong)

/- THE SECOND FORM. 'bulk': how many values and letters a reading holds, each counted each time it is reached (what is shared counts as often as it is met; a slice's spare places count too). A statement '..UptoSaid' is the law's where the arguments, and the package variables that the reading takes, are together of bulk at most 1048576: NARROWER than '..Said'. Prove '..Said' where nothing that the law and all that it calls make is longer than what came in: it says more and counts as full. Else prove '..UptoSaid'. A law counts once. -/
mutual
def uptoBulk {H : Type} : DataW H → Nat
  | .lit (.string bytes) => bytes.length + 1
  | .lit _ => 1
  | .nil => 1
  | .ptr d => uptoBulk d + 1
  | .slice elems spare => uptoBulkAll elems + uptoBulkAll spare + 1
  | .agg parts => uptoBulkAll parts + 1
  | .iface _ d => uptoBulk d + 1
  | .map entries => uptoBulkEntries entries + 1
  | .held _ => 1
def uptoBulkAll {H : Type} : List (DataW H) → Nat
  | [] => 0
  | d :: r => uptoBulk d + uptoBulkAll r
def uptoBulkEntries {H : Type} : List (Lit × DataW H) → Nat
  | [] => 0
  | x :: r => uptoBulkEntry x + uptoBulkEntries r
def uptoBulkEntry {H : Type} : Lit × DataW H → Nat
  | (.string bytes, d) => bytes.length + uptoBulk d + 1
  | (_, d) => uptoBulk d + 1
 end
def uptoSmall : (H : Type) → List (DataW H) → Bool := fun _ ds => decide (uptoBulkAll ds ≤ 1048576)
def OpenSpec.upto (s : _root_.Go.ChangeSpec) : _root_.Go.OpenSpec := { _root_.Go.OpenSpec.ofChange s with cond := some uptoSmall }

/-- 'laws.FnExactPartsValid', WHERE WHAT IT READS IS OF BULK AT MOST 1048576: true; the input reads as it did. -/
def fnExactPartsValidUptoRow : OpenClaim := { program := "ytnhdlfpindlllaa", sum := "a09d9458f026c3e94fc5a3463321202c650d6de2871a9c69e45c5b722eac48e6", func := "loop.example/surfacemaps/laws.FnExactPartsValid", spec := "fnExactPartsValid", apart := false, narrowed := true }
def FnExactPartsValidUptoSaid : Prop := fnExactPartsValidUptoRow.holds Try.pinned (OpenSpec.upto fnExactPartsValidSpec)

/-- 'laws.FnExactPartsConj', WHERE WHAT IT READS IS OF BULK AT MOST 1048576: true; the input reads as it did. -/
def fnExactPartsConjUptoRow : OpenClaim := { program := "ytnhdlfpindlllaa", sum := "a09d9458f026c3e94fc5a3463321202c650d6de2871a9c69e45c5b722eac48e6", func := "loop.example/surfacemaps/laws.FnExactPartsConj", spec := "fnExactPartsConj", apart := false, narrowed := true }
def FnExactPartsConjUptoSaid : Prop := fnExactPartsConjUptoRow.holds Try.pinned (OpenSpec.upto fnExactPartsConjSpec)

/-- 'laws.FnExactClassSize', WHERE WHAT IT READS IS OF BULK AT MOST 1048576: true; the input reads as it did. -/
def fnExactClassSizeUptoRow : OpenClaim := { program := "ytnhdlfpindlllaa", sum := "a09d9458f026c3e94fc5a3463321202c650d6de2871a9c69e45c5b722eac48e6", func := "loop.example/surfacemaps/laws.FnExactClassSize", spec := "fnExactClassSize", apart := false, narrowed := true }
def FnExactClassSizeUptoSaid : Prop := fnExactClassSizeUptoRow.holds Try.pinned (OpenSpec.upto fnExactClassSizeSpec)

/-- 'laws.FnExactClassFirst', WHERE WHAT IT READS IS OF BULK AT MOST 1048576: true; the input reads as it did. -/
def fnExactClassFirstUptoRow : OpenClaim := { program := "ytnhdlfpindlllaa", sum := "a09d9458f026c3e94fc5a3463321202c650d6de2871a9c69e45c5b722eac48e6", func := "loop.example/surfacemaps/laws.FnExactClassFirst", spec := "fnExactClassFirst", apart := false, narrowed := true }
def FnExactClassFirstUptoSaid : Prop := fnExactClassFirstUptoRow.holds Try.pinned (OpenSpec.upto fnExactClassFirstSpec)

/-- 'laws.FnExactCharDegree', WHERE WHAT IT READS IS OF BULK AT MOST 1048576: true; the input reads as it did. -/
def fnExactCharDegreeUptoRow : OpenClaim := { program := "ytnhdlfpindlllaa", sum := "a09d9458f026c3e94fc5a3463321202c650d6de2871a9c69e45c5b722eac48e6", func := "loop.example/surfacemaps/laws.FnExactCharDegree", spec := "fnExactCharDegree", apart := false, narrowed := true }
def FnExactCharDegreeUptoSaid : Prop := fnExactCharDegreeUptoRow.holds Try.pinned (OpenSpec.upto fnExactCharDegreeSpec)

/-- 'laws.FnExactFactorGenus', WHERE WHAT IT READS IS OF BULK AT MOST 1048576: true; the input reads as it did. -/
def fnExactFactorGenusUptoRow : OpenClaim := { program := "ytnhdlfpindlllaa", sum := "a09d9458f026c3e94fc5a3463321202c650d6de2871a9c69e45c5b722eac48e6", func := "loop.example/surfacemaps/laws.FnExactFactorGenus", spec := "fnExactFactorGenus", apart := false, narrowed := true }
def FnExactFactorGenusUptoSaid : Prop := fnExactFactorGenusUptoRow.holds Try.pinned (OpenSpec.upto fnExactFactorGenusSpec)

/-- 'laws.FnExactCharValue', WHERE WHAT IT READS IS OF BULK AT MOST 1048576: true; the input reads as it did. -/
def fnExactCharValueUptoRow : OpenClaim := { program := "ytnhdlfpindlllaa", sum := "a09d9458f026c3e94fc5a3463321202c650d6de2871a9c69e45c5b722eac48e6", func := "loop.example/surfacemaps/laws.FnExactCharValue", spec := "fnExactCharValue", recurses := true, apart := false, narrowed := true }
def FnExactCharValueUptoSaid : Prop := fnExactCharValueUptoRow.holds Try.pinned (OpenSpec.upto fnExactCharValueSpec)

end Rows
end Go.Proofs.Ytnhdlfpindlllaa
