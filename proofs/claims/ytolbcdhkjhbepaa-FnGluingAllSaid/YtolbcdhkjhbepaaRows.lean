/-
  No cell of these rows narrows 'for every input' (looked for: loops, veiled, ifaces, maps, wideKeys, modest, calm, conditions, laid).
  DERIVED. THE GIVEN ROWS OF THIS SEAT. 8 by the template 'for every input the law returns true; each argument reads behind the call as it read before'; 0 by the template 'total and deterministic' (their statements: YtolbcdhkjhbepaaTotals.lean).
  GIVEN WITH THE SEED: the statements are not yours to turn. If you find one false, say at which input.
  Laid BY PROGRAM, IN A SANDBOX (cutbox-rows.mjs): the forced cells as the released guide's own fill.sh prints them over the translation e3f34f8b6f7c1ea7… (all of the seat's roots in one cut). By AI agents, Wed Nov 11 2026. No macro, syntax, notation, axiom, sorry.
-/
import Derived.Test.YtolbcdhkjhbepaaChecked
import GoSem.Claim
import GoSem.ClaimJoined
import GoSem.ClaimMapViews
import Derived.JoinedTies
import Derived.KernelRfl
namespace Go.Proofs.Ytolbcdhkjhbepaa
/- THE CELL 'sum', in the pinned program and in every row, IS THE sha256 OF THE DUMP (.gsa) THAT YtolbcdhkjhbepaaProg.lean LOADS. Nothing in Lean hashes anything: it is a label: what it is worth is what the hold of that sum in a sandbox is worth. -/
noncomputable def Try.pinned : Pinned := { name := "ytolbcdhkjhbepaa", sum := "e3f34f8b6f7c1ea784e41bac5c9faca18012abf5c4cb93f552ff987026c01676", checked := Try.checked }
namespace Rows
def none {H : Type} : Left H := { results := [], args := [] }

/-- 'laws.FnExactGluingRun': WHATEVER THE INPUT: true; the input reads as it did. -/
def fnExactGluingRunSpec : ChangeSpec := { name := "fnExactGluingRun", fn := fun _ => fun
  | [d1, d2] => { results := [.lit (.bool true)], args := [d1, d2] }
  | _ => none }
def fnExactGluingRunRow : OpenClaim := { program := "ytolbcdhkjhbepaa", sum := "e3f34f8b6f7c1ea784e41bac5c9faca18012abf5c4cb93f552ff987026c01676", func := "loop.example/surfacemaps/laws.FnExactGluingRun", spec := "fnExactGluingRun", unfollowed := true, recurses := true, plainKeys := false, apart := false }
def FnExactGluingRunSaid : Prop := fnExactGluingRunRow.holds Try.pinned (OpenSpec.ofChange fnExactGluingRunSpec)

/-- ITS FALSE NEIGHBOUR: 'it returns false'. Refute it at one input. -/
def fnExactGluingRunWrong : ChangeSpec := { name := "fnExactGluingRun", fn := fun _ => fun
  | [d1, d2] => { results := [.lit (.bool false)], args := [d1, d2] }
  | _ => none }
def FnExactGluingRunWrongFalsely : Prop := fnExactGluingRunRow.holds Try.pinned (OpenSpec.ofChange fnExactGluingRunWrong)

/-- 'laws.FnExactGluingColors': WHATEVER THE INPUT: true; the input reads as it did. -/
def fnExactGluingColorsSpec : ChangeSpec := { name := "fnExactGluingColors", fn := fun _ => fun
  | [d1, d2] => { results := [.lit (.bool true)], args := [d1, d2] }
  | _ => none }
def fnExactGluingColorsRow : OpenClaim := { program := "ytolbcdhkjhbepaa", sum := "e3f34f8b6f7c1ea784e41bac5c9faca18012abf5c4cb93f552ff987026c01676", func := "loop.example/surfacemaps/laws.FnExactGluingColors", spec := "fnExactGluingColors", plainKeys := false, apart := false }
def FnExactGluingColorsSaid : Prop := fnExactGluingColorsRow.holds Try.pinned (OpenSpec.ofChange fnExactGluingColorsSpec)

/-- ITS FALSE NEIGHBOUR: 'it returns false'. Refute it at one input. -/
def fnExactGluingColorsWrong : ChangeSpec := { name := "fnExactGluingColors", fn := fun _ => fun
  | [d1, d2] => { results := [.lit (.bool false)], args := [d1, d2] }
  | _ => none }
def FnExactGluingColorsWrongFalsely : Prop := fnExactGluingColorsRow.holds Try.pinned (OpenSpec.ofChange fnExactGluingColorsWrong)

/-- 'laws.FnExactGluingCount': WHATEVER THE INPUT: true; the input reads as it did. -/
def fnExactGluingCountSpec : ChangeSpec := { name := "fnExactGluingCount", fn := fun _ => fun
  | [d1, d2] => { results := [.lit (.bool true)], args := [d1, d2] }
  | _ => none }
def fnExactGluingCountRow : OpenClaim := { program := "ytolbcdhkjhbepaa", sum := "e3f34f8b6f7c1ea784e41bac5c9faca18012abf5c4cb93f552ff987026c01676", func := "loop.example/surfacemaps/laws.FnExactGluingCount", spec := "fnExactGluingCount", unfollowed := true, recurses := true, plainKeys := false, apart := false }
def FnExactGluingCountSaid : Prop := fnExactGluingCountRow.holds Try.pinned (OpenSpec.ofChange fnExactGluingCountSpec)

/-- ITS FALSE NEIGHBOUR: 'it returns false'. Refute it at one input. -/
def fnExactGluingCountWrong : ChangeSpec := { name := "fnExactGluingCount", fn := fun _ => fun
  | [d1, d2] => { results := [.lit (.bool false)], args := [d1, d2] }
  | _ => none }
def FnExactGluingCountWrongFalsely : Prop := fnExactGluingCountRow.holds Try.pinned (OpenSpec.ofChange fnExactGluingCountWrong)

/-- 'laws.FnExactGluingAll': WHATEVER THE INPUT: true; the input reads as it did. -/
def fnExactGluingAllSpec : ChangeSpec := { name := "fnExactGluingAll", fn := fun _ => fun
  | [d] => { results := [.lit (.bool true)], args := [d] }
  | _ => none }
def fnExactGluingAllRow : OpenClaim := { program := "ytolbcdhkjhbepaa", sum := "e3f34f8b6f7c1ea784e41bac5c9faca18012abf5c4cb93f552ff987026c01676", func := "loop.example/surfacemaps/laws.FnExactGluingAll", spec := "fnExactGluingAll", unfollowed := true, recurses := true, plainKeys := false, apart := false }
def FnExactGluingAllSaid : Prop := fnExactGluingAllRow.holds Try.pinned (OpenSpec.ofChange fnExactGluingAllSpec)

/-- ITS FALSE NEIGHBOUR: 'it returns false'. Refute it at one input. -/
def fnExactGluingAllWrong : ChangeSpec := { name := "fnExactGluingAll", fn := fun _ => fun
  | [d] => { results := [.lit (.bool false)], args := [d] }
  | _ => none }
def FnExactGluingAllWrongFalsely : Prop := fnExactGluingAllRow.holds Try.pinned (OpenSpec.ofChange fnExactGluingAllWrong)

/-- 'laws.FnGluingRun': WHATEVER THE INPUT: true; the input reads as it did. -/
def fnGluingRunSpec : ChangeSpec := { name := "fnGluingRun", fn := fun _ => fun
  | [d] => { results := [.lit (.bool true)], args := [d] }
  | _ => none }
def fnGluingRunRow : OpenClaim := { program := "ytolbcdhkjhbepaa", sum := "e3f34f8b6f7c1ea784e41bac5c9faca18012abf5c4cb93f552ff987026c01676", func := "loop.example/surfacemaps/laws.FnGluingRun", spec := "fnGluingRun", unfollowed := true, recurses := true, plainKeys := false, apart := false }
def FnGluingRunSaid : Prop := fnGluingRunRow.holds Try.pinned (OpenSpec.ofChange fnGluingRunSpec)

/-- ITS FALSE NEIGHBOUR: 'it returns false'. Refute it at one input. -/
def fnGluingRunWrong : ChangeSpec := { name := "fnGluingRun", fn := fun _ => fun
  | [d] => { results := [.lit (.bool false)], args := [d] }
  | _ => none }
def FnGluingRunWrongFalsely : Prop := fnGluingRunRow.holds Try.pinned (OpenSpec.ofChange fnGluingRunWrong)

/-- 'laws.FnColors': WHATEVER THE INPUT: true; the input reads as it did. -/
def fnColorsSpec : ChangeSpec := { name := "fnColors", fn := fun _ => fun
  | [d] => { results := [.lit (.bool true)], args := [d] }
  | _ => none }
def fnColorsRow : OpenClaim := { program := "ytolbcdhkjhbepaa", sum := "e3f34f8b6f7c1ea784e41bac5c9faca18012abf5c4cb93f552ff987026c01676", func := "loop.example/surfacemaps/laws.FnColors", spec := "fnColors", unfollowed := true, recurses := true, plainKeys := false, apart := false }
def FnColorsSaid : Prop := fnColorsRow.holds Try.pinned (OpenSpec.ofChange fnColorsSpec)

/-- ITS FALSE NEIGHBOUR: 'it returns false'. Refute it at one input. -/
def fnColorsWrong : ChangeSpec := { name := "fnColors", fn := fun _ => fun
  | [d] => { results := [.lit (.bool false)], args := [d] }
  | _ => none }
def FnColorsWrongFalsely : Prop := fnColorsRow.holds Try.pinned (OpenSpec.ofChange fnColorsWrong)

/-- 'laws.FnGluingAll': WHATEVER THE INPUT: true; the input reads as it did. -/
def fnGluingAllSpec : ChangeSpec := { name := "fnGluingAll", fn := fun _ => fun
  | [d] => { results := [.lit (.bool true)], args := [d] }
  | _ => none }
def fnGluingAllRow : OpenClaim := { program := "ytolbcdhkjhbepaa", sum := "e3f34f8b6f7c1ea784e41bac5c9faca18012abf5c4cb93f552ff987026c01676", func := "loop.example/surfacemaps/laws.FnGluingAll", spec := "fnGluingAll", unfollowed := true, recurses := true, plainKeys := false, apart := false }
def FnGluingAllSaid : Prop := fnGluingAllRow.holds Try.pinned (OpenSpec.ofChange fnGluingAllSpec)

/-- ITS FALSE NEIGHBOUR: 'it returns false'. Refute it at one input. -/
def fnGluingAllWrong : ChangeSpec := { name := "fnGluingAll", fn := fun _ => fun
  | [d] => { results := [.lit (.bool false)], args := [d] }
  | _ => none }
def FnGluingAllWrongFalsely : Prop := fnGluingAllRow.holds Try.pinned (OpenSpec.ofChange fnGluingAllWrong)

/-- 'laws.FnGluingCount': WHATEVER THE INPUT: true; the input reads as it did. -/
def fnGluingCountSpec : ChangeSpec := { name := "fnGluingCount", fn := fun _ => fun
  | [d] => { results := [.lit (.bool true)], args := [d] }
  | _ => none }
def fnGluingCountRow : OpenClaim := { program := "ytolbcdhkjhbepaa", sum := "e3f34f8b6f7c1ea784e41bac5c9faca18012abf5c4cb93f552ff987026c01676", func := "loop.example/surfacemaps/laws.FnGluingCount", spec := "fnGluingCount", unfollowed := true, recurses := true, plainKeys := false, apart := false }
def FnGluingCountSaid : Prop := fnGluingCountRow.holds Try.pinned (OpenSpec.ofChange fnGluingCountSpec)

/-- ITS FALSE NEIGHBOUR: 'it returns false'. Refute it at one input. -/
def fnGluingCountWrong : ChangeSpec := { name := "fnGluingCount", fn := fun _ => fun
  | [d] => { results := [.lit (.bool false)], args := [d] }
  | _ => none }
def FnGluingCountWrongFalsely : Prop := fnGluingCountRow.holds Try.pinned (OpenSpec.ofChange fnGluingCountWrong)

/- THE SECOND FORM. 'bulk': how many values and letters a reading holds, each counted each time it is reached (what is shared counts as often as it is met; a slice's spare places count too). A statement '..UptoSaid' is the law's where the arguments, and the package variables that the reading takes, are together of bulk at most 1048576: NARROWER than '..Said'. Prove '..Said' where nothing that the law and all that it calls make is longer than what came in: it says more and counts as full. Else prove '..UptoSaid'. A law counts once. -/
mutual
def uptoBulk {H : Type} : DataW H → Nat
  | .lit (.string bytes) => bytes.length + 1
  | .lit _ => 1
  | .nil => 1
  | .ptr d => uptoBulk d + 1
  | .slice elems spare => uptoBulkAll elems + uptoBulkAll spare + 1
  | .agg parts => uptoBulkAll parts + 1
  | .iface _ d => uptoBulk d + 1
  | .map entries => uptoBulkEntries entries + 1
  | .held _ => 1
def uptoBulkAll {H : Type} : List (DataW H) → Nat
  | [] => 0
  | d :: r => uptoBulk d + uptoBulkAll r
def uptoBulkEntries {H : Type} : List (Lit × DataW H) → Nat
  | [] => 0
  | x :: r => uptoBulkEntry x + uptoBulkEntries r
def uptoBulkEntry {H : Type} : Lit × DataW H → Nat
  | (.string bytes, d) => bytes.length + uptoBulk d + 1
  | (_, d) => uptoBulk d + 1
 end
def uptoSmall : (H : Type) → List (DataW H) → Bool := fun _ ds => decide (uptoBulkAll ds ≤ 1048576)
def OpenSpec.upto (s : _root_.Go.ChangeSpec) : _root_.Go.OpenSpec := { _root_.Go.OpenSpec.ofChange s with cond := some uptoSmall }

/-- 'laws.FnExactGluingRun', WHERE WHAT IT READS IS OF BULK AT MOST 1048576: true; the input reads as it did. -/
def fnExactGluingRunUptoRow : OpenClaim := { program := "ytolbcdhkjhbepaa", sum := "e3f34f8b6f7c1ea784e41bac5c9faca18012abf5c4cb93f552ff987026c01676", func := "loop.example/surfacemaps/laws.FnExactGluingRun", spec := "fnExactGluingRun", unfollowed := true, recurses := true, plainKeys := false, apart := false, narrowed := true }
def FnExactGluingRunUptoSaid : Prop := fnExactGluingRunUptoRow.holds Try.pinned (OpenSpec.upto fnExactGluingRunSpec)

/-- 'laws.FnExactGluingColors', WHERE WHAT IT READS IS OF BULK AT MOST 1048576: true; the input reads as it did. -/
def fnExactGluingColorsUptoRow : OpenClaim := { program := "ytolbcdhkjhbepaa", sum := "e3f34f8b6f7c1ea784e41bac5c9faca18012abf5c4cb93f552ff987026c01676", func := "loop.example/surfacemaps/laws.FnExactGluingColors", spec := "fnExactGluingColors", plainKeys := false, apart := false, narrowed := true }
def FnExactGluingColorsUptoSaid : Prop := fnExactGluingColorsUptoRow.holds Try.pinned (OpenSpec.upto fnExactGluingColorsSpec)

/-- 'laws.FnExactGluingCount', WHERE WHAT IT READS IS OF BULK AT MOST 1048576: true; the input reads as it did. -/
def fnExactGluingCountUptoRow : OpenClaim := { program := "ytolbcdhkjhbepaa", sum := "e3f34f8b6f7c1ea784e41bac5c9faca18012abf5c4cb93f552ff987026c01676", func := "loop.example/surfacemaps/laws.FnExactGluingCount", spec := "fnExactGluingCount", unfollowed := true, recurses := true, plainKeys := false, apart := false, narrowed := true }
def FnExactGluingCountUptoSaid : Prop := fnExactGluingCountUptoRow.holds Try.pinned (OpenSpec.upto fnExactGluingCountSpec)

/-- 'laws.FnExactGluingAll', WHERE WHAT IT READS IS OF BULK AT MOST 1048576: true; the input reads as it did. -/
def fnExactGluingAllUptoRow : OpenClaim := { program := "ytolbcdhkjhbepaa", sum := "e3f34f8b6f7c1ea784e41bac5c9faca18012abf5c4cb93f552ff987026c01676", func := "loop.example/surfacemaps/laws.FnExactGluingAll", spec := "fnExactGluingAll", unfollowed := true, recurses := true, plainKeys := false, apart := false, narrowed := true }
def FnExactGluingAllUptoSaid : Prop := fnExactGluingAllUptoRow.holds Try.pinned (OpenSpec.upto fnExactGluingAllSpec)

/-- 'laws.FnGluingRun', WHERE WHAT IT READS IS OF BULK AT MOST 1048576: true; the input reads as it did. -/
def fnGluingRunUptoRow : OpenClaim := { program := "ytolbcdhkjhbepaa", sum := "e3f34f8b6f7c1ea784e41bac5c9faca18012abf5c4cb93f552ff987026c01676", func := "loop.example/surfacemaps/laws.FnGluingRun", spec := "fnGluingRun", unfollowed := true, recurses := true, plainKeys := false, apart := false, narrowed := true }
def FnGluingRunUptoSaid : Prop := fnGluingRunUptoRow.holds Try.pinned (OpenSpec.upto fnGluingRunSpec)

/-- 'laws.FnColors', WHERE WHAT IT READS IS OF BULK AT MOST 1048576: true; the input reads as it did. -/
def fnColorsUptoRow : OpenClaim := { program := "ytolbcdhkjhbepaa", sum := "e3f34f8b6f7c1ea784e41bac5c9faca18012abf5c4cb93f552ff987026c01676", func := "loop.example/surfacemaps/laws.FnColors", spec := "fnColors", unfollowed := true, recurses := true, plainKeys := false, apart := false, narrowed := true }
def FnColorsUptoSaid : Prop := fnColorsUptoRow.holds Try.pinned (OpenSpec.upto fnColorsSpec)

/-- 'laws.FnGluingAll', WHERE WHAT IT READS IS OF BULK AT MOST 1048576: true; the input reads as it did. -/
def fnGluingAllUptoRow : OpenClaim := { program := "ytolbcdhkjhbepaa", sum := "e3f34f8b6f7c1ea784e41bac5c9faca18012abf5c4cb93f552ff987026c01676", func := "loop.example/surfacemaps/laws.FnGluingAll", spec := "fnGluingAll", unfollowed := true, recurses := true, plainKeys := false, apart := false, narrowed := true }
def FnGluingAllUptoSaid : Prop := fnGluingAllUptoRow.holds Try.pinned (OpenSpec.upto fnGluingAllSpec)

/-- 'laws.FnGluingCount', WHERE WHAT IT READS IS OF BULK AT MOST 1048576: true; the input reads as it did. -/
def fnGluingCountUptoRow : OpenClaim := { program := "ytolbcdhkjhbepaa", sum := "e3f34f8b6f7c1ea784e41bac5c9faca18012abf5c4cb93f552ff987026c01676", func := "loop.example/surfacemaps/laws.FnGluingCount", spec := "fnGluingCount", unfollowed := true, recurses := true, plainKeys := false, apart := false, narrowed := true }
def FnGluingCountUptoSaid : Prop := fnGluingCountUptoRow.holds Try.pinned (OpenSpec.upto fnGluingCountSpec)

end Rows
end Go.Proofs.Ytolbcdhkjhbepaa
