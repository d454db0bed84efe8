/-
  No cell of these rows narrows 'for every input' (looked for: loops, veiled, ifaces, maps, wideKeys, modest, calm, conditions, laid).
  DERIVED. THE GIVEN ROWS OF THIS SEAT. 8 by the template 'for every input the law returns true; each argument reads behind the call as it read before'; 0 by the template 'total and deterministic' (their statements: YthggadkmipicgaaTotals.lean).
  GIVEN WITH THE SEED: the statements are not yours to turn. If you find one false, say at which input.
  Laid BY PROGRAM, IN A SANDBOX (cutbox-rows.mjs): the forced cells as the released guide's own fill.sh prints them over the translation fd814e9f1e1ab20b… (all of the seat's roots in one cut). By AI agents, Wed Nov 11 2026. No macro, syntax, notation, axiom, sorry.
-/
import Derived.Test.YthggadkmipicgaaChecked
import GoSem.Claim
import GoSem.ClaimJoined
import GoSem.ClaimMapViews
import Derived.JoinedTies
import Derived.KernelRfl
namespace Go.Proofs.Ythggadkmipicgaa
/- THE CELL 'sum', in the pinned program and in every row, IS THE sha256 OF THE DUMP (.gsa) THAT YthggadkmipicgaaProg.lean LOADS. Nothing in Lean hashes anything: it is a label: what it is worth is what the hold of that sum in a sandbox is worth. -/
noncomputable def Try.pinned : Pinned := { name := "ythggadkmipicgaa", sum := "fd814e9f1e1ab20b115e9697d9ab369e84fb897c8d0efdd140ffcd0073c1fa66", checked := Try.checked }
namespace Rows
def none {H : Type} : Left H := { results := [], args := [] }

/-- 'laws.FnExactTreeValid': WHATEVER THE INPUT: true; the input reads as it did. -/
def fnExactTreeValidSpec : ChangeSpec := { name := "fnExactTreeValid", fn := fun _ => fun
  | [d] => { results := [.lit (.bool true)], args := [d] }
  | _ => none }
def fnExactTreeValidRow : OpenClaim := { program := "ythggadkmipicgaa", sum := "fd814e9f1e1ab20b115e9697d9ab369e84fb897c8d0efdd140ffcd0073c1fa66", func := "loop.example/surfacemaps/laws.FnExactTreeValid", spec := "fnExactTreeValid", apart := false }
def FnExactTreeValidSaid : Prop := fnExactTreeValidRow.holds Try.pinned (OpenSpec.ofChange fnExactTreeValidSpec)

/-- ITS FALSE NEIGHBOUR: 'it returns false'. Refute it at one input. -/
def fnExactTreeValidWrong : ChangeSpec := { name := "fnExactTreeValid", fn := fun _ => fun
  | [d] => { results := [.lit (.bool false)], args := [d] }
  | _ => none }
def FnExactTreeValidWrongFalsely : Prop := fnExactTreeValidRow.holds Try.pinned (OpenSpec.ofChange fnExactTreeValidWrong)

/-- 'laws.FnExactTreeLabels': WHATEVER THE INPUT: true; the input reads as it did. -/
def fnExactTreeLabelsSpec : ChangeSpec := { name := "fnExactTreeLabels", fn := fun _ => fun
  | [d] => { results := [.lit (.bool true)], args := [d] }
  | _ => none }
def fnExactTreeLabelsRow : OpenClaim := { program := "ythggadkmipicgaa", sum := "fd814e9f1e1ab20b115e9697d9ab369e84fb897c8d0efdd140ffcd0073c1fa66", func := "loop.example/surfacemaps/laws.FnExactTreeLabels", spec := "fnExactTreeLabels", recurses := true, apart := false }
def FnExactTreeLabelsSaid : Prop := fnExactTreeLabelsRow.holds Try.pinned (OpenSpec.ofChange fnExactTreeLabelsSpec)

/-- ITS FALSE NEIGHBOUR: 'it returns false'. Refute it at one input. -/
def fnExactTreeLabelsWrong : ChangeSpec := { name := "fnExactTreeLabels", fn := fun _ => fun
  | [d] => { results := [.lit (.bool false)], args := [d] }
  | _ => none }
def FnExactTreeLabelsWrongFalsely : Prop := fnExactTreeLabelsRow.holds Try.pinned (OpenSpec.ofChange fnExactTreeLabelsWrong)

/-- 'laws.FnExactTreeNext': WHATEVER THE INPUT: true; the input reads as it did. -/
def fnExactTreeNextSpec : ChangeSpec := { name := "fnExactTreeNext", fn := fun _ => fun
  | [d] => { results := [.lit (.bool true)], args := [d] }
  | _ => none }
def fnExactTreeNextRow : OpenClaim := { program := "ythggadkmipicgaa", sum := "fd814e9f1e1ab20b115e9697d9ab369e84fb897c8d0efdd140ffcd0073c1fa66", func := "loop.example/surfacemaps/laws.FnExactTreeNext", spec := "fnExactTreeNext", unfollowed := true, recurses := true, apart := false }
def FnExactTreeNextSaid : Prop := fnExactTreeNextRow.holds Try.pinned (OpenSpec.ofChange fnExactTreeNextSpec)

/-- ITS FALSE NEIGHBOUR: 'it returns false'. Refute it at one input. -/
def fnExactTreeNextWrong : ChangeSpec := { name := "fnExactTreeNext", fn := fun _ => fun
  | [d] => { results := [.lit (.bool false)], args := [d] }
  | _ => none }
def FnExactTreeNextWrongFalsely : Prop := fnExactTreeNextRow.holds Try.pinned (OpenSpec.ofChange fnExactTreeNextWrong)

/-- 'laws.FnExactTreeMap': WHATEVER THE INPUT: true; the input reads as it did. -/
def fnExactTreeMapSpec : ChangeSpec := { name := "fnExactTreeMap", fn := fun _ => fun
  | [d] => { results := [.lit (.bool true)], args := [d] }
  | _ => none }
def fnExactTreeMapRow : OpenClaim := { program := "ythggadkmipicgaa", sum := "fd814e9f1e1ab20b115e9697d9ab369e84fb897c8d0efdd140ffcd0073c1fa66", func := "loop.example/surfacemaps/laws.FnExactTreeMap", spec := "fnExactTreeMap", recurses := true, apart := false }
def FnExactTreeMapSaid : Prop := fnExactTreeMapRow.holds Try.pinned (OpenSpec.ofChange fnExactTreeMapSpec)

/-- ITS FALSE NEIGHBOUR: 'it returns false'. Refute it at one input. -/
def fnExactTreeMapWrong : ChangeSpec := { name := "fnExactTreeMap", fn := fun _ => fun
  | [d] => { results := [.lit (.bool false)], args := [d] }
  | _ => none }
def FnExactTreeMapWrongFalsely : Prop := fnExactTreeMapRow.holds Try.pinned (OpenSpec.ofChange fnExactTreeMapWrong)

/-- 'laws.FnExactTreeQuad': WHATEVER THE INPUT: true; the input reads as it did. -/
def fnExactTreeQuadSpec : ChangeSpec := { name := "fnExactTreeQuad", fn := fun _ => fun
  | [d] => { results := [.lit (.bool true)], args := [d] }
  | _ => none }
def fnExactTreeQuadRow : OpenClaim := { program := "ythggadkmipicgaa", sum := "fd814e9f1e1ab20b115e9697d9ab369e84fb897c8d0efdd140ffcd0073c1fa66", func := "loop.example/surfacemaps/laws.FnExactTreeQuad", spec := "fnExactTreeQuad", unfollowed := true, recurses := true, apart := false }
def FnExactTreeQuadSaid : Prop := fnExactTreeQuadRow.holds Try.pinned (OpenSpec.ofChange fnExactTreeQuadSpec)

/-- ITS FALSE NEIGHBOUR: 'it returns false'. Refute it at one input. -/
def fnExactTreeQuadWrong : ChangeSpec := { name := "fnExactTreeQuad", fn := fun _ => fun
  | [d] => { results := [.lit (.bool false)], args := [d] }
  | _ => none }
def FnExactTreeQuadWrongFalsely : Prop := fnExactTreeQuadRow.holds Try.pinned (OpenSpec.ofChange fnExactTreeQuadWrong)

/-- 'laws.FnExactTreesMany': WHATEVER THE INPUT: true; the input reads as it did. -/
def fnExactTreesManySpec : ChangeSpec := { name := "fnExactTreesMany", fn := fun _ => fun
  | [d] => { results := [.lit (.bool true)], args := [d] }
  | _ => none }
def fnExactTreesManyRow : OpenClaim := { program := "ythggadkmipicgaa", sum := "fd814e9f1e1ab20b115e9697d9ab369e84fb897c8d0efdd140ffcd0073c1fa66", func := "loop.example/surfacemaps/laws.FnExactTreesMany", spec := "fnExactTreesMany", apart := false }
def FnExactTreesManySaid : Prop := fnExactTreesManyRow.holds Try.pinned (OpenSpec.ofChange fnExactTreesManySpec)

/-- ITS FALSE NEIGHBOUR: 'it returns false'. Refute it at one input. -/
def fnExactTreesManyWrong : ChangeSpec := { name := "fnExactTreesMany", fn := fun _ => fun
  | [d] => { results := [.lit (.bool false)], args := [d] }
  | _ => none }
def FnExactTreesManyWrongFalsely : Prop := fnExactTreesManyRow.holds Try.pinned (OpenSpec.ofChange fnExactTreesManyWrong)

/-- 'laws.FnExactTreeAll': WHATEVER THE INPUT: true; the input reads as it did. -/
def fnExactTreeAllSpec : ChangeSpec := { name := "fnExactTreeAll", fn := fun _ => fun
  | [d] => { results := [.lit (.bool true)], args := [d] }
  | _ => none }
def fnExactTreeAllRow : OpenClaim := { program := "ythggadkmipicgaa", sum := "fd814e9f1e1ab20b115e9697d9ab369e84fb897c8d0efdd140ffcd0073c1fa66", func := "loop.example/surfacemaps/laws.FnExactTreeAll", spec := "fnExactTreeAll", inPlace := ["internal/bytealg.CountString", "internal/bytealg.IndexByteString", "internal/bytealg.IndexString"], unfollowed := true, recurses := true, named := ["internal/bytealg.MaxLen"], apart := false }
def FnExactTreeAllSaid : Prop := fnExactTreeAllRow.holds Try.pinned (OpenSpec.ofChange fnExactTreeAllSpec)

/-- ITS FALSE NEIGHBOUR: 'it returns false'. Refute it at one input. -/
def fnExactTreeAllWrong : ChangeSpec := { name := "fnExactTreeAll", fn := fun _ => fun
  | [d] => { results := [.lit (.bool false)], args := [d] }
  | _ => none }
def FnExactTreeAllWrongFalsely : Prop := fnExactTreeAllRow.holds Try.pinned (OpenSpec.ofChange fnExactTreeAllWrong)

/-- 'laws.FnTreesMany': WHATEVER THE INPUT: true; the input reads as it did. -/
def fnTreesManySpec : ChangeSpec := { name := "fnTreesMany", fn := fun _ => fun
  | [d] => { results := [.lit (.bool true)], args := [d] }
  | _ => none }
def fnTreesManyRow : OpenClaim := { program := "ythggadkmipicgaa", sum := "fd814e9f1e1ab20b115e9697d9ab369e84fb897c8d0efdd140ffcd0073c1fa66", func := "loop.example/surfacemaps/laws.FnTreesMany", spec := "fnTreesMany", apart := false }
def FnTreesManySaid : Prop := fnTreesManyRow.holds Try.pinned (OpenSpec.ofChange fnTreesManySpec)

/-- ITS FALSE NEIGHBOUR: 'it returns false'. Refute it at one input. -/
def fnTreesManyWrong : ChangeSpec := { name := "fnTreesMany", fn := fun _ => fun
  | [d] => { results := [.lit (.bool false)], args := [d] }
  | _ => none }
def FnTreesManyWrongFalsely : Prop := fnTreesManyRow.holds Try.pinned (OpenSpec.ofChange fnTreesManyWrong)

/- THE SECOND FORM. 'bulk': how many values and letters a reading holds, each counted each time it is reached (what is shared counts as often as it is met; a slice's spare places count too). A statement '..UptoSaid' is the law's where the arguments, and the package variables that the reading takes, are together of bulk at most 1048576: NARROWER than '..Said'. Prove '..Said' where nothing that the law and all that it calls make is longer than what came in: it says more and counts as full. Else prove '..UptoSaid'. A law counts once. -/
mutual
def uptoBulk {H : Type} : DataW H → Nat
  | .lit (.string bytes) => bytes.length + 1
  | .lit _ => 1
  | .nil => 1
  | .ptr d => uptoBulk d + 1
  | .slice elems spare => uptoBulkAll elems + uptoBulkAll spare + 1
  | .agg parts => uptoBulkAll parts + 1
  | .iface _ d => uptoBulk d + 1
  | .map entries => uptoBulkEntries entries + 1
  | .held _ => 1
def uptoBulkAll {H : Type} : List (DataW H) → Nat
  | [] => 0
  | d :: r => uptoBulk d + uptoBulkAll r
def uptoBulkEntries {H : Type} : List (Lit × DataW H) → Nat
  | [] => 0
  | x :: r => uptoBulkEntry x + uptoBulkEntries r
def uptoBulkEntry {H : Type} : Lit × DataW H → Nat
  | (.string bytes, d) => bytes.length + uptoBulk d + 1
  | (_, d) => uptoBulk d + 1
 end
def uptoSmall : (H : Type) → List (DataW H) → Bool := fun _ ds => decide (uptoBulkAll ds ≤ 1048576)
def OpenSpec.upto (s : _root_.Go.ChangeSpec) : _root_.Go.OpenSpec := { _root_.Go.OpenSpec.ofChange s with cond := some uptoSmall }

/-- 'laws.FnExactTreeValid', WHERE WHAT IT READS IS OF BULK AT MOST 1048576: true; the input reads as it did. -/
def fnExactTreeValidUptoRow : OpenClaim := { program := "ythggadkmipicgaa", sum := "fd814e9f1e1ab20b115e9697d9ab369e84fb897c8d0efdd140ffcd0073c1fa66", func := "loop.example/surfacemaps/laws.FnExactTreeValid", spec := "fnExactTreeValid", apart := false, narrowed := true }
def FnExactTreeValidUptoSaid : Prop := fnExactTreeValidUptoRow.holds Try.pinned (OpenSpec.upto fnExactTreeValidSpec)

/-- 'laws.FnExactTreeLabels', WHERE WHAT IT READS IS OF BULK AT MOST 1048576: true; the input reads as it did. -/
def fnExactTreeLabelsUptoRow : OpenClaim := { program := "ythggadkmipicgaa", sum := "fd814e9f1e1ab20b115e9697d9ab369e84fb897c8d0efdd140ffcd0073c1fa66", func := "loop.example/surfacemaps/laws.FnExactTreeLabels", spec := "fnExactTreeLabels", recurses := true, apart := false, narrowed := true }
def FnExactTreeLabelsUptoSaid : Prop := fnExactTreeLabelsUptoRow.holds Try.pinned (OpenSpec.upto fnExactTreeLabelsSpec)

/-- 'laws.FnExactTreeNext', WHERE WHAT IT READS IS OF BULK AT MOST 1048576: true; the input reads as it did. -/
def fnExactTreeNextUptoRow : OpenClaim := { program := "ythggadkmipicgaa", sum := "fd814e9f1e1ab20b115e9697d9ab369e84fb897c8d0efdd140ffcd0073c1fa66", func := "loop.example/surfacemaps/laws.FnExactTreeNext", spec := "fnExactTreeNext", unfollowed := true, recurses := true, apart := false, narrowed := true }
def FnExactTreeNextUptoSaid : Prop := fnExactTreeNextUptoRow.holds Try.pinned (OpenSpec.upto fnExactTreeNextSpec)

/-- 'laws.FnExactTreeMap', WHERE WHAT IT READS IS OF BULK AT MOST 1048576: true; the input reads as it did. -/
def fnExactTreeMapUptoRow : OpenClaim := { program := "ythggadkmipicgaa", sum := "fd814e9f1e1ab20b115e9697d9ab369e84fb897c8d0efdd140ffcd0073c1fa66", func := "loop.example/surfacemaps/laws.FnExactTreeMap", spec := "fnExactTreeMap", recurses := true, apart := false, narrowed := true }
def FnExactTreeMapUptoSaid : Prop := fnExactTreeMapUptoRow.holds Try.pinned (OpenSpec.upto fnExactTreeMapSpec)

/-- 'laws.FnExactTreeQuad', WHERE WHAT IT READS IS OF BULK AT MOST 1048576: true; the input reads as it did. -/
def fnExactTreeQuadUptoRow : OpenClaim := { program := "ythggadkmipicgaa", sum := "fd814e9f1e1ab20b115e9697d9ab369e84fb897c8d0efdd140ffcd0073c1fa66", func := "loop.example/surfacemaps/laws.FnExactTreeQuad", spec := "fnExactTreeQuad", unfollowed := true, recurses := true, apart := false, narrowed := true }
def FnExactTreeQuadUptoSaid : Prop := fnExactTreeQuadUptoRow.holds Try.pinned (OpenSpec.upto fnExactTreeQuadSpec)

/-- 'laws.FnExactTreesMany', WHERE WHAT IT READS IS OF BULK AT MOST 1048576: true; the input reads as it did. -/
def fnExactTreesManyUptoRow : OpenClaim := { program := "ythggadkmipicgaa", sum := "fd814e9f1e1ab20b115e9697d9ab369e84fb897c8d0efdd140ffcd0073c1fa66", func := "loop.example/surfacemaps/laws.FnExactTreesMany", spec := "fnExactTreesMany", apart := false, narrowed := true }
def FnExactTreesManyUptoSaid : Prop := fnExactTreesManyUptoRow.holds Try.pinned (OpenSpec.upto fnExactTreesManySpec)

/-- 'laws.FnExactTreeAll', WHERE WHAT IT READS IS OF BULK AT MOST 1048576: true; the input reads as it did. -/
def fnExactTreeAllUptoRow : OpenClaim := { program := "ythggadkmipicgaa", sum := "fd814e9f1e1ab20b115e9697d9ab369e84fb897c8d0efdd140ffcd0073c1fa66", func := "loop.example/surfacemaps/laws.FnExactTreeAll", spec := "fnExactTreeAll", inPlace := ["internal/bytealg.CountString", "internal/bytealg.IndexByteString", "internal/bytealg.IndexString"], unfollowed := true, recurses := true, named := ["internal/bytealg.MaxLen"], apart := false, narrowed := true }
def FnExactTreeAllUptoSaid : Prop := fnExactTreeAllUptoRow.holds Try.pinned (OpenSpec.upto fnExactTreeAllSpec)

/-- 'laws.FnTreesMany', WHERE WHAT IT READS IS OF BULK AT MOST 1048576: true; the input reads as it did. -/
def fnTreesManyUptoRow : OpenClaim := { program := "ythggadkmipicgaa", sum := "fd814e9f1e1ab20b115e9697d9ab369e84fb897c8d0efdd140ffcd0073c1fa66", func := "loop.example/surfacemaps/laws.FnTreesMany", spec := "fnTreesMany", apart := false, narrowed := true }
def FnTreesManyUptoSaid : Prop := fnTreesManyUptoRow.holds Try.pinned (OpenSpec.upto fnTreesManySpec)

end Rows
end Go.Proofs.Ythggadkmipicgaa
