/-
  No cell of these rows narrows 'for every input' (looked for: loops, veiled, ifaces, maps, wideKeys, modest, calm, conditions, laid).
  DERIVED. THE GIVEN ROWS OF THIS SEAT. 3 by the template 'for every input the law returns true; each argument reads behind the call as it read before'; 0 by the template 'total and deterministic' (their statements: YtjfammlegpiihaaTotals.lean).
  GIVEN WITH THE SEED: the statements are not yours to turn. If you find one false, say at which input.
  Laid BY PROGRAM, IN A SANDBOX (cutbox-rows.mjs): the forced cells as the released guide's own fill.sh prints them over the translation 6081e8b8f4c51404… (all of the seat's roots in one cut). By AI agents, Wed Nov 11 2026. No macro, syntax, notation, axiom, sorry.
-/
import Derived.Test.YtjfammlegpiihaaChecked
import GoSem.Claim
import GoSem.ClaimJoined
import GoSem.ClaimMapViews
import Derived.JoinedTies
import Derived.KernelRfl
namespace Go.Proofs.Ytjfammlegpiihaa
/- THE CELL 'sum', in the pinned program and in every row, IS THE sha256 OF THE DUMP (.gsa) THAT YtjfammlegpiihaaProg.lean LOADS. Nothing in Lean hashes anything: it is a label: what it is worth is what the hold of that sum in a sandbox is worth. -/
noncomputable def Try.pinned : Pinned := { name := "ytjfammlegpiihaa", sum := "6081e8b8f4c51404e8b9431464ab657bd4422627edc1a23f452354c96f30c2ec", checked := Try.checked }
namespace Rows
def none {H : Type} : Left H := { results := [], args := [] }

/-- 'laws.FnClassFirst': WHATEVER THE INPUT: true; the input reads as it did. -/
def fnClassFirstSpec : ChangeSpec := { name := "fnClassFirst", fn := fun _ => fun
  | [d] => { results := [.lit (.bool true)], args := [d] }
  | _ => none }
def fnClassFirstRow : OpenClaim := { program := "ytjfammlegpiihaa", sum := "6081e8b8f4c51404e8b9431464ab657bd4422627edc1a23f452354c96f30c2ec", func := "loop.example/surfacemaps/laws.FnClassFirst", spec := "fnClassFirst", unfollowed := true, recurses := true, apart := false }
def FnClassFirstSaid : Prop := fnClassFirstRow.holds Try.pinned (OpenSpec.ofChange fnClassFirstSpec)

/-- ITS FALSE NEIGHBOUR: 'it returns false'. Refute it at one input. -/
def fnClassFirstWrong : ChangeSpec := { name := "fnClassFirst", fn := fun _ => fun
  | [d] => { results := [.lit (.bool false)], args := [d] }
  | _ => none }
def FnClassFirstWrongFalsely : Prop := fnClassFirstRow.holds Try.pinned (OpenSpec.ofChange fnClassFirstWrong)

/-- 'laws.FnCharValue': WHATEVER THE INPUT: true; the input reads as it did. -/
def fnCharValueSpec : ChangeSpec := { name := "fnCharValue", fn := fun _ => fun
  | [d] => { results := [.lit (.bool true)], args := [d] }
  | _ => none }
def fnCharValueRow : OpenClaim := { program := "ytjfammlegpiihaa", sum := "6081e8b8f4c51404e8b9431464ab657bd4422627edc1a23f452354c96f30c2ec", func := "loop.example/surfacemaps/laws.FnCharValue", spec := "fnCharValue", unfollowed := true, recurses := true, apart := false }
def FnCharValueSaid : Prop := fnCharValueRow.holds Try.pinned (OpenSpec.ofChange fnCharValueSpec)

/-- ITS FALSE NEIGHBOUR: 'it returns false'. Refute it at one input. -/
def fnCharValueWrong : ChangeSpec := { name := "fnCharValue", fn := fun _ => fun
  | [d] => { results := [.lit (.bool false)], args := [d] }
  | _ => none }
def FnCharValueWrongFalsely : Prop := fnCharValueRow.holds Try.pinned (OpenSpec.ofChange fnCharValueWrong)

/-- 'laws.FnClassSize': WHATEVER THE INPUT: true; the input reads as it did. -/
def fnClassSizeSpec : ChangeSpec := { name := "fnClassSize", fn := fun _ => fun
  | [d] => { results := [.lit (.bool true)], args := [d] }
  | _ => none }
def fnClassSizeRow : OpenClaim := { program := "ytjfammlegpiihaa", sum := "6081e8b8f4c51404e8b9431464ab657bd4422627edc1a23f452354c96f30c2ec", func := "loop.example/surfacemaps/laws.FnClassSize", spec := "fnClassSize", unfollowed := true, recurses := true, apart := false }
def FnClassSizeSaid : Prop := fnClassSizeRow.holds Try.pinned (OpenSpec.ofChange fnClassSizeSpec)

/-- ITS FALSE NEIGHBOUR: 'it returns false'. Refute it at one input. -/
def fnClassSizeWrong : ChangeSpec := { name := "fnClassSize", fn := fun _ => fun
  | [d] => { results := [.lit (.bool false)], args := [d] }
  | _ => none }
def FnClassSizeWrongFalsely : Prop := fnClassSizeRow.holds Try.pinned (OpenSpec.ofChange fnClassSizeWrong)

/- THE SECOND FORM. 'bulk': how many values and letters a reading holds, each counted each time it is reached (what is shared counts as often as it is met; a slice's spare places count too). A statement '..UptoSaid' is the law's where the arguments, and the package variables that the reading takes, are together of bulk at most 1048576: NARROWER than '..Said'. Prove '..Said' where nothing that the law and all that it calls make is longer than what came in: it says more and counts as full. Else prove '..UptoSaid'. A law counts once. -/
mutual
def uptoBulk {H : Type} : DataW H → Nat
  | .lit (.string bytes) => bytes.length + 1
  | .lit _ => 1
  | .nil => 1
  | .ptr d => uptoBulk d + 1
  | .slice elems spare => uptoBulkAll elems + uptoBulkAll spare + 1
  | .agg parts => uptoBulkAll parts + 1
  | .iface _ d => uptoBulk d + 1
  | .map entries => uptoBulkEntries entries + 1
  | .held _ => 1
def uptoBulkAll {H : Type} : List (DataW H) → Nat
  | [] => 0
  | d :: r => uptoBulk d + uptoBulkAll r
def uptoBulkEntries {H : Type} : List (Lit × DataW H) → Nat
  | [] => 0
  | x :: r => uptoBulkEntry x + uptoBulkEntries r
def uptoBulkEntry {H : Type} : Lit × DataW H → Nat
  | (.string bytes, d) => bytes.length + uptoBulk d + 1
  | (_, d) => uptoBulk d + 1
 end
def uptoSmall : (H : Type) → List (DataW H) → Bool := fun _ ds => decide (uptoBulkAll ds ≤ 1048576)
def OpenSpec.upto (s : _root_.Go.ChangeSpec) : _root_.Go.OpenSpec := { _root_.Go.OpenSpec.ofChange s with cond := some uptoSmall }

/-- 'laws.FnClassFirst', WHERE WHAT IT READS IS OF BULK AT MOST 1048576: true; the input reads as it did. -/
def fnClassFirstUptoRow : OpenClaim := { program := "ytjfammlegpiihaa", sum := "6081e8b8f4c51404e8b9431464ab657bd4422627edc1a23f452354c96f30c2ec", func := "loop.example/surfacemaps/laws.FnClassFirst", spec := "fnClassFirst", unfollowed := true, recurses := true, apart := false, narrowed := true }
def FnClassFirstUptoSaid : Prop := fnClassFirstUptoRow.holds Try.pinned (OpenSpec.upto fnClassFirstSpec)

/-- 'laws.FnCharValue', WHERE WHAT IT READS IS OF BULK AT MOST 1048576: true; the input reads as it did. -/
def fnCharValueUptoRow : OpenClaim := { program := "ytjfammlegpiihaa", sum := "6081e8b8f4c51404e8b9431464ab657bd4422627edc1a23f452354c96f30c2ec", func := "loop.example/surfacemaps/laws.FnCharValue", spec := "fnCharValue", unfollowed := true, recurses := true, apart := false, narrowed := true }
def FnCharValueUptoSaid : Prop := fnCharValueUptoRow.holds Try.pinned (OpenSpec.upto fnCharValueSpec)

/-- 'laws.FnClassSize', WHERE WHAT IT READS IS OF BULK AT MOST 1048576: true; the input reads as it did. -/
def fnClassSizeUptoRow : OpenClaim := { program := "ytjfammlegpiihaa", sum := "6081e8b8f4c51404e8b9431464ab657bd4422627edc1a23f452354c96f30c2ec", func := "loop.example/surfacemaps/laws.FnClassSize", spec := "fnClassSize", unfollowed := true, recurses := true, apart := false, narrowed := true }
def FnClassSizeUptoSaid : Prop := fnClassSizeUptoRow.holds Try.pinned (OpenSpec.upto fnClassSizeSpec)

end Rows
end Go.Proofs.Ytjfammlegpiihaa
