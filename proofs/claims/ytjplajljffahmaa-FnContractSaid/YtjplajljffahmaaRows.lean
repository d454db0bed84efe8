/-
  No cell of these rows narrows 'for every input' (looked for: loops, veiled, ifaces, maps, wideKeys, modest, calm, conditions, laid).
  DERIVED. THE GIVEN ROWS OF THIS SEAT. 4 by the template 'for every input the law returns true; each argument reads behind the call as it read before'; 0 by the template 'total and deterministic' (their statements: YtjplajljffahmaaTotals.lean).
  GIVEN WITH THE SEED: the statements are not yours to turn. If you find one false, say at which input.
  Laid BY PROGRAM, IN A SANDBOX (cutbox-rows.mjs): the forced cells as the released guide's own fill.sh prints them over the translation b618c51a8b786838… (all of the seat's roots in one cut). By AI agents, Wed Nov 11 2026. No macro, syntax, notation, axiom, sorry.
-/
import Derived.Test.YtjplajljffahmaaChecked
import GoSem.Claim
import GoSem.ClaimJoined
import GoSem.ClaimMapViews
import Derived.JoinedTies
import Derived.KernelRfl
namespace Go.Proofs.Ytjplajljffahmaa
/- THE CELL 'sum', in the pinned program and in every row, IS THE sha256 OF THE DUMP (.gsa) THAT YtjplajljffahmaaProg.lean LOADS. Nothing in Lean hashes anything: it is a label: what it is worth is what the hold of that sum in a sandbox is worth. -/
noncomputable def Try.pinned : Pinned := { name := "ytjplajljffahmaa", sum := "b618c51a8b7868388ff5c200420d5ebd9fd1560dfe25c6e958ce16c9bed5f40f", checked := Try.checked }
namespace Rows
def none {H : Type} : Left H := { results := [], args := [] }

/-- 'laws.FnChoiceRest': WHATEVER THE INPUT: true; the input reads as it did. -/
def fnChoiceRestSpec : ChangeSpec := { name := "fnChoiceRest", fn := fun _ => fun
  | [d] => { results := [.lit (.bool true)], args := [d] }
  | _ => none }
def fnChoiceRestRow : OpenClaim := { program := "ytjplajljffahmaa", sum := "b618c51a8b7868388ff5c200420d5ebd9fd1560dfe25c6e958ce16c9bed5f40f", func := "loop.example/surfacemaps/laws.FnChoiceRest", spec := "fnChoiceRest", unfollowed := true, recurses := true, apart := false }
def FnChoiceRestSaid : Prop := fnChoiceRestRow.holds Try.pinned (OpenSpec.ofChange fnChoiceRestSpec)

/-- ITS FALSE NEIGHBOUR: 'it returns false'. Refute it at one input. -/
def fnChoiceRestWrong : ChangeSpec := { name := "fnChoiceRest", fn := fun _ => fun
  | [d] => { results := [.lit (.bool false)], args := [d] }
  | _ => none }
def FnChoiceRestWrongFalsely : Prop := fnChoiceRestRow.holds Try.pinned (OpenSpec.ofChange fnChoiceRestWrong)

/-- 'laws.FnDelete': WHATEVER THE INPUT: true; the input reads as it did. -/
def fnDeleteSpec : ChangeSpec := { name := "fnDelete", fn := fun _ => fun
  | [d] => { results := [.lit (.bool true)], args := [d] }
  | _ => none }
def fnDeleteRow : OpenClaim := { program := "ytjplajljffahmaa", sum := "b618c51a8b7868388ff5c200420d5ebd9fd1560dfe25c6e958ce16c9bed5f40f", func := "loop.example/surfacemaps/laws.FnDelete", spec := "fnDelete", unfollowed := true, recurses := true, apart := false }
def FnDeleteSaid : Prop := fnDeleteRow.holds Try.pinned (OpenSpec.ofChange fnDeleteSpec)

/-- ITS FALSE NEIGHBOUR: 'it returns false'. Refute it at one input. -/
def fnDeleteWrong : ChangeSpec := { name := "fnDelete", fn := fun _ => fun
  | [d] => { results := [.lit (.bool false)], args := [d] }
  | _ => none }
def FnDeleteWrongFalsely : Prop := fnDeleteRow.holds Try.pinned (OpenSpec.ofChange fnDeleteWrong)

/-- 'laws.FnContract': WHATEVER THE INPUT: true; the input reads as it did. -/
def fnContractSpec : ChangeSpec := { name := "fnContract", fn := fun _ => fun
  | [d] => { results := [.lit (.bool true)], args := [d] }
  | _ => none }
def fnContractRow : OpenClaim := { program := "ytjplajljffahmaa", sum := "b618c51a8b7868388ff5c200420d5ebd9fd1560dfe25c6e958ce16c9bed5f40f", func := "loop.example/surfacemaps/laws.FnContract", spec := "fnContract", unfollowed := true, recurses := true, apart := false }
def FnContractSaid : Prop := fnContractRow.holds Try.pinned (OpenSpec.ofChange fnContractSpec)

/-- ITS FALSE NEIGHBOUR: 'it returns false'. Refute it at one input. -/
def fnContractWrong : ChangeSpec := { name := "fnContract", fn := fun _ => fun
  | [d] => { results := [.lit (.bool false)], args := [d] }
  | _ => none }
def FnContractWrongFalsely : Prop := fnContractRow.holds Try.pinned (OpenSpec.ofChange fnContractWrong)

/-- 'laws.FnChoice': WHATEVER THE INPUT: true; the input reads as it did. -/
def fnChoiceSpec : ChangeSpec := { name := "fnChoice", fn := fun _ => fun
  | [d] => { results := [.lit (.bool true)], args := [d] }
  | _ => none }
def fnChoiceRow : OpenClaim := { program := "ytjplajljffahmaa", sum := "b618c51a8b7868388ff5c200420d5ebd9fd1560dfe25c6e958ce16c9bed5f40f", func := "loop.example/surfacemaps/laws.FnChoice", spec := "fnChoice", unfollowed := true, recurses := true, apart := false }
def FnChoiceSaid : Prop := fnChoiceRow.holds Try.pinned (OpenSpec.ofChange fnChoiceSpec)

/-- ITS FALSE NEIGHBOUR: 'it returns false'. Refute it at one input. -/
def fnChoiceWrong : ChangeSpec := { name := "fnChoice", fn := fun _ => fun
  | [d] => { results := [.lit (.bool false)], args := [d] }
  | _ => none }
def FnChoiceWrongFalsely : Prop := fnChoiceRow.holds Try.pinned (OpenSpec.ofChange fnChoiceWrong)

/- THE SECOND FORM. 'bulk': how many values and letters a reading holds, each counted each time it is reached (what is shared counts as often as it is met; a slice's spare places count too). A statement '..UptoSaid' is the law's where the arguments, and the package variables that the reading takes, are together of bulk at most 1048576: NARROWER than '..Said'. Prove '..Said' where nothing that the law and all that it calls make is longer than what came in: it says more and counts as full. Else prove '..UptoSaid'. A law counts once. -/
mutual
def uptoBulk {H : Type} : DataW H → Nat
  | .lit (.string bytes) => bytes.length + 1
  | .lit _ => 1
  | .nil => 1
  | .ptr d => uptoBulk d + 1
  | .slice elems spare => uptoBulkAll elems + uptoBulkAll spare + 1
  | .agg parts => uptoBulkAll parts + 1
  | .iface _ d => uptoBulk d + 1
  | .map entries => uptoBulkEntries entries + 1
  | .held _ => 1
def uptoBulkAll {H : Type} : List (DataW H) → Nat
  | [] => 0
  | d :: r => uptoBulk d + uptoBulkAll r
def uptoBulkEntries {H : Type} : List (Lit × DataW H) → Nat
  | [] => 0
  | x :: r => uptoBulkEntry x + uptoBulkEntries r
def uptoBulkEntry {H : Type} : Lit × DataW H → Nat
  | (.string bytes, d) => bytes.length + uptoBulk d + 1
  | (_, d) => uptoBulk d + 1
 end
def uptoSmall : (H : Type) → List (DataW H) → Bool := fun _ ds => decide (uptoBulkAll ds ≤ 1048576)
def OpenSpec.upto (s : _root_.Go.ChangeSpec) : _root_.Go.OpenSpec := { _root_.Go.OpenSpec.ofChange s with cond := some uptoSmall }

/-- 'laws.FnChoiceRest', WHERE WHAT IT READS IS OF BULK AT MOST 1048576: true; the input reads as it did. -/
def fnChoiceRestUptoRow : OpenClaim := { program := "ytjplajljffahmaa", sum := "b618c51a8b7868388ff5c200420d5ebd9fd1560dfe25c6e958ce16c9bed5f40f", func := "loop.example/surfacemaps/laws.FnChoiceRest", spec := "fnChoiceRest", unfollowed := true, recurses := true, apart := false, narrowed := true }
def FnChoiceRestUptoSaid : Prop := fnChoiceRestUptoRow.holds Try.pinned (OpenSpec.upto fnChoiceRestSpec)

/-- 'laws.FnDelete', WHERE WHAT IT READS IS OF BULK AT MOST 1048576: true; the input reads as it did. -/
def fnDeleteUptoRow : OpenClaim := { program := "ytjplajljffahmaa", sum := "b618c51a8b7868388ff5c200420d5ebd9fd1560dfe25c6e958ce16c9bed5f40f", func := "loop.example/surfacemaps/laws.FnDelete", spec := "fnDelete", unfollowed := true, recurses := true, apart := false, narrowed := true }
def FnDeleteUptoSaid : Prop := fnDeleteUptoRow.holds Try.pinned (OpenSpec.upto fnDeleteSpec)

/-- 'laws.FnContract', WHERE WHAT IT READS IS OF BULK AT MOST 1048576: true; the input reads as it did. -/
def fnContractUptoRow : OpenClaim := { program := "ytjplajljffahmaa", sum := "b618c51a8b7868388ff5c200420d5ebd9fd1560dfe25c6e958ce16c9bed5f40f", func := "loop.example/surfacemaps/laws.FnContract", spec := "fnContract", unfollowed := true, recurses := true, apart := false, narrowed := true }
def FnContractUptoSaid : Prop := fnContractUptoRow.holds Try.pinned (OpenSpec.upto fnContractSpec)

/-- 'laws.FnChoice', WHERE WHAT IT READS IS OF BULK AT MOST 1048576: true; the input reads as it did. -/
def fnChoiceUptoRow : OpenClaim := { program := "ytjplajljffahmaa", sum := "b618c51a8b7868388ff5c200420d5ebd9fd1560dfe25c6e958ce16c9bed5f40f", func := "loop.example/surfacemaps/laws.FnChoice", spec := "fnChoice", unfollowed := true, recurses := true, apart := false, narrowed := true }
def FnChoiceUptoSaid : Prop := fnChoiceUptoRow.holds Try.pinned (OpenSpec.upto fnChoiceSpec)

end Rows
end Go.Proofs.Ytjplajljffahmaa
