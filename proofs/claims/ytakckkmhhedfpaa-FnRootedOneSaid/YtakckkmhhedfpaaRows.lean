/-
  No cell of these rows narrows 'for every input' (looked for: loops, veiled, ifaces, maps, wideKeys, modest, calm, conditions, laid).
  DERIVED. THE GIVEN ROWS OF THIS SEAT. 9 by the template 'for every input the law returns true; each argument reads behind the call as it read before'; 0 by the template 'total and deterministic' (their statements: YtakckkmhhedfpaaTotals.lean).
  GIVEN WITH THE SEED: the statements are not yours to turn. If you find one false, say at which input.
  Laid BY PROGRAM, IN A SANDBOX (cutbox-rows.mjs): the forced cells as the released guide's own fill.sh prints them over the translation bd87a251971a092b… (all of the seat's roots in one cut). By AI agents, Wed Nov 11 2026. No macro, syntax, notation, axiom, sorry.
-/
import Derived.Test.YtakckkmhhedfpaaChecked
import GoSem.Claim
import GoSem.ClaimJoined
import GoSem.ClaimMapViews
import Derived.JoinedTies
import Derived.KernelRfl
namespace Go.Proofs.Ytakckkmhhedfpaa
/- THE CELL 'sum', in the pinned program and in every row, IS THE sha256 OF THE DUMP (.gsa) THAT YtakckkmhhedfpaaProg.lean LOADS. Nothing in Lean hashes anything: it is a label: what it is worth is what the hold of that sum in a sandbox is worth. -/
noncomputable def Try.pinned : Pinned := { name := "ytakckkmhhedfpaa", sum := "bd87a251971a092bd1e53d85d5cacc786ac2e8a6cca6acb71f4f324a025e3abf", checked := Try.checked }
namespace Rows
def none {H : Type} : Left H := { results := [], args := [] }

/-- 'laws.FnExactRootedCount': WHATEVER THE INPUT: true; the input reads as it did. -/
def fnExactRootedCountSpec : ChangeSpec := { name := "fnExactRootedCount", fn := fun _ => fun
  | [d1, d2] => { results := [.lit (.bool true)], args := [d1, d2] }
  | _ => none }
def fnExactRootedCountRow : OpenClaim := { program := "ytakckkmhhedfpaa", sum := "bd87a251971a092bd1e53d85d5cacc786ac2e8a6cca6acb71f4f324a025e3abf", func := "loop.example/surfacemaps/laws.FnExactRootedCount", spec := "fnExactRootedCount", unfollowed := true, recurses := true, plainKeys := false, apart := false }
def FnExactRootedCountSaid : Prop := fnExactRootedCountRow.holds Try.pinned (OpenSpec.ofChange fnExactRootedCountSpec)

/-- ITS FALSE NEIGHBOUR: 'it returns false'. Refute it at one input. -/
def fnExactRootedCountWrong : ChangeSpec := { name := "fnExactRootedCount", fn := fun _ => fun
  | [d1, d2] => { results := [.lit (.bool false)], args := [d1, d2] }
  | _ => none }
def FnExactRootedCountWrongFalsely : Prop := fnExactRootedCountRow.holds Try.pinned (OpenSpec.ofChange fnExactRootedCountWrong)

/-- 'laws.FnExactRootedList': WHATEVER THE INPUT: true; the input reads as it did. -/
def fnExactRootedListSpec : ChangeSpec := { name := "fnExactRootedList", fn := fun _ => fun
  | [d1, d2] => { results := [.lit (.bool true)], args := [d1, d2] }
  | _ => none }
def fnExactRootedListRow : OpenClaim := { program := "ytakckkmhhedfpaa", sum := "bd87a251971a092bd1e53d85d5cacc786ac2e8a6cca6acb71f4f324a025e3abf", func := "loop.example/surfacemaps/laws.FnExactRootedList", spec := "fnExactRootedList", unfollowed := true, recurses := true, plainKeys := false, apart := false }
def FnExactRootedListSaid : Prop := fnExactRootedListRow.holds Try.pinned (OpenSpec.ofChange fnExactRootedListSpec)

/-- ITS FALSE NEIGHBOUR: 'it returns false'. Refute it at one input. -/
def fnExactRootedListWrong : ChangeSpec := { name := "fnExactRootedList", fn := fun _ => fun
  | [d1, d2] => { results := [.lit (.bool false)], args := [d1, d2] }
  | _ => none }
def FnExactRootedListWrongFalsely : Prop := fnExactRootedListRow.holds Try.pinned (OpenSpec.ofChange fnExactRootedListWrong)

/-- 'laws.FnExactRootedOne': WHATEVER THE INPUT: true; the input reads as it did. -/
def fnExactRootedOneSpec : ChangeSpec := { name := "fnExactRootedOne", fn := fun _ => fun
  | [d1, d2] => { results := [.lit (.bool true)], args := [d1, d2] }
  | _ => none }
def fnExactRootedOneRow : OpenClaim := { program := "ytakckkmhhedfpaa", sum := "bd87a251971a092bd1e53d85d5cacc786ac2e8a6cca6acb71f4f324a025e3abf", func := "loop.example/surfacemaps/laws.FnExactRootedOne", spec := "fnExactRootedOne", unfollowed := true, recurses := true, plainKeys := false, apart := false }
def FnExactRootedOneSaid : Prop := fnExactRootedOneRow.holds Try.pinned (OpenSpec.ofChange fnExactRootedOneSpec)

/-- ITS FALSE NEIGHBOUR: 'it returns false'. Refute it at one input. -/
def fnExactRootedOneWrong : ChangeSpec := { name := "fnExactRootedOne", fn := fun _ => fun
  | [d1, d2] => { results := [.lit (.bool false)], args := [d1, d2] }
  | _ => none }
def FnExactRootedOneWrongFalsely : Prop := fnExactRootedOneRow.holds Try.pinned (OpenSpec.ofChange fnExactRootedOneWrong)

/-- 'laws.FnExactRootlessCount': WHATEVER THE INPUT: true; the input reads as it did. -/
def fnExactRootlessCountSpec : ChangeSpec := { name := "fnExactRootlessCount", fn := fun _ => fun
  | [d1, d2] => { results := [.lit (.bool true)], args := [d1, d2] }
  | _ => none }
def fnExactRootlessCountRow : OpenClaim := { program := "ytakckkmhhedfpaa", sum := "bd87a251971a092bd1e53d85d5cacc786ac2e8a6cca6acb71f4f324a025e3abf", func := "loop.example/surfacemaps/laws.FnExactRootlessCount", spec := "fnExactRootlessCount", unfollowed := true, recurses := true, plainKeys := false, apart := false }
def FnExactRootlessCountSaid : Prop := fnExactRootlessCountRow.holds Try.pinned (OpenSpec.ofChange fnExactRootlessCountSpec)

/-- ITS FALSE NEIGHBOUR: 'it returns false'. Refute it at one input. -/
def fnExactRootlessCountWrong : ChangeSpec := { name := "fnExactRootlessCount", fn := fun _ => fun
  | [d1, d2] => { results := [.lit (.bool false)], args := [d1, d2] }
  | _ => none }
def FnExactRootlessCountWrongFalsely : Prop := fnExactRootlessCountRow.holds Try.pinned (OpenSpec.ofChange fnExactRootlessCountWrong)

/-- 'laws.FnExactRootlessRoots': WHATEVER THE INPUT: true; the input reads as it did. -/
def fnExactRootlessRootsSpec : ChangeSpec := { name := "fnExactRootlessRoots", fn := fun _ => fun
  | [d1, d2] => { results := [.lit (.bool true)], args := [d1, d2] }
  | _ => none }
def fnExactRootlessRootsRow : OpenClaim := { program := "ytakckkmhhedfpaa", sum := "bd87a251971a092bd1e53d85d5cacc786ac2e8a6cca6acb71f4f324a025e3abf", func := "loop.example/surfacemaps/laws.FnExactRootlessRoots", spec := "fnExactRootlessRoots", unfollowed := true, recurses := true, plainKeys := false, apart := false }
def FnExactRootlessRootsSaid : Prop := fnExactRootlessRootsRow.holds Try.pinned (OpenSpec.ofChange fnExactRootlessRootsSpec)

/-- ITS FALSE NEIGHBOUR: 'it returns false'. Refute it at one input. -/
def fnExactRootlessRootsWrong : ChangeSpec := { name := "fnExactRootlessRoots", fn := fun _ => fun
  | [d1, d2] => { results := [.lit (.bool false)], args := [d1, d2] }
  | _ => none }
def FnExactRootlessRootsWrongFalsely : Prop := fnExactRootlessRootsRow.holds Try.pinned (OpenSpec.ofChange fnExactRootlessRootsWrong)

/-- 'laws.FnCount': WHATEVER THE INPUT: true; the input reads as it did. -/
def fnCountSpec : ChangeSpec := { name := "fnCount", fn := fun _ => fun
  | [d] => { results := [.lit (.bool true)], args := [d] }
  | _ => none }
def fnCountRow : OpenClaim := { program := "ytakckkmhhedfpaa", sum := "bd87a251971a092bd1e53d85d5cacc786ac2e8a6cca6acb71f4f324a025e3abf", func := "loop.example/surfacemaps/laws.FnCount", spec := "fnCount", unfollowed := true, recurses := true, plainKeys := false, apart := false }
def FnCountSaid : Prop := fnCountRow.holds Try.pinned (OpenSpec.ofChange fnCountSpec)

/-- ITS FALSE NEIGHBOUR: 'it returns false'. Refute it at one input. -/
def fnCountWrong : ChangeSpec := { name := "fnCount", fn := fun _ => fun
  | [d] => { results := [.lit (.bool false)], args := [d] }
  | _ => none }
def FnCountWrongFalsely : Prop := fnCountRow.holds Try.pinned (OpenSpec.ofChange fnCountWrong)

/-- 'laws.FnRootedList': WHATEVER THE INPUT: true; the input reads as it did. -/
def fnRootedListSpec : ChangeSpec := { name := "fnRootedList", fn := fun _ => fun
  | [d1, d2] => { results := [.lit (.bool true)], args := [d1, d2] }
  | _ => none }
def fnRootedListRow : OpenClaim := { program := "ytakckkmhhedfpaa", sum := "bd87a251971a092bd1e53d85d5cacc786ac2e8a6cca6acb71f4f324a025e3abf", func := "loop.example/surfacemaps/laws.FnRootedList", spec := "fnRootedList", unfollowed := true, recurses := true, plainKeys := false, apart := false }
def FnRootedListSaid : Prop := fnRootedListRow.holds Try.pinned (OpenSpec.ofChange fnRootedListSpec)

/-- ITS FALSE NEIGHBOUR: 'it returns false'. Refute it at one input. -/
def fnRootedListWrong : ChangeSpec := { name := "fnRootedList", fn := fun _ => fun
  | [d1, d2] => { results := [.lit (.bool false)], args := [d1, d2] }
  | _ => none }
def FnRootedListWrongFalsely : Prop := fnRootedListRow.holds Try.pinned (OpenSpec.ofChange fnRootedListWrong)

/-- 'laws.FnRootless': WHATEVER THE INPUT: true; the input reads as it did. -/
def fnRootlessSpec : ChangeSpec := { name := "fnRootless", fn := fun _ => fun
  | [d] => { results := [.lit (.bool true)], args := [d] }
  | _ => none }
def fnRootlessRow : OpenClaim := { program := "ytakckkmhhedfpaa", sum := "bd87a251971a092bd1e53d85d5cacc786ac2e8a6cca6acb71f4f324a025e3abf", func := "loop.example/surfacemaps/laws.FnRootless", spec := "fnRootless", unfollowed := true, recurses := true, plainKeys := false, apart := false }
def FnRootlessSaid : Prop := fnRootlessRow.holds Try.pinned (OpenSpec.ofChange fnRootlessSpec)

/-- ITS FALSE NEIGHBOUR: 'it returns false'. Refute it at one input. -/
def fnRootlessWrong : ChangeSpec := { name := "fnRootless", fn := fun _ => fun
  | [d] => { results := [.lit (.bool false)], args := [d] }
  | _ => none }
def FnRootlessWrongFalsely : Prop := fnRootlessRow.holds Try.pinned (OpenSpec.ofChange fnRootlessWrong)

/-- 'laws.FnRootedOne': WHATEVER THE INPUT: true; the input reads as it did. -/
def fnRootedOneSpec : ChangeSpec := { name := "fnRootedOne", fn := fun _ => fun
  | [d] => { results := [.lit (.bool true)], args := [d] }
  | _ => none }
def fnRootedOneRow : OpenClaim := { program := "ytakckkmhhedfpaa", sum := "bd87a251971a092bd1e53d85d5cacc786ac2e8a6cca6acb71f4f324a025e3abf", func := "loop.example/surfacemaps/laws.FnRootedOne", spec := "fnRootedOne", unfollowed := true, recurses := true, plainKeys := false, apart := false }
def FnRootedOneSaid : Prop := fnRootedOneRow.holds Try.pinned (OpenSpec.ofChange fnRootedOneSpec)

/-- ITS FALSE NEIGHBOUR: 'it returns false'. Refute it at one input. -/
def fnRootedOneWrong : ChangeSpec := { name := "fnRootedOne", fn := fun _ => fun
  | [d] => { results := [.lit (.bool false)], args := [d] }
  | _ => none }
def FnRootedOneWrongFalsely : Prop := fnRootedOneRow.holds Try.pinned (OpenSpec.ofChange fnRootedOneWrong)

/- THE SECOND FORM. 'bulk': how many values and letters a reading holds, each counted each time it is reached (what is shared counts as often as it is met; a slice's spare places count too). A statement '..UptoSaid' is the law's where the arguments, and the package variables that the reading takes, are together of bulk at most 1048576: NARROWER than '..Said'. Prove '..Said' where nothing that the law and all that it calls make is longer than what came in: it says more and counts as full. Else prove '..UptoSaid'. A law counts once. -/
mutual
def uptoBulk {H : Type} : DataW H → Nat
  | .lit (.string bytes) => bytes.length + 1
  | .lit _ => 1
  | .nil => 1
  | .ptr d => uptoBulk d + 1
  | .slice elems spare => uptoBulkAll elems + uptoBulkAll spare + 1
  | .agg parts => uptoBulkAll parts + 1
  | .iface _ d => uptoBulk d + 1
  | .map entries => uptoBulkEntries entries + 1
  | .held _ => 1
def uptoBulkAll {H : Type} : List (DataW H) → Nat
  | [] => 0
  | d :: r => uptoBulk d + uptoBulkAll r
def uptoBulkEntries {H : Type} : List (Lit × DataW H) → Nat
  | [] => 0
  | x :: r => uptoBulkEntry x + uptoBulkEntries r
def uptoBulkEntry {H : Type} : Lit × DataW H → Nat
  | (.string bytes, d) => bytes.length + uptoBulk d + 1
  | (_, d) => uptoBulk d + 1
 end
def uptoSmall : (H : Type) → List (DataW H) → Bool := fun _ ds => decide (uptoBulkAll ds ≤ 1048576)
def OpenSpec.upto (s : _root_.Go.ChangeSpec) : _root_.Go.OpenSpec := { _root_.Go.OpenSpec.ofChange s with cond := some uptoSmall }

/-- 'laws.FnExactRootedCount', WHERE WHAT IT READS IS OF BULK AT MOST 1048576: true; the input reads as it did. -/
def fnExactRootedCountUptoRow : OpenClaim := { program := "ytakckkmhhedfpaa", sum := "bd87a251971a092bd1e53d85d5cacc786ac2e8a6cca6acb71f4f324a025e3abf", func := "loop.example/surfacemaps/laws.FnExactRootedCount", spec := "fnExactRootedCount", unfollowed := true, recurses := true, plainKeys := false, apart := false, narrowed := true }
def FnExactRootedCountUptoSaid : Prop := fnExactRootedCountUptoRow.holds Try.pinned (OpenSpec.upto fnExactRootedCountSpec)

/-- 'laws.FnExactRootedList', WHERE WHAT IT READS IS OF BULK AT MOST 1048576: true; the input reads as it did. -/
def fnExactRootedListUptoRow : OpenClaim := { program := "ytakckkmhhedfpaa", sum := "bd87a251971a092bd1e53d85d5cacc786ac2e8a6cca6acb71f4f324a025e3abf", func := "loop.example/surfacemaps/laws.FnExactRootedList", spec := "fnExactRootedList", unfollowed := true, recurses := true, plainKeys := false, apart := false, narrowed := true }
def FnExactRootedListUptoSaid : Prop := fnExactRootedListUptoRow.holds Try.pinned (OpenSpec.upto fnExactRootedListSpec)

/-- 'laws.FnExactRootedOne', WHERE WHAT IT READS IS OF BULK AT MOST 1048576: true; the input reads as it did. -/
def fnExactRootedOneUptoRow : OpenClaim := { program := "ytakckkmhhedfpaa", sum := "bd87a251971a092bd1e53d85d5cacc786ac2e8a6cca6acb71f4f324a025e3abf", func := "loop.example/surfacemaps/laws.FnExactRootedOne", spec := "fnExactRootedOne", unfollowed := true, recurses := true, plainKeys := false, apart := false, narrowed := true }
def FnExactRootedOneUptoSaid : Prop := fnExactRootedOneUptoRow.holds Try.pinned (OpenSpec.upto fnExactRootedOneSpec)

/-- 'laws.FnExactRootlessCount', WHERE WHAT IT READS IS OF BULK AT MOST 1048576: true; the input reads as it did. -/
def fnExactRootlessCountUptoRow : OpenClaim := { program := "ytakckkmhhedfpaa", sum := "bd87a251971a092bd1e53d85d5cacc786ac2e8a6cca6acb71f4f324a025e3abf", func := "loop.example/surfacemaps/laws.FnExactRootlessCount", spec := "fnExactRootlessCount", unfollowed := true, recurses := true, plainKeys := false, apart := false, narrowed := true }
def FnExactRootlessCountUptoSaid : Prop := fnExactRootlessCountUptoRow.holds Try.pinned (OpenSpec.upto fnExactRootlessCountSpec)

/-- 'laws.FnExactRootlessRoots', WHERE WHAT IT READS IS OF BULK AT MOST 1048576: true; the input reads as it did. -/
def fnExactRootlessRootsUptoRow : OpenClaim := { program := "ytakckkmhhedfpaa", sum := "bd87a251971a092bd1e53d85d5cacc786ac2e8a6cca6acb71f4f324a025e3abf", func := "loop.example/surfacemaps/laws.FnExactRootlessRoots", spec := "fnExactRootlessRoots", unfollowed := true, recurses := true, plainKeys := false, apart := false, narrowed := true }
def FnExactRootlessRootsUptoSaid : Prop := fnExactRootlessRootsUptoRow.holds Try.pinned (OpenSpec.upto fnExactRootlessRootsSpec)

/-- 'laws.FnCount', WHERE WHAT IT READS IS OF BULK AT MOST 1048576: true; the input reads as it did. -/
def fnCountUptoRow : OpenClaim := { program := "ytakckkmhhedfpaa", sum := "bd87a251971a092bd1e53d85d5cacc786ac2e8a6cca6acb71f4f324a025e3abf", func := "loop.example/surfacemaps/laws.FnCount", spec := "fnCount", unfollowed := true, recurses := true, plainKeys := false, apart := false, narrowed := true }
def FnCountUptoSaid : Prop := fnCountUptoRow.holds Try.pinned (OpenSpec.upto fnCountSpec)

/-- 'laws.FnRootedList', WHERE WHAT IT READS IS OF BULK AT MOST 1048576: true; the input reads as it did. -/
def fnRootedListUptoRow : OpenClaim := { program := "ytakckkmhhedfpaa", sum := "bd87a251971a092bd1e53d85d5cacc786ac2e8a6cca6acb71f4f324a025e3abf", func := "loop.example/surfacemaps/laws.FnRootedList", spec := "fnRootedList", unfollowed := true, recurses := true, plainKeys := false, apart := false, narrowed := true }
def FnRootedListUptoSaid : Prop := fnRootedListUptoRow.holds Try.pinned (OpenSpec.upto fnRootedListSpec)

/-- 'laws.FnRootless', WHERE WHAT IT READS IS OF BULK AT MOST 1048576: true; the input reads as it did. -/
def fnRootlessUptoRow : OpenClaim := { program := "ytakckkmhhedfpaa", sum := "bd87a251971a092bd1e53d85d5cacc786ac2e8a6cca6acb71f4f324a025e3abf", func := "loop.example/surfacemaps/laws.FnRootless", spec := "fnRootless", unfollowed := true, recurses := true, plainKeys := false, apart := false, narrowed := true }
def FnRootlessUptoSaid : Prop := fnRootlessUptoRow.holds Try.pinned (OpenSpec.upto fnRootlessSpec)

/-- 'laws.FnRootedOne', WHERE WHAT IT READS IS OF BULK AT MOST 1048576: true; the input reads as it did. -/
def fnRootedOneUptoRow : OpenClaim := { program := "ytakckkmhhedfpaa", sum := "bd87a251971a092bd1e53d85d5cacc786ac2e8a6cca6acb71f4f324a025e3abf", func := "loop.example/surfacemaps/laws.FnRootedOne", spec := "fnRootedOne", unfollowed := true, recurses := true, plainKeys := false, apart := false, narrowed := true }
def FnRootedOneUptoSaid : Prop := fnRootedOneUptoRow.holds Try.pinned (OpenSpec.upto fnRootedOneSpec)

end Rows
end Go.Proofs.Ytakckkmhhedfpaa
