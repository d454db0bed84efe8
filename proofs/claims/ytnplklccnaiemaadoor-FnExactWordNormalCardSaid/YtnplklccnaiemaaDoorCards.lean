/-
  DERIVED. GIVEN WITH THE SEED: THE CARDS: each row of YtnplklccnaiemaaDoorRows.lean that lists a variable, with what it lists TIED to the program's text (the seventh form; the later family's looks); each row that meets fmt, with fmt's text TOLD by the authors' own Lean function (tested against real Go, not proved from fmt's source: count such statements apart). THE CARD IS WHAT COUNTS. Prove the row's statement (the work); the ties are given (YtnplklccnaiemaaDoorTie.lean); close each card by the builder's one call (the guide's Derived/Test/ToyasCard.lean, 'card_holds'). Laid BY PROGRAM, IN A SANDBOX (cutbox-door.mjs). By AI agents, Wed Nov 11 2026. No macro, syntax, notation, axiom, sorry.
-/
import Derived.Test.YtnplklccnaiemaaDoorRows
import GoSem.ClaimSeven
namespace Go.Proofs.YtnplklccnaiemaaDoor
namespace Rows

/-- THE TIED CARD OF 'laws.FnExactWordNames'. -/
def fnExactWordNamesCard : Claim7 := { stood := { row := fnExactWordNamesRow, standIns := [], harness := (true, "73fe69bb5e38e5a5e93bd335fe1854f24a293858a6e9bbb3d0a56054e1227622"), looks := false }, kinds := [], alts := [], laidByText := true, laidKinds := [.data, .pinned, .pinned], laidTests := true, laidLooks := .later }
def FnExactWordNamesCardSaid : Prop := Claim7.holds Tryd.pinned (.plain (OpenSpec.ofChange fnExactWordNamesSpec)) fnExactWordNamesCard

/-- THE TIED CARD OF 'laws.FnExactWordJoin'. -/
def fnExactWordJoinCard : Claim7 := { stood := { row := fnExactWordJoinRow, standIns := [], harness := (true, "73fe69bb5e38e5a5e93bd335fe1854f24a293858a6e9bbb3d0a56054e1227622"), looks := false }, kinds := [], alts := [], laidByText := true, laidKinds := [.data, .pinned, .pinned], laidTests := true, laidLooks := .later }
def FnExactWordJoinCardSaid : Prop := Claim7.holds Tryd.pinned (.plain (OpenSpec.ofChange fnExactWordJoinSpec)) fnExactWordJoinCard

/-- THE TIED CARD OF 'laws.FnExactWordCut'. -/
def fnExactWordCutCard : Claim7 := { stood := { row := fnExactWordCutRow, standIns := [], harness := (true, "73fe69bb5e38e5a5e93bd335fe1854f24a293858a6e9bbb3d0a56054e1227622"), looks := false }, kinds := [], alts := [], laidByText := true, laidKinds := [.data, .pinned, .pinned], laidTests := true, laidLooks := .later }
def FnExactWordCutCardSaid : Prop := Claim7.holds Tryd.pinned (.plain (OpenSpec.ofChange fnExactWordCutSpec)) fnExactWordCutCard

/-- THE TIED CARD OF 'laws.FnExactWordNormal'. -/
def fnExactWordNormalCard : Claim7 := { stood := { row := fnExactWordNormalRow, standIns := [], harness := (true, "73fe69bb5e38e5a5e93bd335fe1854f24a293858a6e9bbb3d0a56054e1227622"), looks := false }, kinds := [], alts := [], laidByText := true, laidKinds := [.data, .pinned, .pinned], laidTests := true, laidLooks := .later }
def FnExactWordNormalCardSaid : Prop := Claim7.holds Tryd.pinned (.plain (OpenSpec.ofChange fnExactWordNormalSpec)) fnExactWordNormalCard

/-- THE SECOND FORM's CARD OF 'laws.FnExactWordNames'. -/
def fnExactWordNamesUptoCard : Claim7 := { stood := { row := fnExactWordNamesUptoRow, standIns := [], harness := (true, "73fe69bb5e38e5a5e93bd335fe1854f24a293858a6e9bbb3d0a56054e1227622"), looks := false }, kinds := [], alts := [], laidByText := true, laidKinds := [.data, .pinned, .pinned], laidTests := true, laidLooks := .later }
def FnExactWordNamesUptoCardSaid : Prop := Claim7.holds Tryd.pinned (.plain (OpenSpec.upto fnExactWordNamesSpec)) fnExactWordNamesUptoCard

/-- THE SECOND FORM's CARD OF 'laws.FnExactWordJoin'. -/
def fnExactWordJoinUptoCard : Claim7 := { stood := { row := fnExactWordJoinUptoRow, standIns := [], harness := (true, "73fe69bb5e38e5a5e93bd335fe1854f24a293858a6e9bbb3d0a56054e1227622"), looks := false }, kinds := [], alts := [], laidByText := true, laidKinds := [.data, .pinned, .pinned], laidTests := true, laidLooks := .later }
def FnExactWordJoinUptoCardSaid : Prop := Claim7.holds Tryd.pinned (.plain (OpenSpec.upto fnExactWordJoinSpec)) fnExactWordJoinUptoCard

/-- THE SECOND FORM's CARD OF 'laws.FnExactWordCut'. -/
def fnExactWordCutUptoCard : Claim7 := { stood := { row := fnExactWordCutUptoRow, standIns := [], harness := (true, "73fe69bb5e38e5a5e93bd335fe1854f24a293858a6e9bbb3d0a56054e1227622"), looks := false }, kinds := [], alts := [], laidByText := true, laidKinds := [.data, .pinned, .pinned], laidTests := true, laidLooks := .later }
def FnExactWordCutUptoCardSaid : Prop := Claim7.holds Tryd.pinned (.plain (OpenSpec.upto fnExactWordCutSpec)) fnExactWordCutUptoCard

/-- THE SECOND FORM's CARD OF 'laws.FnExactWordNormal'. -/
def fnExactWordNormalUptoCard : Claim7 := { stood := { row := fnExactWordNormalUptoRow, standIns := [], harness := (true, "73fe69bb5e38e5a5e93bd335fe1854f24a293858a6e9bbb3d0a56054e1227622"), looks := false }, kinds := [], alts := [], laidByText := true, laidKinds := [.data, .pinned, .pinned], laidTests := true, laidLooks := .later }
def FnExactWordNormalUptoCardSaid : Prop := Claim7.holds Tryd.pinned (.plain (OpenSpec.upto fnExactWordNormalSpec)) fnExactWordNormalUptoCard
end Rows
end Go.Proofs.YtnplklccnaiemaaDoor
