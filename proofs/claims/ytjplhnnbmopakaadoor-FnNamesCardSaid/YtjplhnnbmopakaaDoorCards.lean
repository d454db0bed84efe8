/-
  DERIVED. GIVEN WITH THE SEED: THE CARDS: each row of YtjplhnnbmopakaaDoorRows.lean that lists a variable, with what it lists TIED to the program's text (the seventh form; the later family's looks); each row that meets fmt, with fmt's text TOLD by the authors' own Lean function (tested against real Go, not proved from fmt's source: count such statements apart). THE CARD IS WHAT COUNTS. Prove the row's statement (the work); the ties are given (YtjplhnnbmopakaaDoorTie.lean); close each card by the builder's one call (the guide's Derived/Test/ToyasCard.lean, 'card_holds'). Laid BY PROGRAM, IN A SANDBOX (cutbox-door.mjs). By AI agents, Wed Nov 11 2026. No macro, syntax, notation, axiom, sorry.
-/
import Derived.Test.YtjplhnnbmopakaaDoorRows
import GoSem.ClaimSeven
namespace Go.Proofs.YtjplhnnbmopakaaDoor
namespace Rows

/-- THE TIED CARD OF 'laws.FnWord'. -/
def fnWordCard : Claim7 := { stood := { row := fnWordRow, standIns := [], harness := (true, "0658bea36effe975478d6cb97ffbe2d775bf38b8edc1489ff3c712930a69fdd1"), looks := false }, kinds := [], alts := [], laidByText := true, laidKinds := [.data, .pinned, .pinned], laidTests := true, laidLooks := .later }
def FnWordCardSaid : Prop := Claim7.holds Tryd.pinned (.plain (OpenSpec.ofChange fnWordSpec)) fnWordCard

/-- THE TIED CARD OF 'laws.FnWordTurn'. -/
def fnWordTurnCard : Claim7 := { stood := { row := fnWordTurnRow, standIns := [], harness := (true, "0658bea36effe975478d6cb97ffbe2d775bf38b8edc1489ff3c712930a69fdd1"), looks := false }, kinds := [], alts := [], laidByText := true, laidKinds := [.data, .data, .data, .data, .pinned, .pinned], laidTests := true, laidLooks := .later }
def FnWordTurnCardSaid : Prop := Claim7.holds Tryd.pinned (.plain (OpenSpec.ofChange fnWordTurnSpec)) fnWordTurnCard

/-- THE TIED CARD OF 'laws.FnWordBack'. -/
def fnWordBackCard : Claim7 := { stood := { row := fnWordBackRow, standIns := [], harness := (true, "0658bea36effe975478d6cb97ffbe2d775bf38b8edc1489ff3c712930a69fdd1"), looks := false }, kinds := [], alts := [], laidByText := true, laidKinds := [.data, .data, .data, .data, .pinned, .pinned], laidTests := true, laidLooks := .later }
def FnWordBackCardSaid : Prop := Claim7.holds Tryd.pinned (.plain (OpenSpec.ofChange fnWordBackSpec)) fnWordBackCard

/-- THE TIED CARD OF 'laws.FnNames'. -/
def fnNamesCard : Claim7 := { stood := { row := fnNamesRow, standIns := [], harness := (true, "0658bea36effe975478d6cb97ffbe2d775bf38b8edc1489ff3c712930a69fdd1"), looks := false }, kinds := [], alts := [], laidByText := true, laidKinds := [.data, .data, .data, .data, .pinned, .pinned], laidTests := true, laidLooks := .later }
def FnNamesCardSaid : Prop := Claim7.holds Tryd.pinned (.plain (OpenSpec.ofChange fnNamesSpec)) fnNamesCard

/-- THE SECOND FORM's CARD OF 'laws.FnWord'. -/
def fnWordUptoCard : Claim7 := { stood := { row := fnWordUptoRow, standIns := [], harness := (true, "0658bea36effe975478d6cb97ffbe2d775bf38b8edc1489ff3c712930a69fdd1"), looks := false }, kinds := [], alts := [], laidByText := true, laidKinds := [.data, .pinned, .pinned], laidTests := true, laidLooks := .later }
def FnWordUptoCardSaid : Prop := Claim7.holds Tryd.pinned (.plain (OpenSpec.upto fnWordSpec)) fnWordUptoCard

/-- THE SECOND FORM's CARD OF 'laws.FnWordTurn'. -/
def fnWordTurnUptoCard : Claim7 := { stood := { row := fnWordTurnUptoRow, standIns := [], harness := (true, "0658bea36effe975478d6cb97ffbe2d775bf38b8edc1489ff3c712930a69fdd1"), looks := false }, kinds := [], alts := [], laidByText := true, laidKinds := [.data, .data, .data, .data, .pinned, .pinned], laidTests := true, laidLooks := .later }
def FnWordTurnUptoCardSaid : Prop := Claim7.holds Tryd.pinned (.plain (OpenSpec.upto fnWordTurnSpec)) fnWordTurnUptoCard

/-- THE SECOND FORM's CARD OF 'laws.FnWordBack'. -/
def fnWordBackUptoCard : Claim7 := { stood := { row := fnWordBackUptoRow, standIns := [], harness := (true, "0658bea36effe975478d6cb97ffbe2d775bf38b8edc1489ff3c712930a69fdd1"), looks := false }, kinds := [], alts := [], laidByText := true, laidKinds := [.data, .data, .data, .data, .pinned, .pinned], laidTests := true, laidLooks := .later }
def FnWordBackUptoCardSaid : Prop := Claim7.holds Tryd.pinned (.plain (OpenSpec.upto fnWordBackSpec)) fnWordBackUptoCard

/-- THE SECOND FORM's CARD OF 'laws.FnNames'. -/
def fnNamesUptoCard : Claim7 := { stood := { row := fnNamesUptoRow, standIns := [], harness := (true, "0658bea36effe975478d6cb97ffbe2d775bf38b8edc1489ff3c712930a69fdd1"), looks := false }, kinds := [], alts := [], laidByText := true, laidKinds := [.data, .data, .data, .data, .pinned, .pinned], laidTests := true, laidLooks := .later }
def FnNamesUptoCardSaid : Prop := Claim7.holds Tryd.pinned (.plain (OpenSpec.upto fnNamesSpec)) fnNamesUptoCard
end Rows
end Go.Proofs.YtjplhnnbmopakaaDoor
