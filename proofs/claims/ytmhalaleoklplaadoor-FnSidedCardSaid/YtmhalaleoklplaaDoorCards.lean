/-
  DERIVED. GIVEN WITH THE SEED: THE CARDS: each row of YtmhalaleoklplaaDoorRows.lean that lists a variable, with what it lists TIED to the program's text (the seventh form; the later family's looks); each row that meets fmt, with fmt's text TOLD by the authors' own Lean function (tested against real Go, not proved from fmt's source: count such statements apart). THE CARD IS WHAT COUNTS. Prove the row's statement (the work); the ties are given (YtmhalaleoklplaaDoorTie.lean); close each card by the builder's one call (the guide's Derived/Test/ToyasCard.lean, 'card_holds'). Laid BY PROGRAM, IN A SANDBOX (cutbox-door.mjs). By AI agents, Wed Nov 11 2026. No macro, syntax, notation, axiom, sorry.
-/
import Derived.Test.YtmhalaleoklplaaDoorRows
import GoSem.ClaimSeven
namespace Go.Proofs.YtmhalaleoklplaaDoor
namespace Rows

/-- THE TIED CARD OF 'laws.FnSided'. -/
def fnSidedCard : Claim7 := { stood := { row := fnSidedRow, standIns := [], harness := (true, "2206929cd868209c6b95605dac133ee53a377408adcfefe69c5a400f14027b2d"), looks := false }, kinds := [], alts := [], laidByText := true, laidKinds := [.data, .pinned, .pinned], laidTests := true, laidLooks := .later }
def FnSidedCardSaid : Prop := Claim7.holds Tryd.pinned (.plain (OpenSpec.ofChange fnSidedSpec)) fnSidedCard

/-- THE SECOND FORM's CARD OF 'laws.FnSided'. -/
def fnSidedUptoCard : Claim7 := { stood := { row := fnSidedUptoRow, standIns := [], harness := (true, "2206929cd868209c6b95605dac133ee53a377408adcfefe69c5a400f14027b2d"), looks := false }, kinds := [], alts := [], laidByText := true, laidKinds := [.data, .pinned, .pinned], laidTests := true, laidLooks := .later }
def FnSidedUptoCardSaid : Prop := Claim7.holds Tryd.pinned (.plain (OpenSpec.upto fnSidedSpec)) fnSidedUptoCard
end Rows
end Go.Proofs.YtmhalaleoklplaaDoor
