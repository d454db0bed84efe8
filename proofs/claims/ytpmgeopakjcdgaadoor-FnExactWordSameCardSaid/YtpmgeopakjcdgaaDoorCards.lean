/-
  DERIVED. GIVEN WITH THE SEED: THE CARDS: each row of YtpmgeopakjcdgaaDoorRows.lean that lists a variable, with what it lists TIED to the program's text (the seventh form; the later family's looks); each row that meets fmt, with fmt's text TOLD by the authors' own Lean function (tested against real Go, not proved from fmt's source: count such statements apart). THE CARD IS WHAT COUNTS. Prove the row's statement (the work); the ties are given (YtpmgeopakjcdgaaDoorTie.lean); close each card by the builder's one call (the guide's Derived/Test/ToyasCard.lean, 'card_holds'). Laid BY PROGRAM, IN A SANDBOX (cutbox-door.mjs). By AI agents, Wed Nov 11 2026. No macro, syntax, notation, axiom, sorry.
-/
import Derived.Test.YtpmgeopakjcdgaaDoorRows
import GoSem.ClaimSeven
namespace Go.Proofs.YtpmgeopakjcdgaaDoor
namespace Rows

/-- THE TIED CARD OF 'laws.FnExactWordCorners'. -/
def fnExactWordCornersCard : Claim7 := { stood := { row := fnExactWordCornersRow, standIns := [], harness := (true, "e3681d61b556611112c24177002d63cd77aa5a4e787183ad0fd052a391b0eae6"), looks := false }, kinds := [], alts := [], laidByText := true, laidKinds := [.data, .pinned, .pinned], laidTests := true, laidLooks := .later }
def FnExactWordCornersCardSaid : Prop := Claim7.holds Tryd.pinned (.plain (OpenSpec.ofChange fnExactWordCornersSpec)) fnExactWordCornersCard

/-- THE TIED CARD OF 'laws.FnExactWordNumber'. -/
def fnExactWordNumberCard : Claim7 := { stood := { row := fnExactWordNumberRow, standIns := [], harness := (true, "e3681d61b556611112c24177002d63cd77aa5a4e787183ad0fd052a391b0eae6"), looks := false }, kinds := [], alts := [], laidByText := true, laidKinds := [.data, .pinned, .pinned], laidTests := true, laidLooks := .later }
def FnExactWordNumberCardSaid : Prop := Claim7.holds Tryd.pinned (.plain (OpenSpec.ofChange fnExactWordNumberSpec)) fnExactWordNumberCard

/-- THE TIED CARD OF 'laws.FnExactWordSided'. -/
def fnExactWordSidedCard : Claim7 := { stood := { row := fnExactWordSidedRow, standIns := [], harness := (true, "e3681d61b556611112c24177002d63cd77aa5a4e787183ad0fd052a391b0eae6"), looks := false }, kinds := [], alts := [], laidByText := true, laidKinds := [.data, .pinned, .pinned], laidTests := true, laidLooks := .later }
def FnExactWordSidedCardSaid : Prop := Claim7.holds Tryd.pinned (.plain (OpenSpec.ofChange fnExactWordSidedSpec)) fnExactWordSidedCard

/-- THE TIED CARD OF 'laws.FnExactWordClass'. -/
def fnExactWordClassCard : Claim7 := { stood := { row := fnExactWordClassRow, standIns := [], harness := (true, "e3681d61b556611112c24177002d63cd77aa5a4e787183ad0fd052a391b0eae6"), looks := false }, kinds := [], alts := [], laidByText := true, laidKinds := [.data, .data, .data, .data, .pinned, .pinned], laidTests := true, laidLooks := .later }
def FnExactWordClassCardSaid : Prop := Claim7.holds Tryd.pinned (.plain (OpenSpec.ofChange fnExactWordClassSpec)) fnExactWordClassCard

/-- THE TIED CARD OF 'laws.FnExactWordSame'. -/
def fnExactWordSameCard : Claim7 := { stood := { row := fnExactWordSameRow, standIns := [], harness := (true, "e3681d61b556611112c24177002d63cd77aa5a4e787183ad0fd052a391b0eae6"), looks := false }, kinds := [], alts := [], laidByText := true, laidKinds := [.data, .data, .data, .data, .pinned, .pinned], laidTests := true, laidLooks := .later }
def FnExactWordSameCardSaid : Prop := Claim7.holds Tryd.pinned (.plain (OpenSpec.ofChange fnExactWordSameSpec)) fnExactWordSameCard

/-- THE TIED CARD OF 'laws.FnExactWordGluing'. -/
def fnExactWordGluingCard : Claim7 := { stood := { row := fnExactWordGluingRow, standIns := [], harness := (true, "e3681d61b556611112c24177002d63cd77aa5a4e787183ad0fd052a391b0eae6"), looks := false }, kinds := [], alts := [], laidByText := true, laidKinds := [.data, .pinned, .pinned], laidTests := true, laidLooks := .later }
def FnExactWordGluingCardSaid : Prop := Claim7.holds Tryd.pinned (.plain (OpenSpec.ofChange fnExactWordGluingSpec)) fnExactWordGluingCard

/-- THE SECOND FORM's CARD OF 'laws.FnExactWordCorners'. -/
def fnExactWordCornersUptoCard : Claim7 := { stood := { row := fnExactWordCornersUptoRow, standIns := [], harness := (true, "e3681d61b556611112c24177002d63cd77aa5a4e787183ad0fd052a391b0eae6"), looks := false }, kinds := [], alts := [], laidByText := true, laidKinds := [.data, .pinned, .pinned], laidTests := true, laidLooks := .later }
def FnExactWordCornersUptoCardSaid : Prop := Claim7.holds Tryd.pinned (.plain (OpenSpec.upto fnExactWordCornersSpec)) fnExactWordCornersUptoCard

/-- THE SECOND FORM's CARD OF 'laws.FnExactWordNumber'. -/
def fnExactWordNumberUptoCard : Claim7 := { stood := { row := fnExactWordNumberUptoRow, standIns := [], harness := (true, "e3681d61b556611112c24177002d63cd77aa5a4e787183ad0fd052a391b0eae6"), looks := false }, kinds := [], alts := [], laidByText := true, laidKinds := [.data, .pinned, .pinned], laidTests := true, laidLooks := .later }
def FnExactWordNumberUptoCardSaid : Prop := Claim7.holds Tryd.pinned (.plain (OpenSpec.upto fnExactWordNumberSpec)) fnExactWordNumberUptoCard

/-- THE SECOND FORM's CARD OF 'laws.FnExactWordSided'. -/
def fnExactWordSidedUptoCard : Claim7 := { stood := { row := fnExactWordSidedUptoRow, standIns := [], harness := (true, "e3681d61b556611112c24177002d63cd77aa5a4e787183ad0fd052a391b0eae6"), looks := false }, kinds := [], alts := [], laidByText := true, laidKinds := [.data, .pinned, .pinned], laidTests := true, laidLooks := .later }
def FnExactWordSidedUptoCardSaid : Prop := Claim7.holds Tryd.pinned (.plain (OpenSpec.upto fnExactWordSidedSpec)) fnExactWordSidedUptoCard

/-- THE SECOND FORM's CARD OF 'laws.FnExactWordClass'. -/
def fnExactWordClassUptoCard : Claim7 := { stood := { row := fnExactWordClassUptoRow, standIns := [], harness := (true, "e3681d61b556611112c24177002d63cd77aa5a4e787183ad0fd052a391b0eae6"), looks := false }, kinds := [], alts := [], laidByText := true, laidKinds := [.data, .data, .data, .data, .pinned, .pinned], laidTests := true, laidLooks := .later }
def FnExactWordClassUptoCardSaid : Prop := Claim7.holds Tryd.pinned (.plain (OpenSpec.upto fnExactWordClassSpec)) fnExactWordClassUptoCard

/-- THE SECOND FORM's CARD OF 'laws.FnExactWordSame'. -/
def fnExactWordSameUptoCard : Claim7 := { stood := { row := fnExactWordSameUptoRow, standIns := [], harness := (true, "e3681d61b556611112c24177002d63cd77aa5a4e787183ad0fd052a391b0eae6"), looks := false }, kinds := [], alts := [], laidByText := true, laidKinds := [.data, .data, .data, .data, .pinned, .pinned], laidTests := true, laidLooks := .later }
def FnExactWordSameUptoCardSaid : Prop := Claim7.holds Tryd.pinned (.plain (OpenSpec.upto fnExactWordSameSpec)) fnExactWordSameUptoCard

/-- THE SECOND FORM's CARD OF 'laws.FnExactWordGluing'. -/
def fnExactWordGluingUptoCard : Claim7 := { stood := { row := fnExactWordGluingUptoRow, standIns := [], harness := (true, "e3681d61b556611112c24177002d63cd77aa5a4e787183ad0fd052a391b0eae6"), looks := false }, kinds := [], alts := [], laidByText := true, laidKinds := [.data, .pinned, .pinned], laidTests := true, laidLooks := .later }
def FnExactWordGluingUptoCardSaid : Prop := Claim7.holds Tryd.pinned (.plain (OpenSpec.upto fnExactWordGluingSpec)) fnExactWordGluingUptoCard
end Rows
end Go.Proofs.YtpmgeopakjcdgaaDoor
