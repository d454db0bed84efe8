/-
  DERIVED. GIVEN WITH THE SEED: THE CARDS: each row of YtfdliekhlcbkcaaDoorRows.lean that lists a variable, with what it lists TIED to the program's text (the seventh form; the later family's looks); each row that meets fmt, with fmt's text TOLD by the authors' own Lean function (tested against real Go, not proved from fmt's source: count such statements apart). THE CARD IS WHAT COUNTS. Prove the row's statement (the work); the ties are given (YtfdliekhlcbkcaaDoorTie.lean); close each card by the builder's one call (the guide's Derived/Test/ToyasCard.lean, 'card_holds'). Laid BY PROGRAM, IN A SANDBOX (cutbox-door.mjs). By AI agents, Wed Nov 11 2026. No macro, syntax, notation, axiom, sorry.
-/
import Derived.Test.YtfdliekhlcbkcaaDoorRows
import GoSem.ClaimSeven
namespace Go.Proofs.YtfdliekhlcbkcaaDoor
namespace Rows

/-- THE TIED CARD OF 'laws.FnWordCorners'. -/
def fnWordCornersCard : Claim7 := { stood := { row := fnWordCornersRow, standIns := [], harness := (true, "c051cd793f9f80afa6adcf0c2d525a2ebf5d891e36d73575f8e5234fe10715cf"), looks := false }, kinds := [], alts := [], laidByText := true, laidKinds := [.data, .pinned, .pinned], laidTests := true, laidLooks := .later }
def FnWordCornersCardSaid : Prop := Claim7.holds Tryd.pinned (.plain (OpenSpec.ofChange fnWordCornersSpec)) fnWordCornersCard

/-- THE TIED CARD OF 'laws.FnNumber'. -/
def fnNumberCard : Claim7 := { stood := { row := fnNumberRow, standIns := [], harness := (true, "c051cd793f9f80afa6adcf0c2d525a2ebf5d891e36d73575f8e5234fe10715cf"), looks := false }, kinds := [], alts := [], laidByText := true, laidKinds := [.data, .pinned, .pinned], laidTests := true, laidLooks := .later }
def FnNumberCardSaid : Prop := Claim7.holds Tryd.pinned (.plain (OpenSpec.ofChange fnNumberSpec)) fnNumberCard

/-- THE TIED CARD OF 'laws.FnClass'. -/
def fnClassCard : Claim7 := { stood := { row := fnClassRow, standIns := [], harness := (true, "c051cd793f9f80afa6adcf0c2d525a2ebf5d891e36d73575f8e5234fe10715cf"), looks := false }, kinds := [], alts := [], laidByText := true, laidKinds := [.data, .data, .data, .data, .pinned, .pinned], laidTests := true, laidLooks := .later }
def FnClassCardSaid : Prop := Claim7.holds Tryd.pinned (.plain (OpenSpec.ofChange fnClassSpec)) fnClassCard

/-- THE TIED CARD OF 'laws.FnNormal'. -/
def fnNormalCard : Claim7 := { stood := { row := fnNormalRow, standIns := [], harness := (true, "c051cd793f9f80afa6adcf0c2d525a2ebf5d891e36d73575f8e5234fe10715cf"), looks := false }, kinds := [], alts := [], laidByText := true, laidKinds := [.data, .data, .data, .data, .pinned, .pinned], laidTests := true, laidLooks := .later }
def FnNormalCardSaid : Prop := Claim7.holds Tryd.pinned (.plain (OpenSpec.ofChange fnNormalSpec)) fnNormalCard

/-- THE TIED CARD OF 'laws.FnJoin'. -/
def fnJoinCard : Claim7 := { stood := { row := fnJoinRow, standIns := [], harness := (true, "c051cd793f9f80afa6adcf0c2d525a2ebf5d891e36d73575f8e5234fe10715cf"), looks := false }, kinds := [], alts := [], laidByText := true, laidKinds := [.data, .data, .data, .data, .pinned, .pinned], laidTests := true, laidLooks := .later }
def FnJoinCardSaid : Prop := Claim7.holds Tryd.pinned (.plain (OpenSpec.ofChange fnJoinSpec)) fnJoinCard

/-- THE TIED CARD OF 'laws.FnJoinHandle'. -/
def fnJoinHandleCard : Claim7 := { stood := { row := fnJoinHandleRow, standIns := [], harness := (true, "c051cd793f9f80afa6adcf0c2d525a2ebf5d891e36d73575f8e5234fe10715cf"), looks := false }, kinds := [], alts := [], laidByText := true, laidKinds := [.data, .data, .data, .data, .pinned, .pinned], laidTests := true, laidLooks := .later }
def FnJoinHandleCardSaid : Prop := Claim7.holds Tryd.pinned (.plain (OpenSpec.ofChange fnJoinHandleSpec)) fnJoinHandleCard

/-- THE TIED CARD OF 'laws.FnWordCut'. -/
def fnWordCutCard : Claim7 := { stood := { row := fnWordCutRow, standIns := [], harness := (true, "c051cd793f9f80afa6adcf0c2d525a2ebf5d891e36d73575f8e5234fe10715cf"), looks := false }, kinds := [], alts := [], laidByText := true, laidKinds := [.data, .data, .data, .data, .pinned, .pinned], laidTests := true, laidLooks := .later }
def FnWordCutCardSaid : Prop := Claim7.holds Tryd.pinned (.plain (OpenSpec.ofChange fnWordCutSpec)) fnWordCutCard

/-- THE TIED CARD OF 'laws.FnWordSame'. -/
def fnWordSameCard : Claim7 := { stood := { row := fnWordSameRow, standIns := [], harness := (true, "c051cd793f9f80afa6adcf0c2d525a2ebf5d891e36d73575f8e5234fe10715cf"), looks := false }, kinds := [], alts := [], laidByText := true, laidKinds := [.data, .data, .data, .data, .pinned, .pinned], laidTests := true, laidLooks := .later }
def FnWordSameCardSaid : Prop := Claim7.holds Tryd.pinned (.plain (OpenSpec.ofChange fnWordSameSpec)) fnWordSameCard

/-- THE TIED CARD OF 'laws.FnWordGluing'. -/
def fnWordGluingCard : Claim7 := { stood := { row := fnWordGluingRow, standIns := [], harness := (true, "c051cd793f9f80afa6adcf0c2d525a2ebf5d891e36d73575f8e5234fe10715cf"), looks := false }, kinds := [], alts := [], laidByText := true, laidKinds := [.data, .pinned, .pinned], laidTests := true, laidLooks := .later }
def FnWordGluingCardSaid : Prop := Claim7.holds Tryd.pinned (.plain (OpenSpec.ofChange fnWordGluingSpec)) fnWordGluingCard

/-- THE SECOND FORM's CARD OF 'laws.FnWordCorners'. -/
def fnWordCornersUptoCard : Claim7 := { stood := { row := fnWordCornersUptoRow, standIns := [], harness := (true, "c051cd793f9f80afa6adcf0c2d525a2ebf5d891e36d73575f8e5234fe10715cf"), looks := false }, kinds := [], alts := [], laidByText := true, laidKinds := [.data, .pinned, .pinned], laidTests := true, laidLooks := .later }
def FnWordCornersUptoCardSaid : Prop := Claim7.holds Tryd.pinned (.plain (OpenSpec.upto fnWordCornersSpec)) fnWordCornersUptoCard

/-- THE SECOND FORM's CARD OF 'laws.FnNumber'. -/
def fnNumberUptoCard : Claim7 := { stood := { row := fnNumberUptoRow, standIns := [], harness := (true, "c051cd793f9f80afa6adcf0c2d525a2ebf5d891e36d73575f8e5234fe10715cf"), looks := false }, kinds := [], alts := [], laidByText := true, laidKinds := [.data, .pinned, .pinned], laidTests := true, laidLooks := .later }
def FnNumberUptoCardSaid : Prop := Claim7.holds Tryd.pinned (.plain (OpenSpec.upto fnNumberSpec)) fnNumberUptoCard

/-- THE SECOND FORM's CARD OF 'laws.FnClass'. -/
def fnClassUptoCard : Claim7 := { stood := { row := fnClassUptoRow, standIns := [], harness := (true, "c051cd793f9f80afa6adcf0c2d525a2ebf5d891e36d73575f8e5234fe10715cf"), looks := false }, kinds := [], alts := [], laidByText := true, laidKinds := [.data, .data, .data, .data, .pinned, .pinned], laidTests := true, laidLooks := .later }
def FnClassUptoCardSaid : Prop := Claim7.holds Tryd.pinned (.plain (OpenSpec.upto fnClassSpec)) fnClassUptoCard

/-- THE SECOND FORM's CARD OF 'laws.FnNormal'. -/
def fnNormalUptoCard : Claim7 := { stood := { row := fnNormalUptoRow, standIns := [], harness := (true, "c051cd793f9f80afa6adcf0c2d525a2ebf5d891e36d73575f8e5234fe10715cf"), looks := false }, kinds := [], alts := [], laidByText := true, laidKinds := [.data, .data, .data, .data, .pinned, .pinned], laidTests := true, laidLooks := .later }
def FnNormalUptoCardSaid : Prop := Claim7.holds Tryd.pinned (.plain (OpenSpec.upto fnNormalSpec)) fnNormalUptoCard

/-- THE SECOND FORM's CARD OF 'laws.FnJoin'. -/
def fnJoinUptoCard : Claim7 := { stood := { row := fnJoinUptoRow, standIns := [], harness := (true, "c051cd793f9f80afa6adcf0c2d525a2ebf5d891e36d73575f8e5234fe10715cf"), looks := false }, kinds := [], alts := [], laidByText := true, laidKinds := [.data, .data, .data, .data, .pinned, .pinned], laidTests := true, laidLooks := .later }
def FnJoinUptoCardSaid : Prop := Claim7.holds Tryd.pinned (.plain (OpenSpec.upto fnJoinSpec)) fnJoinUptoCard

/-- THE SECOND FORM's CARD OF 'laws.FnJoinHandle'. -/
def fnJoinHandleUptoCard : Claim7 := { stood := { row := fnJoinHandleUptoRow, standIns := [], harness := (true, "c051cd793f9f80afa6adcf0c2d525a2ebf5d891e36d73575f8e5234fe10715cf"), looks := false }, kinds := [], alts := [], laidByText := true, laidKinds := [.data, .data, .data, .data, .pinned, .pinned], laidTests := true, laidLooks := .later }
def FnJoinHandleUptoCardSaid : Prop := Claim7.holds Tryd.pinned (.plain (OpenSpec.upto fnJoinHandleSpec)) fnJoinHandleUptoCard

/-- THE SECOND FORM's CARD OF 'laws.FnWordCut'. -/
def fnWordCutUptoCard : Claim7 := { stood := { row := fnWordCutUptoRow, standIns := [], harness := (true, "c051cd793f9f80afa6adcf0c2d525a2ebf5d891e36d73575f8e5234fe10715cf"), looks := false }, kinds := [], alts := [], laidByText := true, laidKinds := [.data, .data, .data, .data, .pinned, .pinned], laidTests := true, laidLooks := .later }
def FnWordCutUptoCardSaid : Prop := Claim7.holds Tryd.pinned (.plain (OpenSpec.upto fnWordCutSpec)) fnWordCutUptoCard

/-- THE SECOND FORM's CARD OF 'laws.FnWordSame'. -/
def fnWordSameUptoCard : Claim7 := { stood := { row := fnWordSameUptoRow, standIns := [], harness := (true, "c051cd793f9f80afa6adcf0c2d525a2ebf5d891e36d73575f8e5234fe10715cf"), looks := false }, kinds := [], alts := [], laidByText := true, laidKinds := [.data, .data, .data, .data, .pinned, .pinned], laidTests := true, laidLooks := .later }
def FnWordSameUptoCardSaid : Prop := Claim7.holds Tryd.pinned (.plain (OpenSpec.upto fnWordSameSpec)) fnWordSameUptoCard

/-- THE SECOND FORM's CARD OF 'laws.FnWordGluing'. -/
def fnWordGluingUptoCard : Claim7 := { stood := { row := fnWordGluingUptoRow, standIns := [], harness := (true, "c051cd793f9f80afa6adcf0c2d525a2ebf5d891e36d73575f8e5234fe10715cf"), looks := false }, kinds := [], alts := [], laidByText := true, laidKinds := [.data, .pinned, .pinned], laidTests := true, laidLooks := .later }
def FnWordGluingUptoCardSaid : Prop := Claim7.holds Tryd.pinned (.plain (OpenSpec.upto fnWordGluingSpec)) fnWordGluingUptoCard
end Rows
end Go.Proofs.YtfdliekhlcbkcaaDoor
