/-
  DERIVED. GIVEN WITH THE SEED: THE CARDS: each row of YtllpaojjpefgaaqDoorRows.lean that lists a variable, with what it lists TIED to the program's text (the seventh form; the later family's looks); each row that meets fmt, with fmt's text TOLD by the authors' own Lean function (tested against real Go, not proved from fmt's source: count such statements apart). THE CARD IS WHAT COUNTS. Prove the row's statement (the work); the ties are given (YtllpaojjpefgaaqDoorTie.lean); close each card by the builder's one call (the guide's Derived/Test/ToyasCard.lean, 'card_holds'). Laid BY PROGRAM, IN A SANDBOX (cutbox-door.mjs). By AI agents, Wed Nov 11 2026. No macro, syntax, notation, axiom, sorry.
-/
import Derived.Test.YtllpaojjpefgaaqDoorRows
import GoSem.ClaimSeven
namespace Go.Proofs.YtllpaojjpefgaaqDoor
namespace Rows

/-- THE TIED CARD OF 'laws.FnExactMonthDays'. -/
def fnExactMonthDaysCard : Claim7 := { stood := { row := fnExactMonthDaysRow, standIns := [], harness := (true, "f3b92929b37b53b9313163d3023fb13e69d0b4b71085441871ab2699cfa1a976"), looks := false }, kinds := [], alts := [], laidByText := true, laidKinds := [.data], laidTests := true, laidLooks := .later }
def FnExactMonthDaysCardSaid : Prop := Claim7.holds Tryd.pinned (.plain (OpenSpec.ofChange fnExactMonthDaysSpec)) fnExactMonthDaysCard

/-- THE TIED CARD OF 'laws.FnExactDateOk'. -/
def fnExactDateOkCard : Claim7 := { stood := { row := fnExactDateOkRow, standIns := [], harness := (true, "f3b92929b37b53b9313163d3023fb13e69d0b4b71085441871ab2699cfa1a976"), looks := false }, kinds := [], alts := [], laidByText := true, laidKinds := [.data], laidTests := true, laidLooks := .later }
def FnExactDateOkCardSaid : Prop := Claim7.holds Tryd.pinned (.plain (OpenSpec.ofChange fnExactDateOkSpec)) fnExactDateOkCard

/-- THE TIED CARD OF 'laws.FnExactDayOf'. -/
def fnExactDayOfCard : Claim7 := { stood := { row := fnExactDayOfRow, standIns := [], harness := (true, "f3b92929b37b53b9313163d3023fb13e69d0b4b71085441871ab2699cfa1a976"), looks := false }, kinds := [], alts := [], laidByText := true, laidKinds := [.data], laidTests := true, laidLooks := .later }
def FnExactDayOfCardSaid : Prop := Claim7.holds Tryd.pinned (.plain (OpenSpec.ofChange fnExactDayOfSpec)) fnExactDayOfCard

/-- THE TIED CARD OF 'laws.FnExactDateOf'. -/
def fnExactDateOfCard : Claim7 := { stood := { row := fnExactDateOfRow, standIns := [], harness := (true, "f3b92929b37b53b9313163d3023fb13e69d0b4b71085441871ab2699cfa1a976"), looks := false }, kinds := [], alts := [], laidByText := true, laidKinds := [.data], laidTests := true, laidLooks := .later }
def FnExactDateOfCardSaid : Prop := Claim7.holds Tryd.pinned (.plain (OpenSpec.ofChange fnExactDateOfSpec)) fnExactDateOfCard

/-- THE SECOND FORM's CARD OF 'laws.FnExactMonthDays'. -/
def fnExactMonthDaysUptoCard : Claim7 := { stood := { row := fnExactMonthDaysUptoRow, standIns := [], harness := (true, "f3b92929b37b53b9313163d3023fb13e69d0b4b71085441871ab2699cfa1a976"), looks := false }, kinds := [], alts := [], laidByText := true, laidKinds := [.data], laidTests := true, laidLooks := .later }
def FnExactMonthDaysUptoCardSaid : Prop := Claim7.holds Tryd.pinned (.plain (OpenSpec.upto fnExactMonthDaysSpec)) fnExactMonthDaysUptoCard

/-- THE SECOND FORM's CARD OF 'laws.FnExactDateOk'. -/
def fnExactDateOkUptoCard : Claim7 := { stood := { row := fnExactDateOkUptoRow, standIns := [], harness := (true, "f3b92929b37b53b9313163d3023fb13e69d0b4b71085441871ab2699cfa1a976"), looks := false }, kinds := [], alts := [], laidByText := true, laidKinds := [.data], laidTests := true, laidLooks := .later }
def FnExactDateOkUptoCardSaid : Prop := Claim7.holds Tryd.pinned (.plain (OpenSpec.upto fnExactDateOkSpec)) fnExactDateOkUptoCard

/-- THE SECOND FORM's CARD OF 'laws.FnExactDayOf'. -/
def fnExactDayOfUptoCard : Claim7 := { stood := { row := fnExactDayOfUptoRow, standIns := [], harness := (true, "f3b92929b37b53b9313163d3023fb13e69d0b4b71085441871ab2699cfa1a976"), looks := false }, kinds := [], alts := [], laidByText := true, laidKinds := [.data], laidTests := true, laidLooks := .later }
def FnExactDayOfUptoCardSaid : Prop := Claim7.holds Tryd.pinned (.plain (OpenSpec.upto fnExactDayOfSpec)) fnExactDayOfUptoCard

/-- THE SECOND FORM's CARD OF 'laws.FnExactDateOf'. -/
def fnExactDateOfUptoCard : Claim7 := { stood := { row := fnExactDateOfUptoRow, standIns := [], harness := (true, "f3b92929b37b53b9313163d3023fb13e69d0b4b71085441871ab2699cfa1a976"), looks := false }, kinds := [], alts := [], laidByText := true, laidKinds := [.data], laidTests := true, laidLooks := .later }
def FnExactDateOfUptoCardSaid : Prop := Claim7.holds Tryd.pinned (.plain (OpenSpec.upto fnExactDateOfSpec)) fnExactDateOfUptoCard
end Rows
end Go.Proofs.YtllpaojjpefgaaqDoor
