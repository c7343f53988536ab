/-
  DERIVED. GIVEN WITH THE SEED: THE CARDS: each row of YtllpaojjpefgaagDoorRows.lean that lists a variable, with what it lists TIED to the program's text (the seventh form; the later family's looks); each row that meets fmt, with fmt's text TOLD by the authors' own Lean function (tested against real Go, not proved from fmt's source: count such statements apart). THE CARD IS WHAT COUNTS. Prove the row's statement (the work); the ties are given (YtllpaojjpefgaagDoorTie.lean); close each card by the builder's one call (the guide's Derived/Test/ToyasCard.lean, 'card_holds'). Laid BY PROGRAM, IN A SANDBOX (cutbox-door.mjs). By AI agents, Wed Nov 11 2026. No macro, syntax, notation, axiom, sorry.
-/
import Derived.Test.YtllpaojjpefgaagDoorRows
import GoSem.ClaimSeven
namespace Go.Proofs.YtllpaojjpefgaagDoor
namespace Rows

/-- THE TIED CARD OF 'laws.FnMonthAddTwo'. -/
def fnMonthAddTwoCard : Claim7 := { stood := { row := fnMonthAddTwoRow, standIns := [], harness := (true, "db0e3ce582539a375c99a050d7599a92288c795c130a4c5faf3706cfbb16ebb6"), looks := false }, kinds := [], alts := [], laidByText := true, laidKinds := [.data], laidTests := true, laidLooks := .later }
def FnMonthAddTwoCardSaid : Prop := Claim7.holds Tryd.pinned (.plain (OpenSpec.ofChange fnMonthAddTwoSpec)) fnMonthAddTwoCard

/-- THE TIED CARD OF 'laws.FnYearDays'. -/
def fnYearDaysCard : Claim7 := { stood := { row := fnYearDaysRow, standIns := [], harness := (true, "db0e3ce582539a375c99a050d7599a92288c795c130a4c5faf3706cfbb16ebb6"), looks := false }, kinds := [], alts := [], laidByText := true, laidKinds := [.data], laidTests := true, laidLooks := .later }
def FnYearDaysCardSaid : Prop := Claim7.holds Tryd.pinned (.plain (OpenSpec.ofChange fnYearDaysSpec)) fnYearDaysCard

/-- THE SECOND FORM's CARD OF 'laws.FnMonthAddTwo'. -/
def fnMonthAddTwoUptoCard : Claim7 := { stood := { row := fnMonthAddTwoUptoRow, standIns := [], harness := (true, "db0e3ce582539a375c99a050d7599a92288c795c130a4c5faf3706cfbb16ebb6"), looks := false }, kinds := [], alts := [], laidByText := true, laidKinds := [.data], laidTests := true, laidLooks := .later }
def FnMonthAddTwoUptoCardSaid : Prop := Claim7.holds Tryd.pinned (.plain (OpenSpec.upto fnMonthAddTwoSpec)) fnMonthAddTwoUptoCard

/-- THE SECOND FORM's CARD OF 'laws.FnYearDays'. -/
def fnYearDaysUptoCard : Claim7 := { stood := { row := fnYearDaysUptoRow, standIns := [], harness := (true, "db0e3ce582539a375c99a050d7599a92288c795c130a4c5faf3706cfbb16ebb6"), looks := false }, kinds := [], alts := [], laidByText := true, laidKinds := [.data], laidTests := true, laidLooks := .later }
def FnYearDaysUptoCardSaid : Prop := Claim7.holds Tryd.pinned (.plain (OpenSpec.upto fnYearDaysSpec)) fnYearDaysUptoCard
end Rows
end Go.Proofs.YtllpaojjpefgaagDoor
