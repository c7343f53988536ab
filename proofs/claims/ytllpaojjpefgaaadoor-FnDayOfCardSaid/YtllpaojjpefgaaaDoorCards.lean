/-
  DERIVED. GIVEN WITH THE SEED: THE CARDS: each row of YtllpaojjpefgaaaDoorRows.lean that lists a variable, with what it lists TIED to the program's text (the seventh form; the later family's looks); each row that meets fmt, with fmt's text TOLD by the authors' own Lean function (tested against real Go, not proved from fmt's source: count such statements apart). THE CARD IS WHAT COUNTS. Prove the row's statement (the work); the ties are given (YtllpaojjpefgaaaDoorTie.lean); close each card by the builder's one call (the guide's Derived/Test/ToyasCard.lean, 'card_holds'). Laid BY PROGRAM, IN A SANDBOX (cutbox-door.mjs). By AI agents, Wed Nov 11 2026. No macro, syntax, notation, axiom, sorry.
-/
import Derived.Test.YtllpaojjpefgaaaDoorRows
import GoSem.ClaimSeven
namespace Go.Proofs.YtllpaojjpefgaaaDoor
namespace Rows

/-- THE TIED CARD OF 'laws.FnYearLeap'. -/
def fnYearLeapCard : Claim7 := { stood := { row := fnYearLeapRow, standIns := [], harness := (true, "a9137358afdf377200e10b726da91221e9afddc4457f6697c0a441ec2c6ad65d"), looks := false }, kinds := [], alts := [], laidByText := true, laidKinds := [.data], laidTests := true, laidLooks := .later }
def FnYearLeapCardSaid : Prop := Claim7.holds Tryd.pinned (.plain (OpenSpec.ofChange fnYearLeapSpec)) fnYearLeapCard

/-- THE TIED CARD OF 'laws.FnMonthDays'. -/
def fnMonthDaysCard : Claim7 := { stood := { row := fnMonthDaysRow, standIns := [], harness := (true, "a9137358afdf377200e10b726da91221e9afddc4457f6697c0a441ec2c6ad65d"), looks := false }, kinds := [], alts := [], laidByText := true, laidKinds := [.data], laidTests := true, laidLooks := .later }
def FnMonthDaysCardSaid : Prop := Claim7.holds Tryd.pinned (.plain (OpenSpec.ofChange fnMonthDaysSpec)) fnMonthDaysCard

/-- THE TIED CARD OF 'laws.FnDayOf'. -/
def fnDayOfCard : Claim7 := { stood := { row := fnDayOfRow, standIns := [], harness := (true, "a9137358afdf377200e10b726da91221e9afddc4457f6697c0a441ec2c6ad65d"), looks := false }, kinds := [], alts := [], laidByText := true, laidKinds := [.data], laidTests := true, laidLooks := .later }
def FnDayOfCardSaid : Prop := Claim7.holds Tryd.pinned (.plain (OpenSpec.ofChange fnDayOfSpec)) fnDayOfCard

/-- THE TIED CARD OF 'laws.FnWeekOf'. -/
def fnWeekOfCard : Claim7 := { stood := { row := fnWeekOfRow, standIns := [], harness := (true, "a9137358afdf377200e10b726da91221e9afddc4457f6697c0a441ec2c6ad65d"), looks := false }, kinds := [], alts := [], laidByText := true, laidKinds := [.data], laidTests := true, laidLooks := .later }
def FnWeekOfCardSaid : Prop := Claim7.holds Tryd.pinned (.plain (OpenSpec.ofChange fnWeekOfSpec)) fnWeekOfCard

/-- THE TIED CARD OF 'laws.FnMonthAdd'. -/
def fnMonthAddCard : Claim7 := { stood := { row := fnMonthAddRow, standIns := [], harness := (true, "a9137358afdf377200e10b726da91221e9afddc4457f6697c0a441ec2c6ad65d"), looks := false }, kinds := [], alts := [], laidByText := true, laidKinds := [.data], laidTests := true, laidLooks := .later }
def FnMonthAddCardSaid : Prop := Claim7.holds Tryd.pinned (.plain (OpenSpec.ofChange fnMonthAddSpec)) fnMonthAddCard

/-- THE SECOND FORM's CARD OF 'laws.FnYearLeap'. -/
def fnYearLeapUptoCard : Claim7 := { stood := { row := fnYearLeapUptoRow, standIns := [], harness := (true, "a9137358afdf377200e10b726da91221e9afddc4457f6697c0a441ec2c6ad65d"), looks := false }, kinds := [], alts := [], laidByText := true, laidKinds := [.data], laidTests := true, laidLooks := .later }
def FnYearLeapUptoCardSaid : Prop := Claim7.holds Tryd.pinned (.plain (OpenSpec.upto fnYearLeapSpec)) fnYearLeapUptoCard

/-- THE SECOND FORM's CARD OF 'laws.FnMonthDays'. -/
def fnMonthDaysUptoCard : Claim7 := { stood := { row := fnMonthDaysUptoRow, standIns := [], harness := (true, "a9137358afdf377200e10b726da91221e9afddc4457f6697c0a441ec2c6ad65d"), looks := false }, kinds := [], alts := [], laidByText := true, laidKinds := [.data], laidTests := true, laidLooks := .later }
def FnMonthDaysUptoCardSaid : Prop := Claim7.holds Tryd.pinned (.plain (OpenSpec.upto fnMonthDaysSpec)) fnMonthDaysUptoCard

/-- THE SECOND FORM's CARD OF 'laws.FnDayOf'. -/
def fnDayOfUptoCard : Claim7 := { stood := { row := fnDayOfUptoRow, standIns := [], harness := (true, "a9137358afdf377200e10b726da91221e9afddc4457f6697c0a441ec2c6ad65d"), looks := false }, kinds := [], alts := [], laidByText := true, laidKinds := [.data], laidTests := true, laidLooks := .later }
def FnDayOfUptoCardSaid : Prop := Claim7.holds Tryd.pinned (.plain (OpenSpec.upto fnDayOfSpec)) fnDayOfUptoCard

/-- THE SECOND FORM's CARD OF 'laws.FnWeekOf'. -/
def fnWeekOfUptoCard : Claim7 := { stood := { row := fnWeekOfUptoRow, standIns := [], harness := (true, "a9137358afdf377200e10b726da91221e9afddc4457f6697c0a441ec2c6ad65d"), looks := false }, kinds := [], alts := [], laidByText := true, laidKinds := [.data], laidTests := true, laidLooks := .later }
def FnWeekOfUptoCardSaid : Prop := Claim7.holds Tryd.pinned (.plain (OpenSpec.upto fnWeekOfSpec)) fnWeekOfUptoCard

/-- THE SECOND FORM's CARD OF 'laws.FnMonthAdd'. -/
def fnMonthAddUptoCard : Claim7 := { stood := { row := fnMonthAddUptoRow, standIns := [], harness := (true, "a9137358afdf377200e10b726da91221e9afddc4457f6697c0a441ec2c6ad65d"), looks := false }, kinds := [], alts := [], laidByText := true, laidKinds := [.data], laidTests := true, laidLooks := .later }
def FnMonthAddUptoCardSaid : Prop := Claim7.holds Tryd.pinned (.plain (OpenSpec.upto fnMonthAddSpec)) fnMonthAddUptoCard
end Rows
end Go.Proofs.YtllpaojjpefgaaaDoor
