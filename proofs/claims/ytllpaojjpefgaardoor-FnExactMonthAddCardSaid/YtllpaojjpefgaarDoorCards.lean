/-
  DERIVED. GIVEN WITH THE SEED: THE CARDS: each row of YtllpaojjpefgaarDoorRows.lean that lists a variable, with what it lists TIED to the program's text (the seventh form; the later family's looks); each row that meets fmt, with fmt's text TOLD by the authors' own Lean function (tested against real Go, not proved from fmt's source: count such statements apart). THE CARD IS WHAT COUNTS. Prove the row's statement (the work); the ties are given (YtllpaojjpefgaarDoorTie.lean); close each card by the builder's one call (the guide's Derived/Test/ToyasCard.lean, 'card_holds'). Laid BY PROGRAM, IN A SANDBOX (cutbox-door.mjs). By AI agents, Wed Nov 11 2026. No macro, syntax, notation, axiom, sorry.
-/
import Derived.Test.YtllpaojjpefgaarDoorRows
import GoSem.ClaimSeven
namespace Go.Proofs.YtllpaojjpefgaarDoor
namespace Rows

/-- THE TIED CARD OF 'laws.FnExactMonthAdd'. -/
def fnExactMonthAddCard : Claim7 := { stood := { row := fnExactMonthAddRow, standIns := [], harness := (true, "b544c9403081a8cfe215fe6eb5d8914adf2056740993296ba6529c7c3e77afee"), looks := false }, kinds := [], alts := [], laidByText := true, laidKinds := [.data], laidTests := true, laidLooks := .later }
def FnExactMonthAddCardSaid : Prop := Claim7.holds Tryd.pinned (.plain (OpenSpec.ofChange fnExactMonthAddSpec)) fnExactMonthAddCard

/-- THE TIED CARD OF 'laws.FnExactDateText'. -/
def fnExactDateTextCard : Claim7 := { stood := { row := fnExactDateTextRow, standIns := [], harness := (true, "b544c9403081a8cfe215fe6eb5d8914adf2056740993296ba6529c7c3e77afee"), looks := false }, kinds := [], alts := [], laidByText := true, laidKinds := [.data, .data, .data, .data], laidTests := true, laidLooks := .later }
def FnExactDateTextCardSaid : Prop := Claim7.holds Tryd.pinned (.plain (OpenSpec.ofChange fnExactDateTextSpec)) fnExactDateTextCard

/-- THE TIED CARD OF 'laws.FnExactDateGet'. -/
def fnExactDateGetCard : Claim7 := { stood := { row := fnExactDateGetRow, standIns := [], harness := (true, "b544c9403081a8cfe215fe6eb5d8914adf2056740993296ba6529c7c3e77afee"), looks := false }, kinds := [], alts := [], laidByText := true, laidKinds := [.data], laidTests := true, laidLooks := .later }
def FnExactDateGetCardSaid : Prop := Claim7.holds Tryd.pinned (.plain (OpenSpec.ofChange fnExactDateGetSpec)) fnExactDateGetCard

/-- THE SECOND FORM's CARD OF 'laws.FnExactMonthAdd'. -/
def fnExactMonthAddUptoCard : Claim7 := { stood := { row := fnExactMonthAddUptoRow, standIns := [], harness := (true, "b544c9403081a8cfe215fe6eb5d8914adf2056740993296ba6529c7c3e77afee"), looks := false }, kinds := [], alts := [], laidByText := true, laidKinds := [.data], laidTests := true, laidLooks := .later }
def FnExactMonthAddUptoCardSaid : Prop := Claim7.holds Tryd.pinned (.plain (OpenSpec.upto fnExactMonthAddSpec)) fnExactMonthAddUptoCard

/-- THE SECOND FORM's CARD OF 'laws.FnExactDateText'. -/
def fnExactDateTextUptoCard : Claim7 := { stood := { row := fnExactDateTextUptoRow, standIns := [], harness := (true, "b544c9403081a8cfe215fe6eb5d8914adf2056740993296ba6529c7c3e77afee"), looks := false }, kinds := [], alts := [], laidByText := true, laidKinds := [.data, .data, .data, .data], laidTests := true, laidLooks := .later }
def FnExactDateTextUptoCardSaid : Prop := Claim7.holds Tryd.pinned (.plain (OpenSpec.upto fnExactDateTextSpec)) fnExactDateTextUptoCard

/-- THE SECOND FORM's CARD OF 'laws.FnExactDateGet'. -/
def fnExactDateGetUptoCard : Claim7 := { stood := { row := fnExactDateGetUptoRow, standIns := [], harness := (true, "b544c9403081a8cfe215fe6eb5d8914adf2056740993296ba6529c7c3e77afee"), looks := false }, kinds := [], alts := [], laidByText := true, laidKinds := [.data], laidTests := true, laidLooks := .later }
def FnExactDateGetUptoCardSaid : Prop := Claim7.holds Tryd.pinned (.plain (OpenSpec.upto fnExactDateGetSpec)) fnExactDateGetUptoCard
end Rows
end Go.Proofs.YtllpaojjpefgaarDoor
