/-
  DERIVED. GIVEN WITH THE SEED: THE CARDS: each row of YtbbbmdidmnhpmaaDoorRows.lean that lists a variable, with what it lists TIED to the program's text (the seventh form; the later family's looks); each row that meets fmt, with fmt's text TOLD by the authors' own Lean function (tested against real Go, not proved from fmt's source: count such statements apart). THE CARD IS WHAT COUNTS. Prove the row's statement (the work); the ties are given (YtbbbmdidmnhpmaaDoorTie.lean); close each card by the builder's one call (the guide's Derived/Test/ToyasCard.lean, 'card_holds'). Laid BY PROGRAM, IN A SANDBOX (cutbox-door.mjs). By AI agents, Wed Nov 11 2026. No macro, syntax, notation, axiom, sorry.
-/
import Derived.Test.YtbbbmdidmnhpmaaDoorRows
import GoSem.ClaimSeven
namespace Go.Proofs.YtbbbmdidmnhpmaaDoor
namespace Rows

/-- THE TIED CARD OF 'laws.FnDateText'. -/
def fnDateTextCard : Claim7 := { stood := { row := fnDateTextRow, standIns := [], harness := (true, "603cee00c4b98f7639cc5804560e3964385d8f2641863c66f23fa11802ae01fa"), looks := false }, kinds := [], alts := [], laidByText := true, laidKinds := [.data, .data, .data, .data], laidTests := true, laidLooks := .later }
def FnDateTextCardSaid : Prop := Claim7.holds Tryd.pinned (.plain (OpenSpec.ofChange fnDateTextSpec)) fnDateTextCard

/-- THE TIED CARD OF 'laws.FnTimeText'. -/
def fnTimeTextCard : Claim7 := { stood := { row := fnTimeTextRow, standIns := [], harness := (true, "603cee00c4b98f7639cc5804560e3964385d8f2641863c66f23fa11802ae01fa"), looks := false }, kinds := [], alts := [], laidByText := true, laidKinds := [.data, .data, .data, .data], laidTests := true, laidLooks := .later }
def FnTimeTextCardSaid : Prop := Claim7.holds Tryd.pinned (.plain (OpenSpec.ofChange fnTimeTextSpec)) fnTimeTextCard

/-- THE TIED CARD OF 'laws.FnExactDateText'. -/
def fnExactDateTextCard : Claim7 := { stood := { row := fnExactDateTextRow, standIns := [], harness := (true, "603cee00c4b98f7639cc5804560e3964385d8f2641863c66f23fa11802ae01fa"), looks := false }, kinds := [], alts := [], laidByText := true, laidKinds := [.data, .data, .data, .data], laidTests := true, laidLooks := .later }
def FnExactDateTextCardSaid : Prop := Claim7.holds Tryd.pinned (.plain (OpenSpec.ofChange fnExactDateTextSpec)) fnExactDateTextCard

/-- THE TIED CARD OF 'laws.FnExactDateGet'. -/
def fnExactDateGetCard : Claim7 := { stood := { row := fnExactDateGetRow, standIns := [], harness := (true, "603cee00c4b98f7639cc5804560e3964385d8f2641863c66f23fa11802ae01fa"), looks := false }, kinds := [], alts := [], laidByText := true, laidKinds := [.data], laidTests := true, laidLooks := .later }
def FnExactDateGetCardSaid : Prop := Claim7.holds Tryd.pinned (.plain (OpenSpec.ofChange fnExactDateGetSpec)) fnExactDateGetCard

/-- THE TIED CARD OF 'laws.FnExactTimeText'. -/
def fnExactTimeTextCard : Claim7 := { stood := { row := fnExactTimeTextRow, standIns := [], harness := (true, "603cee00c4b98f7639cc5804560e3964385d8f2641863c66f23fa11802ae01fa"), looks := false }, kinds := [], alts := [], laidByText := true, laidKinds := [.data, .data, .data, .data], laidTests := true, laidLooks := .later }
def FnExactTimeTextCardSaid : Prop := Claim7.holds Tryd.pinned (.plain (OpenSpec.ofChange fnExactTimeTextSpec)) fnExactTimeTextCard

/-- THE TIED CARD OF 'laws.FnExactTimeGet'. -/
def fnExactTimeGetCard : Claim7 := { stood := { row := fnExactTimeGetRow, standIns := [], harness := (true, "603cee00c4b98f7639cc5804560e3964385d8f2641863c66f23fa11802ae01fa"), looks := false }, kinds := [], alts := [], laidByText := true, laidKinds := [.data], laidTests := true, laidLooks := .later }
def FnExactTimeGetCardSaid : Prop := Claim7.holds Tryd.pinned (.plain (OpenSpec.ofChange fnExactTimeGetSpec)) fnExactTimeGetCard

/-- THE SECOND FORM's CARD OF 'laws.FnDateText'. -/
def fnDateTextUptoCard : Claim7 := { stood := { row := fnDateTextUptoRow, standIns := [], harness := (true, "603cee00c4b98f7639cc5804560e3964385d8f2641863c66f23fa11802ae01fa"), looks := false }, kinds := [], alts := [], laidByText := true, laidKinds := [.data, .data, .data, .data], laidTests := true, laidLooks := .later }
def FnDateTextUptoCardSaid : Prop := Claim7.holds Tryd.pinned (.plain (OpenSpec.upto fnDateTextSpec)) fnDateTextUptoCard

/-- THE SECOND FORM's CARD OF 'laws.FnTimeText'. -/
def fnTimeTextUptoCard : Claim7 := { stood := { row := fnTimeTextUptoRow, standIns := [], harness := (true, "603cee00c4b98f7639cc5804560e3964385d8f2641863c66f23fa11802ae01fa"), looks := false }, kinds := [], alts := [], laidByText := true, laidKinds := [.data, .data, .data, .data], laidTests := true, laidLooks := .later }
def FnTimeTextUptoCardSaid : Prop := Claim7.holds Tryd.pinned (.plain (OpenSpec.upto fnTimeTextSpec)) fnTimeTextUptoCard

/-- THE SECOND FORM's CARD OF 'laws.FnExactDateText'. -/
def fnExactDateTextUptoCard : Claim7 := { stood := { row := fnExactDateTextUptoRow, standIns := [], harness := (true, "603cee00c4b98f7639cc5804560e3964385d8f2641863c66f23fa11802ae01fa"), looks := false }, kinds := [], alts := [], laidByText := true, laidKinds := [.data, .data, .data, .data], laidTests := true, laidLooks := .later }
def FnExactDateTextUptoCardSaid : Prop := Claim7.holds Tryd.pinned (.plain (OpenSpec.upto fnExactDateTextSpec)) fnExactDateTextUptoCard

/-- THE SECOND FORM's CARD OF 'laws.FnExactDateGet'. -/
def fnExactDateGetUptoCard : Claim7 := { stood := { row := fnExactDateGetUptoRow, standIns := [], harness := (true, "603cee00c4b98f7639cc5804560e3964385d8f2641863c66f23fa11802ae01fa"), looks := false }, kinds := [], alts := [], laidByText := true, laidKinds := [.data], laidTests := true, laidLooks := .later }
def FnExactDateGetUptoCardSaid : Prop := Claim7.holds Tryd.pinned (.plain (OpenSpec.upto fnExactDateGetSpec)) fnExactDateGetUptoCard

/-- THE SECOND FORM's CARD OF 'laws.FnExactTimeText'. -/
def fnExactTimeTextUptoCard : Claim7 := { stood := { row := fnExactTimeTextUptoRow, standIns := [], harness := (true, "603cee00c4b98f7639cc5804560e3964385d8f2641863c66f23fa11802ae01fa"), looks := false }, kinds := [], alts := [], laidByText := true, laidKinds := [.data, .data, .data, .data], laidTests := true, laidLooks := .later }
def FnExactTimeTextUptoCardSaid : Prop := Claim7.holds Tryd.pinned (.plain (OpenSpec.upto fnExactTimeTextSpec)) fnExactTimeTextUptoCard

/-- THE SECOND FORM's CARD OF 'laws.FnExactTimeGet'. -/
def fnExactTimeGetUptoCard : Claim7 := { stood := { row := fnExactTimeGetUptoRow, standIns := [], harness := (true, "603cee00c4b98f7639cc5804560e3964385d8f2641863c66f23fa11802ae01fa"), looks := false }, kinds := [], alts := [], laidByText := true, laidKinds := [.data], laidTests := true, laidLooks := .later }
def FnExactTimeGetUptoCardSaid : Prop := Claim7.holds Tryd.pinned (.plain (OpenSpec.upto fnExactTimeGetSpec)) fnExactTimeGetUptoCard
end Rows
end Go.Proofs.YtbbbmdidmnhpmaaDoor
