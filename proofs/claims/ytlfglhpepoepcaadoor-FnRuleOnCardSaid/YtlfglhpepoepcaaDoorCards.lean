/-
  DERIVED. GIVEN WITH THE SEED: THE CARDS: each row of YtlfglhpepoepcaaDoorRows.lean that lists a variable, with what it lists TIED to the program's text (the seventh form; the later family's looks); each row that meets fmt, with fmt's text TOLD by the authors' own Lean function (tested against real Go, not proved from fmt's source: count such statements apart). THE CARD IS WHAT COUNTS. Prove the row's statement (the work); the ties are given (YtlfglhpepoepcaaDoorTie.lean); close each card by the builder's one call (the guide's Derived/Test/ToyasCard.lean, 'card_holds'). Laid BY PROGRAM, IN A SANDBOX (cutbox-door.mjs). By AI agents, Wed Nov 11 2026. No macro, syntax, notation, axiom, sorry.
-/
import Derived.Test.YtlfglhpepoepcaaDoorRows
import GoSem.ClaimSeven
namespace Go.Proofs.YtlfglhpepoepcaaDoor
namespace Rows

/-- THE TIED CARD OF 'laws.FnRuleDays'. -/
def fnRuleDaysCard : Claim7 := { stood := { row := fnRuleDaysRow, standIns := [], harness := (true, "1d9aecf60d71ea5692d86b487fcb9c4f0a258d160125edd065cd3d3425103c5f"), looks := false }, kinds := [], alts := [], laidByText := true, laidKinds := [.data], laidTests := true, laidLooks := .later }
def FnRuleDaysCardSaid : Prop := Claim7.holds Tryd.pinned (.plain (OpenSpec.ofChange fnRuleDaysSpec)) fnRuleDaysCard

/-- THE TIED CARD OF 'laws.FnRuleOn'. -/
def fnRuleOnCard : Claim7 := { stood := { row := fnRuleOnRow, standIns := [], harness := (true, "1d9aecf60d71ea5692d86b487fcb9c4f0a258d160125edd065cd3d3425103c5f"), looks := false }, kinds := [], alts := [], laidByText := true, laidKinds := [.data], laidTests := true, laidLooks := .later }
def FnRuleOnCardSaid : Prop := Claim7.holds Tryd.pinned (.plain (OpenSpec.ofChange fnRuleOnSpec)) fnRuleOnCard

/-- THE TIED CARD OF 'laws.FnRuleEvery'. -/
def fnRuleEveryCard : Claim7 := { stood := { row := fnRuleEveryRow, standIns := [], harness := (true, "1d9aecf60d71ea5692d86b487fcb9c4f0a258d160125edd065cd3d3425103c5f"), looks := false }, kinds := [], alts := [], laidByText := true, laidKinds := [.data], laidTests := true, laidLooks := .later }
def FnRuleEveryCardSaid : Prop := Claim7.holds Tryd.pinned (.plain (OpenSpec.ofChange fnRuleEverySpec)) fnRuleEveryCard

/-- THE TIED CARD OF 'laws.FnRuleMonth'. -/
def fnRuleMonthCard : Claim7 := { stood := { row := fnRuleMonthRow, standIns := [], harness := (true, "1d9aecf60d71ea5692d86b487fcb9c4f0a258d160125edd065cd3d3425103c5f"), looks := false }, kinds := [], alts := [], laidByText := true, laidKinds := [.data], laidTests := true, laidLooks := .later }
def FnRuleMonthCardSaid : Prop := Claim7.holds Tryd.pinned (.plain (OpenSpec.ofChange fnRuleMonthSpec)) fnRuleMonthCard

/-- THE TIED CARD OF 'laws.FnRulePlaces'. -/
def fnRulePlacesCard : Claim7 := { stood := { row := fnRulePlacesRow, standIns := [], harness := (true, "1d9aecf60d71ea5692d86b487fcb9c4f0a258d160125edd065cd3d3425103c5f"), looks := false }, kinds := [], alts := [], laidByText := true, laidKinds := [.data], laidTests := true, laidLooks := .later }
def FnRulePlacesCardSaid : Prop := Claim7.holds Tryd.pinned (.plain (OpenSpec.ofChange fnRulePlacesSpec)) fnRulePlacesCard

/-- THE TIED CARD OF 'laws.FnRuleNext'. -/
def fnRuleNextCard : Claim7 := { stood := { row := fnRuleNextRow, standIns := [], harness := (true, "1d9aecf60d71ea5692d86b487fcb9c4f0a258d160125edd065cd3d3425103c5f"), looks := false }, kinds := [], alts := [], laidByText := true, laidKinds := [.data], laidTests := true, laidLooks := .later }
def FnRuleNextCardSaid : Prop := Claim7.holds Tryd.pinned (.plain (OpenSpec.ofChange fnRuleNextSpec)) fnRuleNextCard

/-- THE TIED CARD OF 'laws.FnRuleCount'. -/
def fnRuleCountCard : Claim7 := { stood := { row := fnRuleCountRow, standIns := [], harness := (true, "1d9aecf60d71ea5692d86b487fcb9c4f0a258d160125edd065cd3d3425103c5f"), looks := false }, kinds := [], alts := [], laidByText := true, laidKinds := [.data], laidTests := true, laidLooks := .later }
def FnRuleCountCardSaid : Prop := Claim7.holds Tryd.pinned (.plain (OpenSpec.ofChange fnRuleCountSpec)) fnRuleCountCard

/-- THE TIED CARD OF 'laws.FnRuleUntil'. -/
def fnRuleUntilCard : Claim7 := { stood := { row := fnRuleUntilRow, standIns := [], harness := (true, "1d9aecf60d71ea5692d86b487fcb9c4f0a258d160125edd065cd3d3425103c5f"), looks := false }, kinds := [], alts := [], laidByText := true, laidKinds := [.data], laidTests := true, laidLooks := .later }
def FnRuleUntilCardSaid : Prop := Claim7.holds Tryd.pinned (.plain (OpenSpec.ofChange fnRuleUntilSpec)) fnRuleUntilCard

/-- THE TIED CARD OF 'laws.FnRuleTail'. -/
def fnRuleTailCard : Claim7 := { stood := { row := fnRuleTailRow, standIns := [], harness := (true, "1d9aecf60d71ea5692d86b487fcb9c4f0a258d160125edd065cd3d3425103c5f"), looks := false }, kinds := [], alts := [], laidByText := true, laidKinds := [.data], laidTests := true, laidLooks := .later }
def FnRuleTailCardSaid : Prop := Claim7.holds Tryd.pinned (.plain (OpenSpec.ofChange fnRuleTailSpec)) fnRuleTailCard

/-- THE TIED CARD OF 'laws.FnRuleWeek'. -/
def fnRuleWeekCard : Claim7 := { stood := { row := fnRuleWeekRow, standIns := [], harness := (true, "1d9aecf60d71ea5692d86b487fcb9c4f0a258d160125edd065cd3d3425103c5f"), looks := false }, kinds := [], alts := [], laidByText := true, laidKinds := [.data], laidTests := true, laidLooks := .later }
def FnRuleWeekCardSaid : Prop := Claim7.holds Tryd.pinned (.plain (OpenSpec.ofChange fnRuleWeekSpec)) fnRuleWeekCard

/-- THE TIED CARD OF 'laws.FnRuleUnion'. -/
def fnRuleUnionCard : Claim7 := { stood := { row := fnRuleUnionRow, standIns := [], harness := (true, "1d9aecf60d71ea5692d86b487fcb9c4f0a258d160125edd065cd3d3425103c5f"), looks := false }, kinds := [], alts := [], laidByText := true, laidKinds := [.data], laidTests := true, laidLooks := .later }
def FnRuleUnionCardSaid : Prop := Claim7.holds Tryd.pinned (.plain (OpenSpec.ofChange fnRuleUnionSpec)) fnRuleUnionCard

/-- THE TIED CARD OF 'laws.FnRuleMonths'. -/
def fnRuleMonthsCard : Claim7 := { stood := { row := fnRuleMonthsRow, standIns := [], harness := (true, "1d9aecf60d71ea5692d86b487fcb9c4f0a258d160125edd065cd3d3425103c5f"), looks := false }, kinds := [], alts := [], laidByText := true, laidKinds := [.data], laidTests := true, laidLooks := .later }
def FnRuleMonthsCardSaid : Prop := Claim7.holds Tryd.pinned (.plain (OpenSpec.ofChange fnRuleMonthsSpec)) fnRuleMonthsCard

/-- THE TIED CARD OF 'laws.FnRuleLast'. -/
def fnRuleLastCard : Claim7 := { stood := { row := fnRuleLastRow, standIns := [], harness := (true, "1d9aecf60d71ea5692d86b487fcb9c4f0a258d160125edd065cd3d3425103c5f"), looks := false }, kinds := [], alts := [], laidByText := true, laidKinds := [.data], laidTests := true, laidLooks := .later }
def FnRuleLastCardSaid : Prop := Claim7.holds Tryd.pinned (.plain (OpenSpec.ofChange fnRuleLastSpec)) fnRuleLastCard

/-- THE TIED CARD OF 'laws.FnRuleNth'. -/
def fnRuleNthCard : Claim7 := { stood := { row := fnRuleNthRow, standIns := [], harness := (true, "1d9aecf60d71ea5692d86b487fcb9c4f0a258d160125edd065cd3d3425103c5f"), looks := false }, kinds := [], alts := [], laidByText := true, laidKinds := [.data], laidTests := true, laidLooks := .later }
def FnRuleNthCardSaid : Prop := Claim7.holds Tryd.pinned (.plain (OpenSpec.ofChange fnRuleNthSpec)) fnRuleNthCard

/-- THE SECOND FORM's CARD OF 'laws.FnRuleDays'. -/
def fnRuleDaysUptoCard : Claim7 := { stood := { row := fnRuleDaysUptoRow, standIns := [], harness := (true, "1d9aecf60d71ea5692d86b487fcb9c4f0a258d160125edd065cd3d3425103c5f"), looks := false }, kinds := [], alts := [], laidByText := true, laidKinds := [.data], laidTests := true, laidLooks := .later }
def FnRuleDaysUptoCardSaid : Prop := Claim7.holds Tryd.pinned (.plain (OpenSpec.upto fnRuleDaysSpec)) fnRuleDaysUptoCard

/-- THE SECOND FORM's CARD OF 'laws.FnRuleOn'. -/
def fnRuleOnUptoCard : Claim7 := { stood := { row := fnRuleOnUptoRow, standIns := [], harness := (true, "1d9aecf60d71ea5692d86b487fcb9c4f0a258d160125edd065cd3d3425103c5f"), looks := false }, kinds := [], alts := [], laidByText := true, laidKinds := [.data], laidTests := true, laidLooks := .later }
def FnRuleOnUptoCardSaid : Prop := Claim7.holds Tryd.pinned (.plain (OpenSpec.upto fnRuleOnSpec)) fnRuleOnUptoCard

/-- THE SECOND FORM's CARD OF 'laws.FnRuleEvery'. -/
def fnRuleEveryUptoCard : Claim7 := { stood := { row := fnRuleEveryUptoRow, standIns := [], harness := (true, "1d9aecf60d71ea5692d86b487fcb9c4f0a258d160125edd065cd3d3425103c5f"), looks := false }, kinds := [], alts := [], laidByText := true, laidKinds := [.data], laidTests := true, laidLooks := .later }
def FnRuleEveryUptoCardSaid : Prop := Claim7.holds Tryd.pinned (.plain (OpenSpec.upto fnRuleEverySpec)) fnRuleEveryUptoCard

/-- THE SECOND FORM's CARD OF 'laws.FnRuleMonth'. -/
def fnRuleMonthUptoCard : Claim7 := { stood := { row := fnRuleMonthUptoRow, standIns := [], harness := (true, "1d9aecf60d71ea5692d86b487fcb9c4f0a258d160125edd065cd3d3425103c5f"), looks := false }, kinds := [], alts := [], laidByText := true, laidKinds := [.data], laidTests := true, laidLooks := .later }
def FnRuleMonthUptoCardSaid : Prop := Claim7.holds Tryd.pinned (.plain (OpenSpec.upto fnRuleMonthSpec)) fnRuleMonthUptoCard

/-- THE SECOND FORM's CARD OF 'laws.FnRulePlaces'. -/
def fnRulePlacesUptoCard : Claim7 := { stood := { row := fnRulePlacesUptoRow, standIns := [], harness := (true, "1d9aecf60d71ea5692d86b487fcb9c4f0a258d160125edd065cd3d3425103c5f"), looks := false }, kinds := [], alts := [], laidByText := true, laidKinds := [.data], laidTests := true, laidLooks := .later }
def FnRulePlacesUptoCardSaid : Prop := Claim7.holds Tryd.pinned (.plain (OpenSpec.upto fnRulePlacesSpec)) fnRulePlacesUptoCard

/-- THE SECOND FORM's CARD OF 'laws.FnRuleNext'. -/
def fnRuleNextUptoCard : Claim7 := { stood := { row := fnRuleNextUptoRow, standIns := [], harness := (true, "1d9aecf60d71ea5692d86b487fcb9c4f0a258d160125edd065cd3d3425103c5f"), looks := false }, kinds := [], alts := [], laidByText := true, laidKinds := [.data], laidTests := true, laidLooks := .later }
def FnRuleNextUptoCardSaid : Prop := Claim7.holds Tryd.pinned (.plain (OpenSpec.upto fnRuleNextSpec)) fnRuleNextUptoCard

/-- THE SECOND FORM's CARD OF 'laws.FnRuleCount'. -/
def fnRuleCountUptoCard : Claim7 := { stood := { row := fnRuleCountUptoRow, standIns := [], harness := (true, "1d9aecf60d71ea5692d86b487fcb9c4f0a258d160125edd065cd3d3425103c5f"), looks := false }, kinds := [], alts := [], laidByText := true, laidKinds := [.data], laidTests := true, laidLooks := .later }
def FnRuleCountUptoCardSaid : Prop := Claim7.holds Tryd.pinned (.plain (OpenSpec.upto fnRuleCountSpec)) fnRuleCountUptoCard

/-- THE SECOND FORM's CARD OF 'laws.FnRuleUntil'. -/
def fnRuleUntilUptoCard : Claim7 := { stood := { row := fnRuleUntilUptoRow, standIns := [], harness := (true, "1d9aecf60d71ea5692d86b487fcb9c4f0a258d160125edd065cd3d3425103c5f"), looks := false }, kinds := [], alts := [], laidByText := true, laidKinds := [.data], laidTests := true, laidLooks := .later }
def FnRuleUntilUptoCardSaid : Prop := Claim7.holds Tryd.pinned (.plain (OpenSpec.upto fnRuleUntilSpec)) fnRuleUntilUptoCard

/-- THE SECOND FORM's CARD OF 'laws.FnRuleTail'. -/
def fnRuleTailUptoCard : Claim7 := { stood := { row := fnRuleTailUptoRow, standIns := [], harness := (true, "1d9aecf60d71ea5692d86b487fcb9c4f0a258d160125edd065cd3d3425103c5f"), looks := false }, kinds := [], alts := [], laidByText := true, laidKinds := [.data], laidTests := true, laidLooks := .later }
def FnRuleTailUptoCardSaid : Prop := Claim7.holds Tryd.pinned (.plain (OpenSpec.upto fnRuleTailSpec)) fnRuleTailUptoCard

/-- THE SECOND FORM's CARD OF 'laws.FnRuleWeek'. -/
def fnRuleWeekUptoCard : Claim7 := { stood := { row := fnRuleWeekUptoRow, standIns := [], harness := (true, "1d9aecf60d71ea5692d86b487fcb9c4f0a258d160125edd065cd3d3425103c5f"), looks := false }, kinds := [], alts := [], laidByText := true, laidKinds := [.data], laidTests := true, laidLooks := .later }
def FnRuleWeekUptoCardSaid : Prop := Claim7.holds Tryd.pinned (.plain (OpenSpec.upto fnRuleWeekSpec)) fnRuleWeekUptoCard

/-- THE SECOND FORM's CARD OF 'laws.FnRuleUnion'. -/
def fnRuleUnionUptoCard : Claim7 := { stood := { row := fnRuleUnionUptoRow, standIns := [], harness := (true, "1d9aecf60d71ea5692d86b487fcb9c4f0a258d160125edd065cd3d3425103c5f"), looks := false }, kinds := [], alts := [], laidByText := true, laidKinds := [.data], laidTests := true, laidLooks := .later }
def FnRuleUnionUptoCardSaid : Prop := Claim7.holds Tryd.pinned (.plain (OpenSpec.upto fnRuleUnionSpec)) fnRuleUnionUptoCard

/-- THE SECOND FORM's CARD OF 'laws.FnRuleMonths'. -/
def fnRuleMonthsUptoCard : Claim7 := { stood := { row := fnRuleMonthsUptoRow, standIns := [], harness := (true, "1d9aecf60d71ea5692d86b487fcb9c4f0a258d160125edd065cd3d3425103c5f"), looks := false }, kinds := [], alts := [], laidByText := true, laidKinds := [.data], laidTests := true, laidLooks := .later }
def FnRuleMonthsUptoCardSaid : Prop := Claim7.holds Tryd.pinned (.plain (OpenSpec.upto fnRuleMonthsSpec)) fnRuleMonthsUptoCard

/-- THE SECOND FORM's CARD OF 'laws.FnRuleLast'. -/
def fnRuleLastUptoCard : Claim7 := { stood := { row := fnRuleLastUptoRow, standIns := [], harness := (true, "1d9aecf60d71ea5692d86b487fcb9c4f0a258d160125edd065cd3d3425103c5f"), looks := false }, kinds := [], alts := [], laidByText := true, laidKinds := [.data], laidTests := true, laidLooks := .later }
def FnRuleLastUptoCardSaid : Prop := Claim7.holds Tryd.pinned (.plain (OpenSpec.upto fnRuleLastSpec)) fnRuleLastUptoCard

/-- THE SECOND FORM's CARD OF 'laws.FnRuleNth'. -/
def fnRuleNthUptoCard : Claim7 := { stood := { row := fnRuleNthUptoRow, standIns := [], harness := (true, "1d9aecf60d71ea5692d86b487fcb9c4f0a258d160125edd065cd3d3425103c5f"), looks := false }, kinds := [], alts := [], laidByText := true, laidKinds := [.data], laidTests := true, laidLooks := .later }
def FnRuleNthUptoCardSaid : Prop := Claim7.holds Tryd.pinned (.plain (OpenSpec.upto fnRuleNthSpec)) fnRuleNthUptoCard
end Rows
end Go.Proofs.YtlfglhpepoepcaaDoor
