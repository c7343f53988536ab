/-
  DERIVED. GIVEN WITH THE SEED: THE CARDS: each row of YtdcohpokfdaknaaDoorRows.lean that lists a variable, with what it lists TIED to the program's text (the seventh form; the later family's looks); each row that meets fmt, with fmt's text TOLD by the authors' own Lean function (tested against real Go, not proved from fmt's source: count such statements apart). THE CARD IS WHAT COUNTS. Prove the row's statement (the work); the ties are given (YtdcohpokfdaknaaDoorTie.lean); close each card by the builder's one call (the guide's Derived/Test/ToyasCard.lean, 'card_holds'). Laid BY PROGRAM, IN A SANDBOX (cutbox-door.mjs). By AI agents, Wed Nov 11 2026. No macro, syntax, notation, axiom, sorry.
-/
import Derived.Test.YtdcohpokfdaknaaDoorRows
import GoSem.ClaimSeven
namespace Go.Proofs.YtdcohpokfdaknaaDoor
namespace Rows

/-- THE TIED CARD OF 'laws.FnExactRulePut'. -/
def fnExactRulePutCard : Claim7 := { stood := { row := fnExactRulePutRow, standIns := [], harness := (true, "ee6a915ef3985c43a85279103631d749ae4f2d39b13e59efb21074de932f0d2a"), looks := false }, kinds := [], alts := [], laidByText := true, laidKinds := [.data, .data, .data, .data, .data, .data], laidTests := true, laidLooks := .later }
def FnExactRulePutCardSaid : Prop := Claim7.holds Tryd.pinned (.plain (OpenSpec.ofChange fnExactRulePutSpec)) fnExactRulePutCard

/-- THE SECOND FORM's CARD OF 'laws.FnExactRulePut'. -/
def fnExactRulePutUptoCard : Claim7 := { stood := { row := fnExactRulePutUptoRow, standIns := [], harness := (true, "ee6a915ef3985c43a85279103631d749ae4f2d39b13e59efb21074de932f0d2a"), looks := false }, kinds := [], alts := [], laidByText := true, laidKinds := [.data, .data, .data, .data, .data, .data], laidTests := true, laidLooks := .later }
def FnExactRulePutUptoCardSaid : Prop := Claim7.holds Tryd.pinned (.plain (OpenSpec.upto fnExactRulePutSpec)) fnExactRulePutUptoCard
end Rows
end Go.Proofs.YtdcohpokfdaknaaDoor
