/-
  DERIVED. GIVEN WITH THE SEED: THE CARDS: each row of YtlnhagkipmcioaaDoorRows.lean that lists a variable, with what it lists TIED to the program's text (the seventh form; the later family's looks); each row that meets fmt, with fmt's text TOLD by the authors' own Lean function (tested against real Go, not proved from fmt's source: count such statements apart). THE CARD IS WHAT COUNTS. Prove the row's statement (the work); the ties are given (YtlnhagkipmcioaaDoorTie.lean); close each card by the builder's one call (the guide's Derived/Test/ToyasCard.lean, 'card_holds'). Laid BY PROGRAM, IN A SANDBOX (cutbox-door.mjs). By AI agents, Wed Nov 11 2026. No macro, syntax, notation, axiom, sorry.
-/
import Derived.Test.YtlnhagkipmcioaaDoorRows
import GoSem.ClaimSeven
namespace Go.Proofs.YtlnhagkipmcioaaDoor
namespace Rows

/-- THE TIED CARD OF 'laws.FnExactRuleOn'. -/
def fnExactRuleOnCard : Claim7 := { stood := { row := fnExactRuleOnRow, standIns := [], harness := (true, "a13b1c71245c264b2f8f01fb73fb96cdaafe7c2321c66043a58711237ee2274d"), looks := false }, kinds := [], alts := [], laidByText := true, laidKinds := [.data], laidTests := true, laidLooks := .later }
def FnExactRuleOnCardSaid : Prop := Claim7.holds Tryd.pinned (.plain (OpenSpec.ofChange fnExactRuleOnSpec)) fnExactRuleOnCard

/-- THE SECOND FORM's CARD OF 'laws.FnExactRuleOn'. -/
def fnExactRuleOnUptoCard : Claim7 := { stood := { row := fnExactRuleOnUptoRow, standIns := [], harness := (true, "a13b1c71245c264b2f8f01fb73fb96cdaafe7c2321c66043a58711237ee2274d"), looks := false }, kinds := [], alts := [], laidByText := true, laidKinds := [.data], laidTests := true, laidLooks := .later }
def FnExactRuleOnUptoCardSaid : Prop := Claim7.holds Tryd.pinned (.plain (OpenSpec.upto fnExactRuleOnSpec)) fnExactRuleOnUptoCard
end Rows
end Go.Proofs.YtlnhagkipmcioaaDoor
