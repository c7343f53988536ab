/-
  DERIVED. GIVEN WITH THE SEED: THE CARDS: each row of YtjncaeealmmhmaaDoorRows.lean that lists a variable, with what it lists TIED to the program's text (the seventh form; the later family's looks); each row that meets fmt, with fmt's text TOLD by the authors' own Lean function (tested against real Go, not proved from fmt's source: count such statements apart). THE CARD IS WHAT COUNTS. Prove the row's statement (the work); the ties are given (YtjncaeealmmhmaaDoorTie.lean); close each card by the builder's one call (the guide's Derived/Test/ToyasCard.lean, 'card_holds'). Laid BY PROGRAM, IN A SANDBOX (cutbox-door.mjs). By AI agents, Wed Nov 11 2026. No macro, syntax, notation, axiom, sorry.
-/
import Derived.Test.YtjncaeealmmhmaaDoorRows
import GoSem.ClaimSeven
namespace Go.Proofs.YtjncaeealmmhmaaDoor
namespace Rows

/-- THE TIED CARD OF 'laws.FnExactRuleDays'. -/
def fnExactRuleDaysCard : Claim7 := { stood := { row := fnExactRuleDaysRow, standIns := [], harness := (true, "b8f8581512d384150cf5c4ec49bfc68a2747c2cf3f0703d8ab2d9996b76ad32e"), looks := false }, kinds := [], alts := [], laidByText := true, laidKinds := [.data], laidTests := true, laidLooks := .later }
def FnExactRuleDaysCardSaid : Prop := Claim7.holds Tryd.pinned (.plain (OpenSpec.ofChange fnExactRuleDaysSpec)) fnExactRuleDaysCard

/-- THE TIED CARD OF 'laws.FnExactRuleNext'. -/
def fnExactRuleNextCard : Claim7 := { stood := { row := fnExactRuleNextRow, standIns := [], harness := (true, "b8f8581512d384150cf5c4ec49bfc68a2747c2cf3f0703d8ab2d9996b76ad32e"), looks := false }, kinds := [], alts := [], laidByText := true, laidKinds := [.data], laidTests := true, laidLooks := .later }
def FnExactRuleNextCardSaid : Prop := Claim7.holds Tryd.pinned (.plain (OpenSpec.ofChange fnExactRuleNextSpec)) fnExactRuleNextCard

/-- THE TIED CARD OF 'laws.FnExactEventComes'. -/
def fnExactEventComesCard : Claim7 := { stood := { row := fnExactEventComesRow, standIns := [], harness := (true, "b8f8581512d384150cf5c4ec49bfc68a2747c2cf3f0703d8ab2d9996b76ad32e"), looks := false }, kinds := [], alts := [], laidByText := true, laidKinds := [.data], laidTests := true, laidLooks := .later }
def FnExactEventComesCardSaid : Prop := Claim7.holds Tryd.pinned (.plain (OpenSpec.ofChange fnExactEventComesSpec)) fnExactEventComesCard

/-- THE SECOND FORM's CARD OF 'laws.FnExactRuleDays'. -/
def fnExactRuleDaysUptoCard : Claim7 := { stood := { row := fnExactRuleDaysUptoRow, standIns := [], harness := (true, "b8f8581512d384150cf5c4ec49bfc68a2747c2cf3f0703d8ab2d9996b76ad32e"), looks := false }, kinds := [], alts := [], laidByText := true, laidKinds := [.data], laidTests := true, laidLooks := .later }
def FnExactRuleDaysUptoCardSaid : Prop := Claim7.holds Tryd.pinned (.plain (OpenSpec.upto fnExactRuleDaysSpec)) fnExactRuleDaysUptoCard

/-- THE SECOND FORM's CARD OF 'laws.FnExactRuleNext'. -/
def fnExactRuleNextUptoCard : Claim7 := { stood := { row := fnExactRuleNextUptoRow, standIns := [], harness := (true, "b8f8581512d384150cf5c4ec49bfc68a2747c2cf3f0703d8ab2d9996b76ad32e"), looks := false }, kinds := [], alts := [], laidByText := true, laidKinds := [.data], laidTests := true, laidLooks := .later }
def FnExactRuleNextUptoCardSaid : Prop := Claim7.holds Tryd.pinned (.plain (OpenSpec.upto fnExactRuleNextSpec)) fnExactRuleNextUptoCard

/-- THE SECOND FORM's CARD OF 'laws.FnExactEventComes'. -/
def fnExactEventComesUptoCard : Claim7 := { stood := { row := fnExactEventComesUptoRow, standIns := [], harness := (true, "b8f8581512d384150cf5c4ec49bfc68a2747c2cf3f0703d8ab2d9996b76ad32e"), looks := false }, kinds := [], alts := [], laidByText := true, laidKinds := [.data], laidTests := true, laidLooks := .later }
def FnExactEventComesUptoCardSaid : Prop := Claim7.holds Tryd.pinned (.plain (OpenSpec.upto fnExactEventComesSpec)) fnExactEventComesUptoCard
end Rows
end Go.Proofs.YtjncaeealmmhmaaDoor
