/-
  NARROWER THAN 'FOR EVERY INPUT', by the rows' own cells (each row's printed sentence says how): FnRuleDays: laid · FnRuleOn: laid · FnRuleEvery: laid · FnRuleMonth: laid · FnRulePlaces: laid · FnRuleNext: laid · FnRuleCount: laid · FnRuleUntil: laid · FnRuleTail: laid · FnRuleWeek: laid · FnRuleUnion: laid · FnRuleMonths: laid · FnRuleLast: laid · FnRuleNth: laid.
  DERIVED. THE GIVEN ROWS OF THIS SEAT. 14 by the template 'for every input the law returns true; each argument reads behind the call as it read before'; 0 by the template 'total and deterministic' (their statements: YtlfglhpepoepcaaDoorTotals.lean).
  GIVEN WITH THE SEED: the statements are not yours to turn. If you find one false, say at which input.
  Laid BY PROGRAM, IN A SANDBOX (cutbox-rows.mjs): the forced cells as the released guide's own fill.sh prints them over the translation 1b245c0e24739e4c… (all of the seat's roots in one cut). By AI agents, Wed Nov 11 2026. No macro, syntax, notation, axiom, sorry.
-/
import Derived.Test.YtlfglhpepoepcaaDoorChecked
import GoSem.Claim
import GoSem.ClaimJoined
import GoSem.ClaimMapViews
import Derived.JoinedTies
import Derived.KernelRfl
namespace Go.Proofs.YtlfglhpepoepcaaDoor
/- THE CELL 'sum', in the pinned program and in every row, IS THE sha256 OF THE DUMP (.gsa) THAT YtlfglhpepoepcaaDoorProg.lean LOADS. Nothing in Lean hashes anything: it is a label: what it is worth is what the hold of that sum in a sandbox is worth. -/
noncomputable def Tryd.pinned : Pinned := { name := "ytlfglhpepoepcaadoor", sum := "1b245c0e24739e4cdc8f9b2a04f06cf96c063ae45f45f8aa2b018258284af3e2", checked := Tryd.checked }
namespace Rows
def none {H : Type} : Left H := { results := [], args := [] }

/- WHAT THE LISTED PACKAGE-LEVEL VARIABLES READ AS WHEN THE CALL BEGINS. Each datum BY PROGRAM (the guide's laid-datum.mjs) off the statement by which the dump's own 'gosem.cut.vars' lays the variable. In a bare row this is a premise. The card (YtlfglhpepoepcaaDoorCards.lean) ties it to the program's text. -/
def laid_loop_example_ephemeris_impl_monthSizes {H : Type} : DataW H := .agg [.lit (.int .i64 31), .lit (.int .i64 28), .lit (.int .i64 31), .lit (.int .i64 30), .lit (.int .i64 31), .lit (.int .i64 30), .lit (.int .i64 31), .lit (.int .i64 31), .lit (.int .i64 30), .lit (.int .i64 31), .lit (.int .i64 30), .lit (.int .i64 31)]

/-- 'laws.FnRuleDays': WHATEVER THE INPUT: true; the input reads as it did. -/
def fnRuleDaysSpec : ChangeSpec := { name := "fnRuleDays", vars := ["loop.example/ephemeris/impl.monthSizes"], fn := fun _ => fun
  | [d1, d2, g1] => { results := [.lit (.bool true)], args := [d1, d2], vars := [g1] }
  | _ => none }
def fnRuleDaysRow : OpenClaim := { program := "ytlfglhpepoepcaadoor", sum := "1b245c0e24739e4cdc8f9b2a04f06cf96c063ae45f45f8aa2b018258284af3e2", func := "loop.example/ephemeris/laws.FnRuleDays", spec := "fnRuleDays", unfollowed := true, recurses := true, named := ["loop.example/ephemeris/impl.monthSizes"], apart := false, laid := [("loop.example/ephemeris/impl.monthSizes", laid_loop_example_ephemeris_impl_monthSizes)] }
def FnRuleDaysSaid : Prop := fnRuleDaysRow.holds Tryd.pinned (OpenSpec.ofChange fnRuleDaysSpec)

/-- ITS FALSE NEIGHBOUR: 'it returns false'. Refute it at one input. -/
def fnRuleDaysWrong : ChangeSpec := { name := "fnRuleDays", vars := ["loop.example/ephemeris/impl.monthSizes"], fn := fun _ => fun
  | [d1, d2, g1] => { results := [.lit (.bool false)], args := [d1, d2], vars := [g1] }
  | _ => none }
def FnRuleDaysWrongFalsely : Prop := fnRuleDaysRow.holds Tryd.pinned (OpenSpec.ofChange fnRuleDaysWrong)

/-- 'laws.FnRuleOn': WHATEVER THE INPUT: true; the input reads as it did. -/
def fnRuleOnSpec : ChangeSpec := { name := "fnRuleOn", vars := ["loop.example/ephemeris/impl.monthSizes"], fn := fun _ => fun
  | [d, g1] => { results := [.lit (.bool true)], args := [d], vars := [g1] }
  | _ => none }
def fnRuleOnRow : OpenClaim := { program := "ytlfglhpepoepcaadoor", sum := "1b245c0e24739e4cdc8f9b2a04f06cf96c063ae45f45f8aa2b018258284af3e2", func := "loop.example/ephemeris/laws.FnRuleOn", spec := "fnRuleOn", unfollowed := true, recurses := true, named := ["loop.example/ephemeris/impl.monthSizes"], apart := false, laid := [("loop.example/ephemeris/impl.monthSizes", laid_loop_example_ephemeris_impl_monthSizes)] }
def FnRuleOnSaid : Prop := fnRuleOnRow.holds Tryd.pinned (OpenSpec.ofChange fnRuleOnSpec)

/-- ITS FALSE NEIGHBOUR: 'it returns false'. Refute it at one input. -/
def fnRuleOnWrong : ChangeSpec := { name := "fnRuleOn", vars := ["loop.example/ephemeris/impl.monthSizes"], fn := fun _ => fun
  | [d, g1] => { results := [.lit (.bool false)], args := [d], vars := [g1] }
  | _ => none }
def FnRuleOnWrongFalsely : Prop := fnRuleOnRow.holds Tryd.pinned (OpenSpec.ofChange fnRuleOnWrong)

/-- 'laws.FnRuleEvery': WHATEVER THE INPUT: true; the input reads as it did. -/
def fnRuleEverySpec : ChangeSpec := { name := "fnRuleEvery", vars := ["loop.example/ephemeris/impl.monthSizes"], fn := fun _ => fun
  | [d, g1] => { results := [.lit (.bool true)], args := [d], vars := [g1] }
  | _ => none }
def fnRuleEveryRow : OpenClaim := { program := "ytlfglhpepoepcaadoor", sum := "1b245c0e24739e4cdc8f9b2a04f06cf96c063ae45f45f8aa2b018258284af3e2", func := "loop.example/ephemeris/laws.FnRuleEvery", spec := "fnRuleEvery", unfollowed := true, recurses := true, named := ["loop.example/ephemeris/impl.monthSizes"], apart := false, laid := [("loop.example/ephemeris/impl.monthSizes", laid_loop_example_ephemeris_impl_monthSizes)] }
def FnRuleEverySaid : Prop := fnRuleEveryRow.holds Tryd.pinned (OpenSpec.ofChange fnRuleEverySpec)

/-- ITS FALSE NEIGHBOUR: 'it returns false'. Refute it at one input. -/
def fnRuleEveryWrong : ChangeSpec := { name := "fnRuleEvery", vars := ["loop.example/ephemeris/impl.monthSizes"], fn := fun _ => fun
  | [d, g1] => { results := [.lit (.bool false)], args := [d], vars := [g1] }
  | _ => none }
def FnRuleEveryWrongFalsely : Prop := fnRuleEveryRow.holds Tryd.pinned (OpenSpec.ofChange fnRuleEveryWrong)

/-- 'laws.FnRuleMonth': WHATEVER THE INPUT: true; the input reads as it did. -/
def fnRuleMonthSpec : ChangeSpec := { name := "fnRuleMonth", vars := ["loop.example/ephemeris/impl.monthSizes"], fn := fun _ => fun
  | [d, g1] => { results := [.lit (.bool true)], args := [d], vars := [g1] }
  | _ => none }
def fnRuleMonthRow : OpenClaim := { program := "ytlfglhpepoepcaadoor", sum := "1b245c0e24739e4cdc8f9b2a04f06cf96c063ae45f45f8aa2b018258284af3e2", func := "loop.example/ephemeris/laws.FnRuleMonth", spec := "fnRuleMonth", unfollowed := true, recurses := true, named := ["loop.example/ephemeris/impl.monthSizes"], apart := false, laid := [("loop.example/ephemeris/impl.monthSizes", laid_loop_example_ephemeris_impl_monthSizes)] }
def FnRuleMonthSaid : Prop := fnRuleMonthRow.holds Tryd.pinned (OpenSpec.ofChange fnRuleMonthSpec)

/-- ITS FALSE NEIGHBOUR: 'it returns false'. Refute it at one input. -/
def fnRuleMonthWrong : ChangeSpec := { name := "fnRuleMonth", vars := ["loop.example/ephemeris/impl.monthSizes"], fn := fun _ => fun
  | [d, g1] => { results := [.lit (.bool false)], args := [d], vars := [g1] }
  | _ => none }
def FnRuleMonthWrongFalsely : Prop := fnRuleMonthRow.holds Tryd.pinned (OpenSpec.ofChange fnRuleMonthWrong)

/-- 'laws.FnRulePlaces': WHATEVER THE INPUT: true; the input reads as it did. -/
def fnRulePlacesSpec : ChangeSpec := { name := "fnRulePlaces", vars := ["loop.example/ephemeris/impl.monthSizes"], fn := fun _ => fun
  | [d, g1] => { results := [.lit (.bool true)], args := [d], vars := [g1] }
  | _ => none }
def fnRulePlacesRow : OpenClaim := { program := "ytlfglhpepoepcaadoor", sum := "1b245c0e24739e4cdc8f9b2a04f06cf96c063ae45f45f8aa2b018258284af3e2", func := "loop.example/ephemeris/laws.FnRulePlaces", spec := "fnRulePlaces", unfollowed := true, recurses := true, named := ["loop.example/ephemeris/impl.monthSizes"], apart := false, laid := [("loop.example/ephemeris/impl.monthSizes", laid_loop_example_ephemeris_impl_monthSizes)] }
def FnRulePlacesSaid : Prop := fnRulePlacesRow.holds Tryd.pinned (OpenSpec.ofChange fnRulePlacesSpec)

/-- ITS FALSE NEIGHBOUR: 'it returns false'. Refute it at one input. -/
def fnRulePlacesWrong : ChangeSpec := { name := "fnRulePlaces", vars := ["loop.example/ephemeris/impl.monthSizes"], fn := fun _ => fun
  | [d, g1] => { results := [.lit (.bool false)], args := [d], vars := [g1] }
  | _ => none }
def FnRulePlacesWrongFalsely : Prop := fnRulePlacesRow.holds Tryd.pinned (OpenSpec.ofChange fnRulePlacesWrong)

/-- 'laws.FnRuleNext': WHATEVER THE INPUT: true; the input reads as it did. -/
def fnRuleNextSpec : ChangeSpec := { name := "fnRuleNext", vars := ["loop.example/ephemeris/impl.monthSizes"], fn := fun _ => fun
  | [d, g1] => { results := [.lit (.bool true)], args := [d], vars := [g1] }
  | _ => none }
def fnRuleNextRow : OpenClaim := { program := "ytlfglhpepoepcaadoor", sum := "1b245c0e24739e4cdc8f9b2a04f06cf96c063ae45f45f8aa2b018258284af3e2", func := "loop.example/ephemeris/laws.FnRuleNext", spec := "fnRuleNext", unfollowed := true, recurses := true, named := ["loop.example/ephemeris/impl.monthSizes"], apart := false, laid := [("loop.example/ephemeris/impl.monthSizes", laid_loop_example_ephemeris_impl_monthSizes)] }
def FnRuleNextSaid : Prop := fnRuleNextRow.holds Tryd.pinned (OpenSpec.ofChange fnRuleNextSpec)

/-- ITS FALSE NEIGHBOUR: 'it returns false'. Refute it at one input. -/
def fnRuleNextWrong : ChangeSpec := { name := "fnRuleNext", vars := ["loop.example/ephemeris/impl.monthSizes"], fn := fun _ => fun
  | [d, g1] => { results := [.lit (.bool false)], args := [d], vars := [g1] }
  | _ => none }
def FnRuleNextWrongFalsely : Prop := fnRuleNextRow.holds Tryd.pinned (OpenSpec.ofChange fnRuleNextWrong)

/-- 'laws.FnRuleCount': WHATEVER THE INPUT: true; the input reads as it did. -/
def fnRuleCountSpec : ChangeSpec := { name := "fnRuleCount", vars := ["loop.example/ephemeris/impl.monthSizes"], fn := fun _ => fun
  | [d1, d2, g1] => { results := [.lit (.bool true)], args := [d1, d2], vars := [g1] }
  | _ => none }
def fnRuleCountRow : OpenClaim := { program := "ytlfglhpepoepcaadoor", sum := "1b245c0e24739e4cdc8f9b2a04f06cf96c063ae45f45f8aa2b018258284af3e2", func := "loop.example/ephemeris/laws.FnRuleCount", spec := "fnRuleCount", unfollowed := true, recurses := true, named := ["loop.example/ephemeris/impl.monthSizes"], apart := false, laid := [("loop.example/ephemeris/impl.monthSizes", laid_loop_example_ephemeris_impl_monthSizes)] }
def FnRuleCountSaid : Prop := fnRuleCountRow.holds Tryd.pinned (OpenSpec.ofChange fnRuleCountSpec)

/-- ITS FALSE NEIGHBOUR: 'it returns false'. Refute it at one input. -/
def fnRuleCountWrong : ChangeSpec := { name := "fnRuleCount", vars := ["loop.example/ephemeris/impl.monthSizes"], fn := fun _ => fun
  | [d1, d2, g1] => { results := [.lit (.bool false)], args := [d1, d2], vars := [g1] }
  | _ => none }
def FnRuleCountWrongFalsely : Prop := fnRuleCountRow.holds Tryd.pinned (OpenSpec.ofChange fnRuleCountWrong)

/-- 'laws.FnRuleUntil': WHATEVER THE INPUT: true; the input reads as it did. -/
def fnRuleUntilSpec : ChangeSpec := { name := "fnRuleUntil", vars := ["loop.example/ephemeris/impl.monthSizes"], fn := fun _ => fun
  | [d1, d2, g1] => { results := [.lit (.bool true)], args := [d1, d2], vars := [g1] }
  | _ => none }
def fnRuleUntilRow : OpenClaim := { program := "ytlfglhpepoepcaadoor", sum := "1b245c0e24739e4cdc8f9b2a04f06cf96c063ae45f45f8aa2b018258284af3e2", func := "loop.example/ephemeris/laws.FnRuleUntil", spec := "fnRuleUntil", unfollowed := true, recurses := true, named := ["loop.example/ephemeris/impl.monthSizes"], apart := false, laid := [("loop.example/ephemeris/impl.monthSizes", laid_loop_example_ephemeris_impl_monthSizes)] }
def FnRuleUntilSaid : Prop := fnRuleUntilRow.holds Tryd.pinned (OpenSpec.ofChange fnRuleUntilSpec)

/-- ITS FALSE NEIGHBOUR: 'it returns false'. Refute it at one input. -/
def fnRuleUntilWrong : ChangeSpec := { name := "fnRuleUntil", vars := ["loop.example/ephemeris/impl.monthSizes"], fn := fun _ => fun
  | [d1, d2, g1] => { results := [.lit (.bool false)], args := [d1, d2], vars := [g1] }
  | _ => none }
def FnRuleUntilWrongFalsely : Prop := fnRuleUntilRow.holds Tryd.pinned (OpenSpec.ofChange fnRuleUntilWrong)

/-- 'laws.FnRuleTail': WHATEVER THE INPUT: true; the input reads as it did. -/
def fnRuleTailSpec : ChangeSpec := { name := "fnRuleTail", vars := ["loop.example/ephemeris/impl.monthSizes"], fn := fun _ => fun
  | [d, g1] => { results := [.lit (.bool true)], args := [d], vars := [g1] }
  | _ => none }
def fnRuleTailRow : OpenClaim := { program := "ytlfglhpepoepcaadoor", sum := "1b245c0e24739e4cdc8f9b2a04f06cf96c063ae45f45f8aa2b018258284af3e2", func := "loop.example/ephemeris/laws.FnRuleTail", spec := "fnRuleTail", unfollowed := true, recurses := true, named := ["loop.example/ephemeris/impl.monthSizes"], apart := false, laid := [("loop.example/ephemeris/impl.monthSizes", laid_loop_example_ephemeris_impl_monthSizes)] }
def FnRuleTailSaid : Prop := fnRuleTailRow.holds Tryd.pinned (OpenSpec.ofChange fnRuleTailSpec)

/-- ITS FALSE NEIGHBOUR: 'it returns false'. Refute it at one input. -/
def fnRuleTailWrong : ChangeSpec := { name := "fnRuleTail", vars := ["loop.example/ephemeris/impl.monthSizes"], fn := fun _ => fun
  | [d, g1] => { results := [.lit (.bool false)], args := [d], vars := [g1] }
  | _ => none }
def FnRuleTailWrongFalsely : Prop := fnRuleTailRow.holds Tryd.pinned (OpenSpec.ofChange fnRuleTailWrong)

/-- 'laws.FnRuleWeek': WHATEVER THE INPUT: true; the input reads as it did. -/
def fnRuleWeekSpec : ChangeSpec := { name := "fnRuleWeek", vars := ["loop.example/ephemeris/impl.monthSizes"], fn := fun _ => fun
  | [d1, d2, g1] => { results := [.lit (.bool true)], args := [d1, d2], vars := [g1] }
  | _ => none }
def fnRuleWeekRow : OpenClaim := { program := "ytlfglhpepoepcaadoor", sum := "1b245c0e24739e4cdc8f9b2a04f06cf96c063ae45f45f8aa2b018258284af3e2", func := "loop.example/ephemeris/laws.FnRuleWeek", spec := "fnRuleWeek", unfollowed := true, recurses := true, named := ["loop.example/ephemeris/impl.monthSizes"], apart := false, laid := [("loop.example/ephemeris/impl.monthSizes", laid_loop_example_ephemeris_impl_monthSizes)] }
def FnRuleWeekSaid : Prop := fnRuleWeekRow.holds Tryd.pinned (OpenSpec.ofChange fnRuleWeekSpec)

/-- ITS FALSE NEIGHBOUR: 'it returns false'. Refute it at one input. -/
def fnRuleWeekWrong : ChangeSpec := { name := "fnRuleWeek", vars := ["loop.example/ephemeris/impl.monthSizes"], fn := fun _ => fun
  | [d1, d2, g1] => { results := [.lit (.bool false)], args := [d1, d2], vars := [g1] }
  | _ => none }
def FnRuleWeekWrongFalsely : Prop := fnRuleWeekRow.holds Tryd.pinned (OpenSpec.ofChange fnRuleWeekWrong)

/-- 'laws.FnRuleUnion': WHATEVER THE INPUT: true; the input reads as it did. -/
def fnRuleUnionSpec : ChangeSpec := { name := "fnRuleUnion", vars := ["loop.example/ephemeris/impl.monthSizes"], fn := fun _ => fun
  | [d, g1] => { results := [.lit (.bool true)], args := [d], vars := [g1] }
  | _ => none }
def fnRuleUnionRow : OpenClaim := { program := "ytlfglhpepoepcaadoor", sum := "1b245c0e24739e4cdc8f9b2a04f06cf96c063ae45f45f8aa2b018258284af3e2", func := "loop.example/ephemeris/laws.FnRuleUnion", spec := "fnRuleUnion", unfollowed := true, recurses := true, named := ["loop.example/ephemeris/impl.monthSizes"], apart := false, laid := [("loop.example/ephemeris/impl.monthSizes", laid_loop_example_ephemeris_impl_monthSizes)] }
def FnRuleUnionSaid : Prop := fnRuleUnionRow.holds Tryd.pinned (OpenSpec.ofChange fnRuleUnionSpec)

/-- ITS FALSE NEIGHBOUR: 'it returns false'. Refute it at one input. -/
def fnRuleUnionWrong : ChangeSpec := { name := "fnRuleUnion", vars := ["loop.example/ephemeris/impl.monthSizes"], fn := fun _ => fun
  | [d, g1] => { results := [.lit (.bool false)], args := [d], vars := [g1] }
  | _ => none }
def FnRuleUnionWrongFalsely : Prop := fnRuleUnionRow.holds Tryd.pinned (OpenSpec.ofChange fnRuleUnionWrong)

/-- 'laws.FnRuleMonths': WHATEVER THE INPUT: true; the input reads as it did. -/
def fnRuleMonthsSpec : ChangeSpec := { name := "fnRuleMonths", vars := ["loop.example/ephemeris/impl.monthSizes"], fn := fun _ => fun
  | [d, g1] => { results := [.lit (.bool true)], args := [d], vars := [g1] }
  | _ => none }
def fnRuleMonthsRow : OpenClaim := { program := "ytlfglhpepoepcaadoor", sum := "1b245c0e24739e4cdc8f9b2a04f06cf96c063ae45f45f8aa2b018258284af3e2", func := "loop.example/ephemeris/laws.FnRuleMonths", spec := "fnRuleMonths", unfollowed := true, recurses := true, named := ["loop.example/ephemeris/impl.monthSizes"], apart := false, laid := [("loop.example/ephemeris/impl.monthSizes", laid_loop_example_ephemeris_impl_monthSizes)] }
def FnRuleMonthsSaid : Prop := fnRuleMonthsRow.holds Tryd.pinned (OpenSpec.ofChange fnRuleMonthsSpec)

/-- ITS FALSE NEIGHBOUR: 'it returns false'. Refute it at one input. -/
def fnRuleMonthsWrong : ChangeSpec := { name := "fnRuleMonths", vars := ["loop.example/ephemeris/impl.monthSizes"], fn := fun _ => fun
  | [d, g1] => { results := [.lit (.bool false)], args := [d], vars := [g1] }
  | _ => none }
def FnRuleMonthsWrongFalsely : Prop := fnRuleMonthsRow.holds Tryd.pinned (OpenSpec.ofChange fnRuleMonthsWrong)

/-- 'laws.FnRuleLast': WHATEVER THE INPUT: true; the input reads as it did. -/
def fnRuleLastSpec : ChangeSpec := { name := "fnRuleLast", vars := ["loop.example/ephemeris/impl.monthSizes"], fn := fun _ => fun
  | [d, g1] => { results := [.lit (.bool true)], args := [d], vars := [g1] }
  | _ => none }
def fnRuleLastRow : OpenClaim := { program := "ytlfglhpepoepcaadoor", sum := "1b245c0e24739e4cdc8f9b2a04f06cf96c063ae45f45f8aa2b018258284af3e2", func := "loop.example/ephemeris/laws.FnRuleLast", spec := "fnRuleLast", unfollowed := true, recurses := true, named := ["loop.example/ephemeris/impl.monthSizes"], apart := false, laid := [("loop.example/ephemeris/impl.monthSizes", laid_loop_example_ephemeris_impl_monthSizes)] }
def FnRuleLastSaid : Prop := fnRuleLastRow.holds Tryd.pinned (OpenSpec.ofChange fnRuleLastSpec)

/-- ITS FALSE NEIGHBOUR: 'it returns false'. Refute it at one input. -/
def fnRuleLastWrong : ChangeSpec := { name := "fnRuleLast", vars := ["loop.example/ephemeris/impl.monthSizes"], fn := fun _ => fun
  | [d, g1] => { results := [.lit (.bool false)], args := [d], vars := [g1] }
  | _ => none }
def FnRuleLastWrongFalsely : Prop := fnRuleLastRow.holds Tryd.pinned (OpenSpec.ofChange fnRuleLastWrong)

/-- 'laws.FnRuleNth': WHATEVER THE INPUT: true; the input reads as it did. -/
def fnRuleNthSpec : ChangeSpec := { name := "fnRuleNth", vars := ["loop.example/ephemeris/impl.monthSizes"], fn := fun _ => fun
  | [d1, d2, g1] => { results := [.lit (.bool true)], args := [d1, d2], vars := [g1] }
  | _ => none }
def fnRuleNthRow : OpenClaim := { program := "ytlfglhpepoepcaadoor", sum := "1b245c0e24739e4cdc8f9b2a04f06cf96c063ae45f45f8aa2b018258284af3e2", func := "loop.example/ephemeris/laws.FnRuleNth", spec := "fnRuleNth", unfollowed := true, recurses := true, named := ["loop.example/ephemeris/impl.monthSizes"], apart := false, laid := [("loop.example/ephemeris/impl.monthSizes", laid_loop_example_ephemeris_impl_monthSizes)] }
def FnRuleNthSaid : Prop := fnRuleNthRow.holds Tryd.pinned (OpenSpec.ofChange fnRuleNthSpec)

/-- ITS FALSE NEIGHBOUR: 'it returns false'. Refute it at one input. -/
def fnRuleNthWrong : ChangeSpec := { name := "fnRuleNth", vars := ["loop.example/ephemeris/impl.monthSizes"], fn := fun _ => fun
  | [d1, d2, g1] => { results := [.lit (.bool false)], args := [d1, d2], vars := [g1] }
  | _ => none }
def FnRuleNthWrongFalsely : Prop := fnRuleNthRow.holds Tryd.pinned (OpenSpec.ofChange fnRuleNthWrong)

/- THE SECOND FORM. 'bulk': how many values and letters a reading holds, each counted each time it is reached (what is shared counts as often as it is met; a slice's spare places count too). A statement '..UptoSaid' is the law's where the arguments, and the package variables that the reading takes, are together of bulk at most 1048576: NARROWER than '..Said'. Prove '..Said' where nothing that the law and all that it calls make is longer than what came in: it says more and counts as full. Else prove '..UptoSaid'. A law counts once. -/
mutual
def uptoBulk {H : Type} : DataW H → Nat
  | .lit (.string bytes) => bytes.length + 1
  | .lit _ => 1
  | .nil => 1
  | .ptr d => uptoBulk d + 1
  | .slice elems spare => uptoBulkAll elems + uptoBulkAll spare + 1
  | .agg parts => uptoBulkAll parts + 1
  | .iface _ d => uptoBulk d + 1
  | .map entries => uptoBulkEntries entries + 1
  | .held _ => 1
def uptoBulkAll {H : Type} : List (DataW H) → Nat
  | [] => 0
  | d :: r => uptoBulk d + uptoBulkAll r
def uptoBulkEntries {H : Type} : List (Lit × DataW H) → Nat
  | [] => 0
  | x :: r => uptoBulkEntry x + uptoBulkEntries r
def uptoBulkEntry {H : Type} : Lit × DataW H → Nat
  | (.string bytes, d) => bytes.length + uptoBulk d + 1
  | (_, d) => uptoBulk d + 1
 end
def uptoSmall : (H : Type) → List (DataW H) → Bool := fun _ ds => decide (uptoBulkAll ds ≤ 1048576)
def OpenSpec.upto (s : _root_.Go.ChangeSpec) : _root_.Go.OpenSpec := { _root_.Go.OpenSpec.ofChange s with cond := some uptoSmall }

/-- 'laws.FnRuleDays', WHERE WHAT IT READS IS OF BULK AT MOST 1048576: true; the input reads as it did. -/
def fnRuleDaysUptoRow : OpenClaim := { program := "ytlfglhpepoepcaadoor", sum := "1b245c0e24739e4cdc8f9b2a04f06cf96c063ae45f45f8aa2b018258284af3e2", func := "loop.example/ephemeris/laws.FnRuleDays", spec := "fnRuleDays", unfollowed := true, recurses := true, named := ["loop.example/ephemeris/impl.monthSizes"], apart := false, laid := [("loop.example/ephemeris/impl.monthSizes", laid_loop_example_ephemeris_impl_monthSizes)], narrowed := true }
def FnRuleDaysUptoSaid : Prop := fnRuleDaysUptoRow.holds Tryd.pinned (OpenSpec.upto fnRuleDaysSpec)

/-- 'laws.FnRuleOn', WHERE WHAT IT READS IS OF BULK AT MOST 1048576: true; the input reads as it did. -/
def fnRuleOnUptoRow : OpenClaim := { program := "ytlfglhpepoepcaadoor", sum := "1b245c0e24739e4cdc8f9b2a04f06cf96c063ae45f45f8aa2b018258284af3e2", func := "loop.example/ephemeris/laws.FnRuleOn", spec := "fnRuleOn", unfollowed := true, recurses := true, named := ["loop.example/ephemeris/impl.monthSizes"], apart := false, laid := [("loop.example/ephemeris/impl.monthSizes", laid_loop_example_ephemeris_impl_monthSizes)], narrowed := true }
def FnRuleOnUptoSaid : Prop := fnRuleOnUptoRow.holds Tryd.pinned (OpenSpec.upto fnRuleOnSpec)

/-- 'laws.FnRuleEvery', WHERE WHAT IT READS IS OF BULK AT MOST 1048576: true; the input reads as it did. -/
def fnRuleEveryUptoRow : OpenClaim := { program := "ytlfglhpepoepcaadoor", sum := "1b245c0e24739e4cdc8f9b2a04f06cf96c063ae45f45f8aa2b018258284af3e2", func := "loop.example/ephemeris/laws.FnRuleEvery", spec := "fnRuleEvery", unfollowed := true, recurses := true, named := ["loop.example/ephemeris/impl.monthSizes"], apart := false, laid := [("loop.example/ephemeris/impl.monthSizes", laid_loop_example_ephemeris_impl_monthSizes)], narrowed := true }
def FnRuleEveryUptoSaid : Prop := fnRuleEveryUptoRow.holds Tryd.pinned (OpenSpec.upto fnRuleEverySpec)

/-- 'laws.FnRuleMonth', WHERE WHAT IT READS IS OF BULK AT MOST 1048576: true; the input reads as it did. -/
def fnRuleMonthUptoRow : OpenClaim := { program := "ytlfglhpepoepcaadoor", sum := "1b245c0e24739e4cdc8f9b2a04f06cf96c063ae45f45f8aa2b018258284af3e2", func := "loop.example/ephemeris/laws.FnRuleMonth", spec := "fnRuleMonth", unfollowed := true, recurses := true, named := ["loop.example/ephemeris/impl.monthSizes"], apart := false, laid := [("loop.example/ephemeris/impl.monthSizes", laid_loop_example_ephemeris_impl_monthSizes)], narrowed := true }
def FnRuleMonthUptoSaid : Prop := fnRuleMonthUptoRow.holds Tryd.pinned (OpenSpec.upto fnRuleMonthSpec)

/-- 'laws.FnRulePlaces', WHERE WHAT IT READS IS OF BULK AT MOST 1048576: true; the input reads as it did. -/
def fnRulePlacesUptoRow : OpenClaim := { program := "ytlfglhpepoepcaadoor", sum := "1b245c0e24739e4cdc8f9b2a04f06cf96c063ae45f45f8aa2b018258284af3e2", func := "loop.example/ephemeris/laws.FnRulePlaces", spec := "fnRulePlaces", unfollowed := true, recurses := true, named := ["loop.example/ephemeris/impl.monthSizes"], apart := false, laid := [("loop.example/ephemeris/impl.monthSizes", laid_loop_example_ephemeris_impl_monthSizes)], narrowed := true }
def FnRulePlacesUptoSaid : Prop := fnRulePlacesUptoRow.holds Tryd.pinned (OpenSpec.upto fnRulePlacesSpec)

/-- 'laws.FnRuleNext', WHERE WHAT IT READS IS OF BULK AT MOST 1048576: true; the input reads as it did. -/
def fnRuleNextUptoRow : OpenClaim := { program := "ytlfglhpepoepcaadoor", sum := "1b245c0e24739e4cdc8f9b2a04f06cf96c063ae45f45f8aa2b018258284af3e2", func := "loop.example/ephemeris/laws.FnRuleNext", spec := "fnRuleNext", unfollowed := true, recurses := true, named := ["loop.example/ephemeris/impl.monthSizes"], apart := false, laid := [("loop.example/ephemeris/impl.monthSizes", laid_loop_example_ephemeris_impl_monthSizes)], narrowed := true }
def FnRuleNextUptoSaid : Prop := fnRuleNextUptoRow.holds Tryd.pinned (OpenSpec.upto fnRuleNextSpec)

/-- 'laws.FnRuleCount', WHERE WHAT IT READS IS OF BULK AT MOST 1048576: true; the input reads as it did. -/
def fnRuleCountUptoRow : OpenClaim := { program := "ytlfglhpepoepcaadoor", sum := "1b245c0e24739e4cdc8f9b2a04f06cf96c063ae45f45f8aa2b018258284af3e2", func := "loop.example/ephemeris/laws.FnRuleCount", spec := "fnRuleCount", unfollowed := true, recurses := true, named := ["loop.example/ephemeris/impl.monthSizes"], apart := false, laid := [("loop.example/ephemeris/impl.monthSizes", laid_loop_example_ephemeris_impl_monthSizes)], narrowed := true }
def FnRuleCountUptoSaid : Prop := fnRuleCountUptoRow.holds Tryd.pinned (OpenSpec.upto fnRuleCountSpec)

/-- 'laws.FnRuleUntil', WHERE WHAT IT READS IS OF BULK AT MOST 1048576: true; the input reads as it did. -/
def fnRuleUntilUptoRow : OpenClaim := { program := "ytlfglhpepoepcaadoor", sum := "1b245c0e24739e4cdc8f9b2a04f06cf96c063ae45f45f8aa2b018258284af3e2", func := "loop.example/ephemeris/laws.FnRuleUntil", spec := "fnRuleUntil", unfollowed := true, recurses := true, named := ["loop.example/ephemeris/impl.monthSizes"], apart := false, laid := [("loop.example/ephemeris/impl.monthSizes", laid_loop_example_ephemeris_impl_monthSizes)], narrowed := true }
def FnRuleUntilUptoSaid : Prop := fnRuleUntilUptoRow.holds Tryd.pinned (OpenSpec.upto fnRuleUntilSpec)

/-- 'laws.FnRuleTail', WHERE WHAT IT READS IS OF BULK AT MOST 1048576: true; the input reads as it did. -/
def fnRuleTailUptoRow : OpenClaim := { program := "ytlfglhpepoepcaadoor", sum := "1b245c0e24739e4cdc8f9b2a04f06cf96c063ae45f45f8aa2b018258284af3e2", func := "loop.example/ephemeris/laws.FnRuleTail", spec := "fnRuleTail", unfollowed := true, recurses := true, named := ["loop.example/ephemeris/impl.monthSizes"], apart := false, laid := [("loop.example/ephemeris/impl.monthSizes", laid_loop_example_ephemeris_impl_monthSizes)], narrowed := true }
def FnRuleTailUptoSaid : Prop := fnRuleTailUptoRow.holds Tryd.pinned (OpenSpec.upto fnRuleTailSpec)

/-- 'laws.FnRuleWeek', WHERE WHAT IT READS IS OF BULK AT MOST 1048576: true; the input reads as it did. -/
def fnRuleWeekUptoRow : OpenClaim := { program := "ytlfglhpepoepcaadoor", sum := "1b245c0e24739e4cdc8f9b2a04f06cf96c063ae45f45f8aa2b018258284af3e2", func := "loop.example/ephemeris/laws.FnRuleWeek", spec := "fnRuleWeek", unfollowed := true, recurses := true, named := ["loop.example/ephemeris/impl.monthSizes"], apart := false, laid := [("loop.example/ephemeris/impl.monthSizes", laid_loop_example_ephemeris_impl_monthSizes)], narrowed := true }
def FnRuleWeekUptoSaid : Prop := fnRuleWeekUptoRow.holds Tryd.pinned (OpenSpec.upto fnRuleWeekSpec)

/-- 'laws.FnRuleUnion', WHERE WHAT IT READS IS OF BULK AT MOST 1048576: true; the input reads as it did. -/
def fnRuleUnionUptoRow : OpenClaim := { program := "ytlfglhpepoepcaadoor", sum := "1b245c0e24739e4cdc8f9b2a04f06cf96c063ae45f45f8aa2b018258284af3e2", func := "loop.example/ephemeris/laws.FnRuleUnion", spec := "fnRuleUnion", unfollowed := true, recurses := true, named := ["loop.example/ephemeris/impl.monthSizes"], apart := false, laid := [("loop.example/ephemeris/impl.monthSizes", laid_loop_example_ephemeris_impl_monthSizes)], narrowed := true }
def FnRuleUnionUptoSaid : Prop := fnRuleUnionUptoRow.holds Tryd.pinned (OpenSpec.upto fnRuleUnionSpec)

/-- 'laws.FnRuleMonths', WHERE WHAT IT READS IS OF BULK AT MOST 1048576: true; the input reads as it did. -/
def fnRuleMonthsUptoRow : OpenClaim := { program := "ytlfglhpepoepcaadoor", sum := "1b245c0e24739e4cdc8f9b2a04f06cf96c063ae45f45f8aa2b018258284af3e2", func := "loop.example/ephemeris/laws.FnRuleMonths", spec := "fnRuleMonths", unfollowed := true, recurses := true, named := ["loop.example/ephemeris/impl.monthSizes"], apart := false, laid := [("loop.example/ephemeris/impl.monthSizes", laid_loop_example_ephemeris_impl_monthSizes)], narrowed := true }
def FnRuleMonthsUptoSaid : Prop := fnRuleMonthsUptoRow.holds Tryd.pinned (OpenSpec.upto fnRuleMonthsSpec)

/-- 'laws.FnRuleLast', WHERE WHAT IT READS IS OF BULK AT MOST 1048576: true; the input reads as it did. -/
def fnRuleLastUptoRow : OpenClaim := { program := "ytlfglhpepoepcaadoor", sum := "1b245c0e24739e4cdc8f9b2a04f06cf96c063ae45f45f8aa2b018258284af3e2", func := "loop.example/ephemeris/laws.FnRuleLast", spec := "fnRuleLast", unfollowed := true, recurses := true, named := ["loop.example/ephemeris/impl.monthSizes"], apart := false, laid := [("loop.example/ephemeris/impl.monthSizes", laid_loop_example_ephemeris_impl_monthSizes)], narrowed := true }
def FnRuleLastUptoSaid : Prop := fnRuleLastUptoRow.holds Tryd.pinned (OpenSpec.upto fnRuleLastSpec)

/-- 'laws.FnRuleNth', WHERE WHAT IT READS IS OF BULK AT MOST 1048576: true; the input reads as it did. -/
def fnRuleNthUptoRow : OpenClaim := { program := "ytlfglhpepoepcaadoor", sum := "1b245c0e24739e4cdc8f9b2a04f06cf96c063ae45f45f8aa2b018258284af3e2", func := "loop.example/ephemeris/laws.FnRuleNth", spec := "fnRuleNth", unfollowed := true, recurses := true, named := ["loop.example/ephemeris/impl.monthSizes"], apart := false, laid := [("loop.example/ephemeris/impl.monthSizes", laid_loop_example_ephemeris_impl_monthSizes)], narrowed := true }
def FnRuleNthUptoSaid : Prop := fnRuleNthUptoRow.holds Tryd.pinned (OpenSpec.upto fnRuleNthSpec)

end Rows
end Go.Proofs.YtlfglhpepoepcaaDoor
