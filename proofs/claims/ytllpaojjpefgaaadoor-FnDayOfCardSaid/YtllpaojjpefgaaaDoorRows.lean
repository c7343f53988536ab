/-
  NARROWER THAN 'FOR EVERY INPUT', by the rows' own cells (each row's printed sentence says how): FnYearLeap: laid · FnMonthDays: laid · FnDayOf: laid · FnWeekOf: laid · FnMonthAdd: laid.
  DERIVED. THE GIVEN ROWS OF THIS SEAT. 5 by the template 'for every input the law returns true; each argument reads behind the call as it read before'; 0 by the template 'total and deterministic' (their statements: YtllpaojjpefgaaaDoorTotals.lean).
  GIVEN WITH THE SEED: the statements are not yours to turn. If you find one false, say at which input.
  Laid BY PROGRAM, IN A SANDBOX (cutbox-rows.mjs): the forced cells as the released guide's own fill.sh prints them over the translation 44f04f19ad7d2461… (all of the seat's roots in one cut). By AI agents, Wed Nov 11 2026. No macro, syntax, notation, axiom, sorry.
-/
import Derived.Test.YtllpaojjpefgaaaDoorChecked
import GoSem.Claim
import GoSem.ClaimJoined
import GoSem.ClaimMapViews
import Derived.JoinedTies
import Derived.KernelRfl
namespace Go.Proofs.YtllpaojjpefgaaaDoor
/- THE CELL 'sum', in the pinned program and in every row, IS THE sha256 OF THE DUMP (.gsa) THAT YtllpaojjpefgaaaDoorProg.lean LOADS. Nothing in Lean hashes anything: it is a label: what it is worth is what the hold of that sum in a sandbox is worth. -/
noncomputable def Tryd.pinned : Pinned := { name := "ytllpaojjpefgaaadoor", sum := "44f04f19ad7d24613432e67ad41f01b58a82d792a1c5f973f54d23e5f36e34a1", checked := Tryd.checked }
namespace Rows
def none {H : Type} : Left H := { results := [], args := [] }

/- WHAT THE LISTED PACKAGE-LEVEL VARIABLES READ AS WHEN THE CALL BEGINS. Each datum BY PROGRAM (the guide's laid-datum.mjs) off the statement by which the dump's own 'gosem.cut.vars' lays the variable. In a bare row this is a premise. The card (YtllpaojjpefgaaaDoorCards.lean) ties it to the program's text. -/
def laid_loop_example_ephemeris_impl_monthSizes {H : Type} : DataW H := .agg [.lit (.int .i64 31), .lit (.int .i64 28), .lit (.int .i64 31), .lit (.int .i64 30), .lit (.int .i64 31), .lit (.int .i64 30), .lit (.int .i64 31), .lit (.int .i64 31), .lit (.int .i64 30), .lit (.int .i64 31), .lit (.int .i64 30), .lit (.int .i64 31)]

/-- 'laws.FnYearLeap': WHATEVER THE INPUT: true; the input reads as it did. -/
def fnYearLeapSpec : ChangeSpec := { name := "fnYearLeap", vars := ["loop.example/ephemeris/impl.monthSizes"], fn := fun _ => fun
  | [d, g1] => { results := [.lit (.bool true)], args := [d], vars := [g1] }
  | _ => none }
def fnYearLeapRow : OpenClaim := { program := "ytllpaojjpefgaaadoor", sum := "44f04f19ad7d24613432e67ad41f01b58a82d792a1c5f973f54d23e5f36e34a1", func := "loop.example/ephemeris/laws.FnYearLeap", spec := "fnYearLeap", named := ["loop.example/ephemeris/impl.monthSizes"], apart := false, laid := [("loop.example/ephemeris/impl.monthSizes", laid_loop_example_ephemeris_impl_monthSizes)] }
def FnYearLeapSaid : Prop := fnYearLeapRow.holds Tryd.pinned (OpenSpec.ofChange fnYearLeapSpec)

/-- ITS FALSE NEIGHBOUR: 'it returns false'. Refute it at one input. -/
def fnYearLeapWrong : ChangeSpec := { name := "fnYearLeap", vars := ["loop.example/ephemeris/impl.monthSizes"], fn := fun _ => fun
  | [d, g1] => { results := [.lit (.bool false)], args := [d], vars := [g1] }
  | _ => none }
def FnYearLeapWrongFalsely : Prop := fnYearLeapRow.holds Tryd.pinned (OpenSpec.ofChange fnYearLeapWrong)

/-- 'laws.FnMonthDays': WHATEVER THE INPUT: true; the input reads as it did. -/
def fnMonthDaysSpec : ChangeSpec := { name := "fnMonthDays", vars := ["loop.example/ephemeris/impl.monthSizes"], fn := fun _ => fun
  | [d, g1] => { results := [.lit (.bool true)], args := [d], vars := [g1] }
  | _ => none }
def fnMonthDaysRow : OpenClaim := { program := "ytllpaojjpefgaaadoor", sum := "44f04f19ad7d24613432e67ad41f01b58a82d792a1c5f973f54d23e5f36e34a1", func := "loop.example/ephemeris/laws.FnMonthDays", spec := "fnMonthDays", named := ["loop.example/ephemeris/impl.monthSizes"], apart := false, laid := [("loop.example/ephemeris/impl.monthSizes", laid_loop_example_ephemeris_impl_monthSizes)] }
def FnMonthDaysSaid : Prop := fnMonthDaysRow.holds Tryd.pinned (OpenSpec.ofChange fnMonthDaysSpec)

/-- ITS FALSE NEIGHBOUR: 'it returns false'. Refute it at one input. -/
def fnMonthDaysWrong : ChangeSpec := { name := "fnMonthDays", vars := ["loop.example/ephemeris/impl.monthSizes"], fn := fun _ => fun
  | [d, g1] => { results := [.lit (.bool false)], args := [d], vars := [g1] }
  | _ => none }
def FnMonthDaysWrongFalsely : Prop := fnMonthDaysRow.holds Tryd.pinned (OpenSpec.ofChange fnMonthDaysWrong)

/-- 'laws.FnDayOf': WHATEVER THE INPUT: true; the input reads as it did. -/
def fnDayOfSpec : ChangeSpec := { name := "fnDayOf", vars := ["loop.example/ephemeris/impl.monthSizes"], fn := fun _ => fun
  | [d1, d2, g1] => { results := [.lit (.bool true)], args := [d1, d2], vars := [g1] }
  | _ => none }
def fnDayOfRow : OpenClaim := { program := "ytllpaojjpefgaaadoor", sum := "44f04f19ad7d24613432e67ad41f01b58a82d792a1c5f973f54d23e5f36e34a1", func := "loop.example/ephemeris/laws.FnDayOf", spec := "fnDayOf", named := ["loop.example/ephemeris/impl.monthSizes"], apart := false, laid := [("loop.example/ephemeris/impl.monthSizes", laid_loop_example_ephemeris_impl_monthSizes)] }
def FnDayOfSaid : Prop := fnDayOfRow.holds Tryd.pinned (OpenSpec.ofChange fnDayOfSpec)

/-- ITS FALSE NEIGHBOUR: 'it returns false'. Refute it at one input. -/
def fnDayOfWrong : ChangeSpec := { name := "fnDayOf", vars := ["loop.example/ephemeris/impl.monthSizes"], fn := fun _ => fun
  | [d1, d2, g1] => { results := [.lit (.bool false)], args := [d1, d2], vars := [g1] }
  | _ => none }
def FnDayOfWrongFalsely : Prop := fnDayOfRow.holds Tryd.pinned (OpenSpec.ofChange fnDayOfWrong)

/-- 'laws.FnWeekOf': WHATEVER THE INPUT: true; the input reads as it did. -/
def fnWeekOfSpec : ChangeSpec := { name := "fnWeekOf", vars := ["loop.example/ephemeris/impl.monthSizes"], fn := fun _ => fun
  | [d, g1] => { results := [.lit (.bool true)], args := [d], vars := [g1] }
  | _ => none }
def fnWeekOfRow : OpenClaim := { program := "ytllpaojjpefgaaadoor", sum := "44f04f19ad7d24613432e67ad41f01b58a82d792a1c5f973f54d23e5f36e34a1", func := "loop.example/ephemeris/laws.FnWeekOf", spec := "fnWeekOf", named := ["loop.example/ephemeris/impl.monthSizes"], apart := false, laid := [("loop.example/ephemeris/impl.monthSizes", laid_loop_example_ephemeris_impl_monthSizes)] }
def FnWeekOfSaid : Prop := fnWeekOfRow.holds Tryd.pinned (OpenSpec.ofChange fnWeekOfSpec)

/-- ITS FALSE NEIGHBOUR: 'it returns false'. Refute it at one input. -/
def fnWeekOfWrong : ChangeSpec := { name := "fnWeekOf", vars := ["loop.example/ephemeris/impl.monthSizes"], fn := fun _ => fun
  | [d, g1] => { results := [.lit (.bool false)], args := [d], vars := [g1] }
  | _ => none }
def FnWeekOfWrongFalsely : Prop := fnWeekOfRow.holds Tryd.pinned (OpenSpec.ofChange fnWeekOfWrong)

/-- 'laws.FnMonthAdd': WHATEVER THE INPUT: true; the input reads as it did. -/
def fnMonthAddSpec : ChangeSpec := { name := "fnMonthAdd", vars := ["loop.example/ephemeris/impl.monthSizes"], fn := fun _ => fun
  | [d, g1] => { results := [.lit (.bool true)], args := [d], vars := [g1] }
  | _ => none }
def fnMonthAddRow : OpenClaim := { program := "ytllpaojjpefgaaadoor", sum := "44f04f19ad7d24613432e67ad41f01b58a82d792a1c5f973f54d23e5f36e34a1", func := "loop.example/ephemeris/laws.FnMonthAdd", spec := "fnMonthAdd", named := ["loop.example/ephemeris/impl.monthSizes"], apart := false, laid := [("loop.example/ephemeris/impl.monthSizes", laid_loop_example_ephemeris_impl_monthSizes)] }
def FnMonthAddSaid : Prop := fnMonthAddRow.holds Tryd.pinned (OpenSpec.ofChange fnMonthAddSpec)

/-- ITS FALSE NEIGHBOUR: 'it returns false'. Refute it at one input. -/
def fnMonthAddWrong : ChangeSpec := { name := "fnMonthAdd", vars := ["loop.example/ephemeris/impl.monthSizes"], fn := fun _ => fun
  | [d, g1] => { results := [.lit (.bool false)], args := [d], vars := [g1] }
  | _ => none }
def FnMonthAddWrongFalsely : Prop := fnMonthAddRow.holds Tryd.pinned (OpenSpec.ofChange fnMonthAddWrong)

/- THE SECOND FORM. 'bulk': how many values and letters a reading holds, each counted each time it is reached (what is shared counts as often as it is met; a slice's spare places count too). A statement '..UptoSaid' is the law's where the arguments, and the package variables that the reading takes, are together of bulk at most 1048576: NARROWER than '..Said'. Prove '..Said' where nothing that the law and all that it calls make is longer than what came in: it says more and counts as full. Else prove '..UptoSaid'. A law counts once. -/
mutual
def uptoBulk {H : Type} : DataW H → Nat
  | .lit (.string bytes) => bytes.length + 1
  | .lit _ => 1
  | .nil => 1
  | .ptr d => uptoBulk d + 1
  | .slice elems spare => uptoBulkAll elems + uptoBulkAll spare + 1
  | .agg parts => uptoBulkAll parts + 1
  | .iface _ d => uptoBulk d + 1
  | .map entries => uptoBulkEntries entries + 1
  | .held _ => 1
def uptoBulkAll {H : Type} : List (DataW H) → Nat
  | [] => 0
  | d :: r => uptoBulk d + uptoBulkAll r
def uptoBulkEntries {H : Type} : List (Lit × DataW H) → Nat
  | [] => 0
  | x :: r => uptoBulkEntry x + uptoBulkEntries r
def uptoBulkEntry {H : Type} : Lit × DataW H → Nat
  | (.string bytes, d) => bytes.length + uptoBulk d + 1
  | (_, d) => uptoBulk d + 1
 end
def uptoSmall : (H : Type) → List (DataW H) → Bool := fun _ ds => decide (uptoBulkAll ds ≤ 1048576)
def OpenSpec.upto (s : _root_.Go.ChangeSpec) : _root_.Go.OpenSpec := { _root_.Go.OpenSpec.ofChange s with cond := some uptoSmall }

/-- 'laws.FnYearLeap', WHERE WHAT IT READS IS OF BULK AT MOST 1048576: true; the input reads as it did. -/
def fnYearLeapUptoRow : OpenClaim := { program := "ytllpaojjpefgaaadoor", sum := "44f04f19ad7d24613432e67ad41f01b58a82d792a1c5f973f54d23e5f36e34a1", func := "loop.example/ephemeris/laws.FnYearLeap", spec := "fnYearLeap", named := ["loop.example/ephemeris/impl.monthSizes"], apart := false, laid := [("loop.example/ephemeris/impl.monthSizes", laid_loop_example_ephemeris_impl_monthSizes)], narrowed := true }
def FnYearLeapUptoSaid : Prop := fnYearLeapUptoRow.holds Tryd.pinned (OpenSpec.upto fnYearLeapSpec)

/-- 'laws.FnMonthDays', WHERE WHAT IT READS IS OF BULK AT MOST 1048576: true; the input reads as it did. -/
def fnMonthDaysUptoRow : OpenClaim := { program := "ytllpaojjpefgaaadoor", sum := "44f04f19ad7d24613432e67ad41f01b58a82d792a1c5f973f54d23e5f36e34a1", func := "loop.example/ephemeris/laws.FnMonthDays", spec := "fnMonthDays", named := ["loop.example/ephemeris/impl.monthSizes"], apart := false, laid := [("loop.example/ephemeris/impl.monthSizes", laid_loop_example_ephemeris_impl_monthSizes)], narrowed := true }
def FnMonthDaysUptoSaid : Prop := fnMonthDaysUptoRow.holds Tryd.pinned (OpenSpec.upto fnMonthDaysSpec)

/-- 'laws.FnDayOf', WHERE WHAT IT READS IS OF BULK AT MOST 1048576: true; the input reads as it did. -/
def fnDayOfUptoRow : OpenClaim := { program := "ytllpaojjpefgaaadoor", sum := "44f04f19ad7d24613432e67ad41f01b58a82d792a1c5f973f54d23e5f36e34a1", func := "loop.example/ephemeris/laws.FnDayOf", spec := "fnDayOf", named := ["loop.example/ephemeris/impl.monthSizes"], apart := false, laid := [("loop.example/ephemeris/impl.monthSizes", laid_loop_example_ephemeris_impl_monthSizes)], narrowed := true }
def FnDayOfUptoSaid : Prop := fnDayOfUptoRow.holds Tryd.pinned (OpenSpec.upto fnDayOfSpec)

/-- 'laws.FnWeekOf', WHERE WHAT IT READS IS OF BULK AT MOST 1048576: true; the input reads as it did. -/
def fnWeekOfUptoRow : OpenClaim := { program := "ytllpaojjpefgaaadoor", sum := "44f04f19ad7d24613432e67ad41f01b58a82d792a1c5f973f54d23e5f36e34a1", func := "loop.example/ephemeris/laws.FnWeekOf", spec := "fnWeekOf", named := ["loop.example/ephemeris/impl.monthSizes"], apart := false, laid := [("loop.example/ephemeris/impl.monthSizes", laid_loop_example_ephemeris_impl_monthSizes)], narrowed := true }
def FnWeekOfUptoSaid : Prop := fnWeekOfUptoRow.holds Tryd.pinned (OpenSpec.upto fnWeekOfSpec)

/-- 'laws.FnMonthAdd', WHERE WHAT IT READS IS OF BULK AT MOST 1048576: true; the input reads as it did. -/
def fnMonthAddUptoRow : OpenClaim := { program := "ytllpaojjpefgaaadoor", sum := "44f04f19ad7d24613432e67ad41f01b58a82d792a1c5f973f54d23e5f36e34a1", func := "loop.example/ephemeris/laws.FnMonthAdd", spec := "fnMonthAdd", named := ["loop.example/ephemeris/impl.monthSizes"], apart := false, laid := [("loop.example/ephemeris/impl.monthSizes", laid_loop_example_ephemeris_impl_monthSizes)], narrowed := true }
def FnMonthAddUptoSaid : Prop := fnMonthAddUptoRow.holds Tryd.pinned (OpenSpec.upto fnMonthAddSpec)

end Rows
end Go.Proofs.YtllpaojjpefgaaaDoor
