/-
  NARROWER THAN 'FOR EVERY INPUT', by the rows' own cells (each row's printed sentence says how): FnMonthAddTwo: laid · FnYearDays: laid.
  DERIVED. THE GIVEN ROWS OF THIS SEAT. 2 by the template 'for every input the law returns true; each argument reads behind the call as it read before'; 0 by the template 'total and deterministic' (their statements: YtllpaojjpefgaagDoorTotals.lean).
  GIVEN WITH THE SEED: the statements are not yours to turn. If you find one false, say at which input.
  Laid BY PROGRAM, IN A SANDBOX (cutbox-rows.mjs): the forced cells as the released guide's own fill.sh prints them over the translation 1d3310a75caa58a2… (all of the seat's roots in one cut). By AI agents, Wed Nov 11 2026. No macro, syntax, notation, axiom, sorry.
-/
import Derived.Test.YtllpaojjpefgaagDoorChecked
import GoSem.Claim
import GoSem.ClaimJoined
import GoSem.ClaimMapViews
import Derived.JoinedTies
import Derived.KernelRfl
namespace Go.Proofs.YtllpaojjpefgaagDoor
/- THE CELL 'sum', in the pinned program and in every row, IS THE sha256 OF THE DUMP (.gsa) THAT YtllpaojjpefgaagDoorProg.lean LOADS. Nothing in Lean hashes anything: it is a label: what it is worth is what the hold of that sum in a sandbox is worth. -/
noncomputable def Tryd.pinned : Pinned := { name := "ytllpaojjpefgaagdoor", sum := "1d3310a75caa58a2cf857aaa7c11f1e240786e2a84798972aa228bef281e72aa", checked := Tryd.checked }
namespace Rows
def none {H : Type} : Left H := { results := [], args := [] }

/- WHAT THE LISTED PACKAGE-LEVEL VARIABLES READ AS WHEN THE CALL BEGINS. Each datum BY PROGRAM (the guide's laid-datum.mjs) off the statement by which the dump's own 'gosem.cut.vars' lays the variable. In a bare row this is a premise. The card (YtllpaojjpefgaagDoorCards.lean) ties it to the program's text. -/
def laid_loop_example_ephemeris_impl_monthSizes {H : Type} : DataW H := .agg [.lit (.int .i64 31), .lit (.int .i64 28), .lit (.int .i64 31), .lit (.int .i64 30), .lit (.int .i64 31), .lit (.int .i64 30), .lit (.int .i64 31), .lit (.int .i64 31), .lit (.int .i64 30), .lit (.int .i64 31), .lit (.int .i64 30), .lit (.int .i64 31)]

/-- 'laws.FnMonthAddTwo': WHATEVER THE INPUT: true; the input reads as it did. -/
def fnMonthAddTwoSpec : ChangeSpec := { name := "fnMonthAddTwo", vars := ["loop.example/ephemeris/impl.monthSizes"], fn := fun _ => fun
  | [d1, d2, g1] => { results := [.lit (.bool true)], args := [d1, d2], vars := [g1] }
  | _ => none }
def fnMonthAddTwoRow : OpenClaim := { program := "ytllpaojjpefgaagdoor", sum := "1d3310a75caa58a2cf857aaa7c11f1e240786e2a84798972aa228bef281e72aa", func := "loop.example/ephemeris/laws.FnMonthAddTwo", spec := "fnMonthAddTwo", named := ["loop.example/ephemeris/impl.monthSizes"], apart := false, laid := [("loop.example/ephemeris/impl.monthSizes", laid_loop_example_ephemeris_impl_monthSizes)] }
def FnMonthAddTwoSaid : Prop := fnMonthAddTwoRow.holds Tryd.pinned (OpenSpec.ofChange fnMonthAddTwoSpec)

/-- ITS FALSE NEIGHBOUR: 'it returns false'. Refute it at one input. -/
def fnMonthAddTwoWrong : ChangeSpec := { name := "fnMonthAddTwo", vars := ["loop.example/ephemeris/impl.monthSizes"], fn := fun _ => fun
  | [d1, d2, g1] => { results := [.lit (.bool false)], args := [d1, d2], vars := [g1] }
  | _ => none }
def FnMonthAddTwoWrongFalsely : Prop := fnMonthAddTwoRow.holds Tryd.pinned (OpenSpec.ofChange fnMonthAddTwoWrong)

/-- 'laws.FnYearDays': WHATEVER THE INPUT: true; the input reads as it did. -/
def fnYearDaysSpec : ChangeSpec := { name := "fnYearDays", vars := ["loop.example/ephemeris/impl.monthSizes"], fn := fun _ => fun
  | [d, g1] => { results := [.lit (.bool true)], args := [d], vars := [g1] }
  | _ => none }
def fnYearDaysRow : OpenClaim := { program := "ytllpaojjpefgaagdoor", sum := "1d3310a75caa58a2cf857aaa7c11f1e240786e2a84798972aa228bef281e72aa", func := "loop.example/ephemeris/laws.FnYearDays", spec := "fnYearDays", named := ["loop.example/ephemeris/impl.monthSizes"], apart := false, laid := [("loop.example/ephemeris/impl.monthSizes", laid_loop_example_ephemeris_impl_monthSizes)] }
def FnYearDaysSaid : Prop := fnYearDaysRow.holds Tryd.pinned (OpenSpec.ofChange fnYearDaysSpec)

/-- ITS FALSE NEIGHBOUR: 'it returns false'. Refute it at one input. -/
def fnYearDaysWrong : ChangeSpec := { name := "fnYearDays", vars := ["loop.example/ephemeris/impl.monthSizes"], fn := fun _ => fun
  | [d, g1] => { results := [.lit (.bool false)], args := [d], vars := [g1] }
  | _ => none }
def FnYearDaysWrongFalsely : Prop := fnYearDaysRow.holds Tryd.pinned (OpenSpec.ofChange fnYearDaysWrong)

/- THE SECOND FORM. 'bulk': how many values and letters a reading holds, each counted each time it is reached (what is shared counts as often as it is met; a slice's spare places count too). A statement '..UptoSaid' is the law's where the arguments, and the package variables that the reading takes, are together of bulk at most 1048576: NARROWER than '..Said'. Prove '..Said' where nothing that the law and all that it calls make is longer than what came in: it says more and counts as full. Else prove '..UptoSaid'. A law counts once. -/
mutual
def uptoBulk {H : Type} : DataW H → Nat
  | .lit (.string bytes) => bytes.length + 1
  | .lit _ => 1
  | .nil => 1
  | .ptr d => uptoBulk d + 1
  | .slice elems spare => uptoBulkAll elems + uptoBulkAll spare + 1
  | .agg parts => uptoBulkAll parts + 1
  | .iface _ d => uptoBulk d + 1
  | .map entries => uptoBulkEntries entries + 1
  | .held _ => 1
def uptoBulkAll {H : Type} : List (DataW H) → Nat
  | [] => 0
  | d :: r => uptoBulk d + uptoBulkAll r
def uptoBulkEntries {H : Type} : List (Lit × DataW H) → Nat
  | [] => 0
  | x :: r => uptoBulkEntry x + uptoBulkEntries r
def uptoBulkEntry {H : Type} : Lit × DataW H → Nat
  | (.string bytes, d) => bytes.length + uptoBulk d + 1
  | (_, d) => uptoBulk d + 1
 end
def uptoSmall : (H : Type) → List (DataW H) → Bool := fun _ ds => decide (uptoBulkAll ds ≤ 1048576)
def OpenSpec.upto (s : _root_.Go.ChangeSpec) : _root_.Go.OpenSpec := { _root_.Go.OpenSpec.ofChange s with cond := some uptoSmall }

/-- 'laws.FnMonthAddTwo', WHERE WHAT IT READS IS OF BULK AT MOST 1048576: true; the input reads as it did. -/
def fnMonthAddTwoUptoRow : OpenClaim := { program := "ytllpaojjpefgaagdoor", sum := "1d3310a75caa58a2cf857aaa7c11f1e240786e2a84798972aa228bef281e72aa", func := "loop.example/ephemeris/laws.FnMonthAddTwo", spec := "fnMonthAddTwo", named := ["loop.example/ephemeris/impl.monthSizes"], apart := false, laid := [("loop.example/ephemeris/impl.monthSizes", laid_loop_example_ephemeris_impl_monthSizes)], narrowed := true }
def FnMonthAddTwoUptoSaid : Prop := fnMonthAddTwoUptoRow.holds Tryd.pinned (OpenSpec.upto fnMonthAddTwoSpec)

/-- 'laws.FnYearDays', WHERE WHAT IT READS IS OF BULK AT MOST 1048576: true; the input reads as it did. -/
def fnYearDaysUptoRow : OpenClaim := { program := "ytllpaojjpefgaagdoor", sum := "1d3310a75caa58a2cf857aaa7c11f1e240786e2a84798972aa228bef281e72aa", func := "loop.example/ephemeris/laws.FnYearDays", spec := "fnYearDays", named := ["loop.example/ephemeris/impl.monthSizes"], apart := false, laid := [("loop.example/ephemeris/impl.monthSizes", laid_loop_example_ephemeris_impl_monthSizes)], narrowed := true }
def FnYearDaysUptoSaid : Prop := fnYearDaysUptoRow.holds Tryd.pinned (OpenSpec.upto fnYearDaysSpec)

end Rows
end Go.Proofs.YtllpaojjpefgaagDoor
