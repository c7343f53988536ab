/-
  No cell of these rows narrows 'for every input' (looked for: loops, veiled, ifaces, maps, wideKeys, modest, calm, conditions, laid).
  DERIVED. THE GIVEN ROWS OF THIS SEAT. 5 by the template 'for every input the law returns true; each argument reads behind the call as it read before'; 0 by the template 'total and deterministic' (their statements: YthmekfijpfghkaaTotals.lean).
  GIVEN WITH THE SEED: the statements are not yours to turn. If you find one false, say at which input.
  Laid BY PROGRAM, IN A SANDBOX (cutbox-rows.mjs): the forced cells as the released guide's own fill.sh prints them over the translation de8582012c5d26ce… (all of the seat's roots in one cut). By AI agents, Wed Nov 11 2026. No macro, syntax, notation, axiom, sorry.
-/
import Derived.Test.YthmekfijpfghkaaChecked
import GoSem.Claim
import GoSem.ClaimJoined
import GoSem.ClaimMapViews
import Derived.JoinedTies
import Derived.KernelRfl
namespace Go.Proofs.Ythmekfijpfghkaa
/- THE CELL 'sum', in the pinned program and in every row, IS THE sha256 OF THE DUMP (.gsa) THAT YthmekfijpfghkaaProg.lean LOADS. Nothing in Lean hashes anything: it is a label: what it is worth is what the hold of that sum in a sandbox is worth. -/
noncomputable def Try.pinned : Pinned := { name := "ythmekfijpfghkaa", sum := "de8582012c5d26ce1c26a1f825daa7bdc3a78d1b566bc2d694e8554180b9ae48", checked := Try.checked }
namespace Rows
def none {H : Type} : Left H := { results := [], args := [] }

/-- 'laws.FnExactMeetCount': WHATEVER THE INPUT: true; the input reads as it did. -/
def fnExactMeetCountSpec : ChangeSpec := { name := "fnExactMeetCount", fn := fun _ => fun
  | [d1, d2] => { results := [.lit (.bool true)], args := [d1, d2] }
  | _ => none }
def fnExactMeetCountRow : OpenClaim := { program := "ythmekfijpfghkaa", sum := "de8582012c5d26ce1c26a1f825daa7bdc3a78d1b566bc2d694e8554180b9ae48", func := "loop.example/ephemeris/laws.FnExactMeetCount", spec := "fnExactMeetCount", apart := false }
def FnExactMeetCountSaid : Prop := fnExactMeetCountRow.holds Try.pinned (OpenSpec.ofChange fnExactMeetCountSpec)

/-- ITS FALSE NEIGHBOUR: 'it returns false'. Refute it at one input. -/
def fnExactMeetCountWrong : ChangeSpec := { name := "fnExactMeetCount", fn := fun _ => fun
  | [d1, d2] => { results := [.lit (.bool false)], args := [d1, d2] }
  | _ => none }
def FnExactMeetCountWrongFalsely : Prop := fnExactMeetCountRow.holds Try.pinned (OpenSpec.ofChange fnExactMeetCountWrong)

/-- 'laws.FnMeetCount': WHATEVER THE INPUT: true; the input reads as it did. -/
def fnMeetCountSpec : ChangeSpec := { name := "fnMeetCount", fn := fun _ => fun
  | [d] => { results := [.lit (.bool true)], args := [d] }
  | _ => none }
def fnMeetCountRow : OpenClaim := { program := "ythmekfijpfghkaa", sum := "de8582012c5d26ce1c26a1f825daa7bdc3a78d1b566bc2d694e8554180b9ae48", func := "loop.example/ephemeris/laws.FnMeetCount", spec := "fnMeetCount", apart := false }
def FnMeetCountSaid : Prop := fnMeetCountRow.holds Try.pinned (OpenSpec.ofChange fnMeetCountSpec)

/-- ITS FALSE NEIGHBOUR: 'it returns false'. Refute it at one input. -/
def fnMeetCountWrong : ChangeSpec := { name := "fnMeetCount", fn := fun _ => fun
  | [d] => { results := [.lit (.bool false)], args := [d] }
  | _ => none }
def FnMeetCountWrongFalsely : Prop := fnMeetCountRow.holds Try.pinned (OpenSpec.ofChange fnMeetCountWrong)

/-- 'laws.FnExactLetterTake': WHATEVER THE INPUT: true; the input reads as it did. -/
def fnExactLetterTakeSpec : ChangeSpec := { name := "fnExactLetterTake", fn := fun _ => fun
  | [d1, d2] => { results := [.lit (.bool true)], args := [d1, d2] }
  | _ => none }
def fnExactLetterTakeRow : OpenClaim := { program := "ythmekfijpfghkaa", sum := "de8582012c5d26ce1c26a1f825daa7bdc3a78d1b566bc2d694e8554180b9ae48", func := "loop.example/ephemeris/laws.FnExactLetterTake", spec := "fnExactLetterTake", apart := false }
def FnExactLetterTakeSaid : Prop := fnExactLetterTakeRow.holds Try.pinned (OpenSpec.ofChange fnExactLetterTakeSpec)

/-- ITS FALSE NEIGHBOUR: 'it returns false'. Refute it at one input. -/
def fnExactLetterTakeWrong : ChangeSpec := { name := "fnExactLetterTake", fn := fun _ => fun
  | [d1, d2] => { results := [.lit (.bool false)], args := [d1, d2] }
  | _ => none }
def FnExactLetterTakeWrongFalsely : Prop := fnExactLetterTakeRow.holds Try.pinned (OpenSpec.ofChange fnExactLetterTakeWrong)

/-- 'laws.FnExactMeetLetter': WHATEVER THE INPUT: true; the input reads as it did. -/
def fnExactMeetLetterSpec : ChangeSpec := { name := "fnExactMeetLetter", fn := fun _ => fun
  | [d] => { results := [.lit (.bool true)], args := [d] }
  | _ => none }
def fnExactMeetLetterRow : OpenClaim := { program := "ythmekfijpfghkaa", sum := "de8582012c5d26ce1c26a1f825daa7bdc3a78d1b566bc2d694e8554180b9ae48", func := "loop.example/ephemeris/laws.FnExactMeetLetter", spec := "fnExactMeetLetter", apart := false }
def FnExactMeetLetterSaid : Prop := fnExactMeetLetterRow.holds Try.pinned (OpenSpec.ofChange fnExactMeetLetterSpec)

/-- ITS FALSE NEIGHBOUR: 'it returns false'. Refute it at one input. -/
def fnExactMeetLetterWrong : ChangeSpec := { name := "fnExactMeetLetter", fn := fun _ => fun
  | [d] => { results := [.lit (.bool false)], args := [d] }
  | _ => none }
def FnExactMeetLetterWrongFalsely : Prop := fnExactMeetLetterRow.holds Try.pinned (OpenSpec.ofChange fnExactMeetLetterWrong)

/-- 'laws.FnLetterTake': WHATEVER THE INPUT: true; the input reads as it did. -/
def fnLetterTakeSpec : ChangeSpec := { name := "fnLetterTake", fn := fun _ => fun
  | [d] => { results := [.lit (.bool true)], args := [d] }
  | _ => none }
def fnLetterTakeRow : OpenClaim := { program := "ythmekfijpfghkaa", sum := "de8582012c5d26ce1c26a1f825daa7bdc3a78d1b566bc2d694e8554180b9ae48", func := "loop.example/ephemeris/laws.FnLetterTake", spec := "fnLetterTake", apart := false }
def FnLetterTakeSaid : Prop := fnLetterTakeRow.holds Try.pinned (OpenSpec.ofChange fnLetterTakeSpec)

/-- ITS FALSE NEIGHBOUR: 'it returns false'. Refute it at one input. -/
def fnLetterTakeWrong : ChangeSpec := { name := "fnLetterTake", fn := fun _ => fun
  | [d] => { results := [.lit (.bool false)], args := [d] }
  | _ => none }
def FnLetterTakeWrongFalsely : Prop := fnLetterTakeRow.holds Try.pinned (OpenSpec.ofChange fnLetterTakeWrong)

/- THE SECOND FORM. 'bulk': how many values and letters a reading holds, each counted each time it is reached (what is shared counts as often as it is met; a slice's spare places count too). A statement '..UptoSaid' is the law's where the arguments, and the package variables that the reading takes, are together of bulk at most 1048576: NARROWER than '..Said'. Prove '..Said' where nothing that the law and all that it calls make is longer than what came in: it says more and counts as full. Else prove '..UptoSaid'. A law counts once. -/
mutual
def uptoBulk {H : Type} : DataW H → Nat
  | .lit (.string bytes) => bytes.length + 1
  | .lit _ => 1
  | .nil => 1
  | .ptr d => uptoBulk d + 1
  | .slice elems spare => uptoBulkAll elems + uptoBulkAll spare + 1
  | .agg parts => uptoBulkAll parts + 1
  | .iface _ d => uptoBulk d + 1
  | .map entries => uptoBulkEntries entries + 1
  | .held _ => 1
def uptoBulkAll {H : Type} : List (DataW H) → Nat
  | [] => 0
  | d :: r => uptoBulk d + uptoBulkAll r
def uptoBulkEntries {H : Type} : List (Lit × DataW H) → Nat
  | [] => 0
  | x :: r => uptoBulkEntry x + uptoBulkEntries r
def uptoBulkEntry {H : Type} : Lit × DataW H → Nat
  | (.string bytes, d) => bytes.length + uptoBulk d + 1
  | (_, d) => uptoBulk d + 1
 end
def uptoSmall : (H : Type) → List (DataW H) → Bool := fun _ ds => decide (uptoBulkAll ds ≤ 1048576)
def OpenSpec.upto (s : _root_.Go.ChangeSpec) : _root_.Go.OpenSpec := { _root_.Go.OpenSpec.ofChange s with cond := some uptoSmall }

/-- 'laws.FnExactMeetCount', WHERE WHAT IT READS IS OF BULK AT MOST 1048576: true; the input reads as it did. -/
def fnExactMeetCountUptoRow : OpenClaim := { program := "ythmekfijpfghkaa", sum := "de8582012c5d26ce1c26a1f825daa7bdc3a78d1b566bc2d694e8554180b9ae48", func := "loop.example/ephemeris/laws.FnExactMeetCount", spec := "fnExactMeetCount", apart := false, narrowed := true }
def FnExactMeetCountUptoSaid : Prop := fnExactMeetCountUptoRow.holds Try.pinned (OpenSpec.upto fnExactMeetCountSpec)

/-- 'laws.FnMeetCount', WHERE WHAT IT READS IS OF BULK AT MOST 1048576: true; the input reads as it did. -/
def fnMeetCountUptoRow : OpenClaim := { program := "ythmekfijpfghkaa", sum := "de8582012c5d26ce1c26a1f825daa7bdc3a78d1b566bc2d694e8554180b9ae48", func := "loop.example/ephemeris/laws.FnMeetCount", spec := "fnMeetCount", apart := false, narrowed := true }
def FnMeetCountUptoSaid : Prop := fnMeetCountUptoRow.holds Try.pinned (OpenSpec.upto fnMeetCountSpec)

/-- 'laws.FnExactLetterTake', WHERE WHAT IT READS IS OF BULK AT MOST 1048576: true; the input reads as it did. -/
def fnExactLetterTakeUptoRow : OpenClaim := { program := "ythmekfijpfghkaa", sum := "de8582012c5d26ce1c26a1f825daa7bdc3a78d1b566bc2d694e8554180b9ae48", func := "loop.example/ephemeris/laws.FnExactLetterTake", spec := "fnExactLetterTake", apart := false, narrowed := true }
def FnExactLetterTakeUptoSaid : Prop := fnExactLetterTakeUptoRow.holds Try.pinned (OpenSpec.upto fnExactLetterTakeSpec)

/-- 'laws.FnExactMeetLetter', WHERE WHAT IT READS IS OF BULK AT MOST 1048576: true; the input reads as it did. -/
def fnExactMeetLetterUptoRow : OpenClaim := { program := "ythmekfijpfghkaa", sum := "de8582012c5d26ce1c26a1f825daa7bdc3a78d1b566bc2d694e8554180b9ae48", func := "loop.example/ephemeris/laws.FnExactMeetLetter", spec := "fnExactMeetLetter", apart := false, narrowed := true }
def FnExactMeetLetterUptoSaid : Prop := fnExactMeetLetterUptoRow.holds Try.pinned (OpenSpec.upto fnExactMeetLetterSpec)

/-- 'laws.FnLetterTake', WHERE WHAT IT READS IS OF BULK AT MOST 1048576: true; the input reads as it did. -/
def fnLetterTakeUptoRow : OpenClaim := { program := "ythmekfijpfghkaa", sum := "de8582012c5d26ce1c26a1f825daa7bdc3a78d1b566bc2d694e8554180b9ae48", func := "loop.example/ephemeris/laws.FnLetterTake", spec := "fnLetterTake", apart := false, narrowed := true }
def FnLetterTakeUptoSaid : Prop := fnLetterTakeUptoRow.holds Try.pinned (OpenSpec.upto fnLetterTakeSpec)

end Rows
end Go.Proofs.Ythmekfijpfghkaa
