/-
  No cell of these rows narrows 'for every input' (looked for: loops, veiled, ifaces, maps, wideKeys, modest, calm, conditions, laid).
  DERIVED. THE GIVEN ROWS OF THIS SEAT. 8 by the template 'for every input the law returns true; each argument reads behind the call as it read before'; 0 by the template 'total and deterministic' (their statements: YtcnemmmgnpociaaTotals.lean).
  GIVEN WITH THE SEED: the statements are not yours to turn. If you find one false, say at which input.
  Laid BY PROGRAM, IN A SANDBOX (cutbox-rows.mjs): the forced cells as the released guide's own fill.sh prints them over the translation 95fc86e6dd87c54c… (all of the seat's roots in one cut). By AI agents, Wed Nov 11 2026. No macro, syntax, notation, axiom, sorry.
-/
import Derived.Test.YtcnemmmgnpociaaChecked
import GoSem.Claim
import GoSem.ClaimJoined
import GoSem.ClaimMapViews
import Derived.JoinedTies
import Derived.KernelRfl
namespace Go.Proofs.Ytcnemmmgnpociaa
/- THE CELL 'sum', in the pinned program and in every row, IS THE sha256 OF THE DUMP (.gsa) THAT YtcnemmmgnpociaaProg.lean LOADS. Nothing in Lean hashes anything: it is a label: what it is worth is what the hold of that sum in a sandbox is worth. -/
noncomputable def Try.pinned : Pinned := { name := "ytcnemmmgnpociaa", sum := "95fc86e6dd87c54c3f305c534d1c2e25033a0a1871a1e7b799d0875037c05fb4", checked := Try.checked }
namespace Rows
def none {H : Type} : Left H := { results := [], args := [] }

/-- 'laws.FnExactSpansOk': WHATEVER THE INPUT: true; the input reads as it did. -/
def fnExactSpansOkSpec : ChangeSpec := { name := "fnExactSpansOk", fn := fun _ => fun
  | [d] => { results := [.lit (.bool true)], args := [d] }
  | _ => none }
def fnExactSpansOkRow : OpenClaim := { program := "ytcnemmmgnpociaa", sum := "95fc86e6dd87c54c3f305c534d1c2e25033a0a1871a1e7b799d0875037c05fb4", func := "loop.example/ephemeris/laws.FnExactSpansOk", spec := "fnExactSpansOk", apart := false }
def FnExactSpansOkSaid : Prop := fnExactSpansOkRow.holds Try.pinned (OpenSpec.ofChange fnExactSpansOkSpec)

/-- ITS FALSE NEIGHBOUR: 'it returns false'. Refute it at one input. -/
def fnExactSpansOkWrong : ChangeSpec := { name := "fnExactSpansOk", fn := fun _ => fun
  | [d] => { results := [.lit (.bool false)], args := [d] }
  | _ => none }
def FnExactSpansOkWrongFalsely : Prop := fnExactSpansOkRow.holds Try.pinned (OpenSpec.ofChange fnExactSpansOkWrong)

/-- 'laws.FnExactSpanSize': WHATEVER THE INPUT: true; the input reads as it did. -/
def fnExactSpanSizeSpec : ChangeSpec := { name := "fnExactSpanSize", fn := fun _ => fun
  | [d] => { results := [.lit (.bool true)], args := [d] }
  | _ => none }
def fnExactSpanSizeRow : OpenClaim := { program := "ytcnemmmgnpociaa", sum := "95fc86e6dd87c54c3f305c534d1c2e25033a0a1871a1e7b799d0875037c05fb4", func := "loop.example/ephemeris/laws.FnExactSpanSize", spec := "fnExactSpanSize", apart := false }
def FnExactSpanSizeSaid : Prop := fnExactSpanSizeRow.holds Try.pinned (OpenSpec.ofChange fnExactSpanSizeSpec)

/-- ITS FALSE NEIGHBOUR: 'it returns false'. Refute it at one input. -/
def fnExactSpanSizeWrong : ChangeSpec := { name := "fnExactSpanSize", fn := fun _ => fun
  | [d] => { results := [.lit (.bool false)], args := [d] }
  | _ => none }
def FnExactSpanSizeWrongFalsely : Prop := fnExactSpanSizeRow.holds Try.pinned (OpenSpec.ofChange fnExactSpanSizeWrong)

/-- 'laws.FnExactFree': WHATEVER THE INPUT: true; the input reads as it did. -/
def fnExactFreeSpec : ChangeSpec := { name := "fnExactFree", fn := fun _ => fun
  | [d1, d2, d3] => { results := [.lit (.bool true)], args := [d1, d2, d3] }
  | _ => none }
def fnExactFreeRow : OpenClaim := { program := "ytcnemmmgnpociaa", sum := "95fc86e6dd87c54c3f305c534d1c2e25033a0a1871a1e7b799d0875037c05fb4", func := "loop.example/ephemeris/laws.FnExactFree", spec := "fnExactFree", unfollowed := true, recurses := true, apart := false }
def FnExactFreeSaid : Prop := fnExactFreeRow.holds Try.pinned (OpenSpec.ofChange fnExactFreeSpec)

/-- ITS FALSE NEIGHBOUR: 'it returns false'. Refute it at one input. -/
def fnExactFreeWrong : ChangeSpec := { name := "fnExactFree", fn := fun _ => fun
  | [d1, d2, d3] => { results := [.lit (.bool false)], args := [d1, d2, d3] }
  | _ => none }
def FnExactFreeWrongFalsely : Prop := fnExactFreeRow.holds Try.pinned (OpenSpec.ofChange fnExactFreeWrong)

/-- 'laws.FnExactSlotFirst': WHATEVER THE INPUT: true; the input reads as it did. -/
def fnExactSlotFirstSpec : ChangeSpec := { name := "fnExactSlotFirst", fn := fun _ => fun
  | [d1, d2, d3, d4] => { results := [.lit (.bool true)], args := [d1, d2, d3, d4] }
  | _ => none }
def fnExactSlotFirstRow : OpenClaim := { program := "ytcnemmmgnpociaa", sum := "95fc86e6dd87c54c3f305c534d1c2e25033a0a1871a1e7b799d0875037c05fb4", func := "loop.example/ephemeris/laws.FnExactSlotFirst", spec := "fnExactSlotFirst", unfollowed := true, recurses := true, apart := false }
def FnExactSlotFirstSaid : Prop := fnExactSlotFirstRow.holds Try.pinned (OpenSpec.ofChange fnExactSlotFirstSpec)

/-- ITS FALSE NEIGHBOUR: 'it returns false'. Refute it at one input. -/
def fnExactSlotFirstWrong : ChangeSpec := { name := "fnExactSlotFirst", fn := fun _ => fun
  | [d1, d2, d3, d4] => { results := [.lit (.bool false)], args := [d1, d2, d3, d4] }
  | _ => none }
def FnExactSlotFirstWrongFalsely : Prop := fnExactSlotFirstRow.holds Try.pinned (OpenSpec.ofChange fnExactSlotFirstWrong)

/-- 'laws.FnSpansOk': WHATEVER THE INPUT: true; the input reads as it did. -/
def fnSpansOkSpec : ChangeSpec := { name := "fnSpansOk", fn := fun _ => fun
  | [d] => { results := [.lit (.bool true)], args := [d] }
  | _ => none }
def fnSpansOkRow : OpenClaim := { program := "ytcnemmmgnpociaa", sum := "95fc86e6dd87c54c3f305c534d1c2e25033a0a1871a1e7b799d0875037c05fb4", func := "loop.example/ephemeris/laws.FnSpansOk", spec := "fnSpansOk", unfollowed := true, recurses := true, apart := false }
def FnSpansOkSaid : Prop := fnSpansOkRow.holds Try.pinned (OpenSpec.ofChange fnSpansOkSpec)

/-- ITS FALSE NEIGHBOUR: 'it returns false'. Refute it at one input. -/
def fnSpansOkWrong : ChangeSpec := { name := "fnSpansOk", fn := fun _ => fun
  | [d] => { results := [.lit (.bool false)], args := [d] }
  | _ => none }
def FnSpansOkWrongFalsely : Prop := fnSpansOkRow.holds Try.pinned (OpenSpec.ofChange fnSpansOkWrong)

/-- 'laws.FnFree': WHATEVER THE INPUT: true; the input reads as it did. -/
def fnFreeSpec : ChangeSpec := { name := "fnFree", fn := fun _ => fun
  | [d1, d2] => { results := [.lit (.bool true)], args := [d1, d2] }
  | _ => none }
def fnFreeRow : OpenClaim := { program := "ytcnemmmgnpociaa", sum := "95fc86e6dd87c54c3f305c534d1c2e25033a0a1871a1e7b799d0875037c05fb4", func := "loop.example/ephemeris/laws.FnFree", spec := "fnFree", unfollowed := true, recurses := true, apart := false }
def FnFreeSaid : Prop := fnFreeRow.holds Try.pinned (OpenSpec.ofChange fnFreeSpec)

/-- ITS FALSE NEIGHBOUR: 'it returns false'. Refute it at one input. -/
def fnFreeWrong : ChangeSpec := { name := "fnFree", fn := fun _ => fun
  | [d1, d2] => { results := [.lit (.bool false)], args := [d1, d2] }
  | _ => none }
def FnFreeWrongFalsely : Prop := fnFreeRow.holds Try.pinned (OpenSpec.ofChange fnFreeWrong)

/-- 'laws.FnSlotFirst': WHATEVER THE INPUT: true; the input reads as it did. -/
def fnSlotFirstSpec : ChangeSpec := { name := "fnSlotFirst", fn := fun _ => fun
  | [d] => { results := [.lit (.bool true)], args := [d] }
  | _ => none }
def fnSlotFirstRow : OpenClaim := { program := "ytcnemmmgnpociaa", sum := "95fc86e6dd87c54c3f305c534d1c2e25033a0a1871a1e7b799d0875037c05fb4", func := "loop.example/ephemeris/laws.FnSlotFirst", spec := "fnSlotFirst", unfollowed := true, recurses := true, apart := false }
def FnSlotFirstSaid : Prop := fnSlotFirstRow.holds Try.pinned (OpenSpec.ofChange fnSlotFirstSpec)

/-- ITS FALSE NEIGHBOUR: 'it returns false'. Refute it at one input. -/
def fnSlotFirstWrong : ChangeSpec := { name := "fnSlotFirst", fn := fun _ => fun
  | [d] => { results := [.lit (.bool false)], args := [d] }
  | _ => none }
def FnSlotFirstWrongFalsely : Prop := fnSlotFirstRow.holds Try.pinned (OpenSpec.ofChange fnSlotFirstWrong)

/-- 'laws.FnSlotLess': WHATEVER THE INPUT: true; the input reads as it did. -/
def fnSlotLessSpec : ChangeSpec := { name := "fnSlotLess", fn := fun _ => fun
  | [d] => { results := [.lit (.bool true)], args := [d] }
  | _ => none }
def fnSlotLessRow : OpenClaim := { program := "ytcnemmmgnpociaa", sum := "95fc86e6dd87c54c3f305c534d1c2e25033a0a1871a1e7b799d0875037c05fb4", func := "loop.example/ephemeris/laws.FnSlotLess", spec := "fnSlotLess", unfollowed := true, recurses := true, apart := false }
def FnSlotLessSaid : Prop := fnSlotLessRow.holds Try.pinned (OpenSpec.ofChange fnSlotLessSpec)

/-- ITS FALSE NEIGHBOUR: 'it returns false'. Refute it at one input. -/
def fnSlotLessWrong : ChangeSpec := { name := "fnSlotLess", fn := fun _ => fun
  | [d] => { results := [.lit (.bool false)], args := [d] }
  | _ => none }
def FnSlotLessWrongFalsely : Prop := fnSlotLessRow.holds Try.pinned (OpenSpec.ofChange fnSlotLessWrong)

/- THE SECOND FORM. 'bulk': how many values and letters a reading holds, each counted each time it is reached (what is shared counts as often as it is met; a slice's spare places count too). A statement '..UptoSaid' is the law's where the arguments, and the package variables that the reading takes, are together of bulk at most 1048576: NARROWER than '..Said'. Prove '..Said' where nothing that the law and all that it calls make is longer than what came in: it says more and counts as full. Else prove '..UptoSaid'. A law counts once. -/
mutual
def uptoBulk {H : Type} : DataW H → Nat
  | .lit (.string bytes) => bytes.length + 1
  | .lit _ => 1
  | .nil => 1
  | .ptr d => uptoBulk d + 1
  | .slice elems spare => uptoBulkAll elems + uptoBulkAll spare + 1
  | .agg parts => uptoBulkAll parts + 1
  | .iface _ d => uptoBulk d + 1
  | .map entries => uptoBulkEntries entries + 1
  | .held _ => 1
def uptoBulkAll {H : Type} : List (DataW H) → Nat
  | [] => 0
  | d :: r => uptoBulk d + uptoBulkAll r
def uptoBulkEntries {H : Type} : List (Lit × DataW H) → Nat
  | [] => 0
  | x :: r => uptoBulkEntry x + uptoBulkEntries r
def uptoBulkEntry {H : Type} : Lit × DataW H → Nat
  | (.string bytes, d) => bytes.length + uptoBulk d + 1
  | (_, d) => uptoBulk d + 1
 end
def uptoSmall : (H : Type) → List (DataW H) → Bool := fun _ ds => decide (uptoBulkAll ds ≤ 1048576)
def OpenSpec.upto (s : _root_.Go.ChangeSpec) : _root_.Go.OpenSpec := { _root_.Go.OpenSpec.ofChange s with cond := some uptoSmall }

/-- 'laws.FnExactSpansOk', WHERE WHAT IT READS IS OF BULK AT MOST 1048576: true; the input reads as it did. -/
def fnExactSpansOkUptoRow : OpenClaim := { program := "ytcnemmmgnpociaa", sum := "95fc86e6dd87c54c3f305c534d1c2e25033a0a1871a1e7b799d0875037c05fb4", func := "loop.example/ephemeris/laws.FnExactSpansOk", spec := "fnExactSpansOk", apart := false, narrowed := true }
def FnExactSpansOkUptoSaid : Prop := fnExactSpansOkUptoRow.holds Try.pinned (OpenSpec.upto fnExactSpansOkSpec)

/-- 'laws.FnExactSpanSize', WHERE WHAT IT READS IS OF BULK AT MOST 1048576: true; the input reads as it did. -/
def fnExactSpanSizeUptoRow : OpenClaim := { program := "ytcnemmmgnpociaa", sum := "95fc86e6dd87c54c3f305c534d1c2e25033a0a1871a1e7b799d0875037c05fb4", func := "loop.example/ephemeris/laws.FnExactSpanSize", spec := "fnExactSpanSize", apart := false, narrowed := true }
def FnExactSpanSizeUptoSaid : Prop := fnExactSpanSizeUptoRow.holds Try.pinned (OpenSpec.upto fnExactSpanSizeSpec)

/-- 'laws.FnExactFree', WHERE WHAT IT READS IS OF BULK AT MOST 1048576: true; the input reads as it did. -/
def fnExactFreeUptoRow : OpenClaim := { program := "ytcnemmmgnpociaa", sum := "95fc86e6dd87c54c3f305c534d1c2e25033a0a1871a1e7b799d0875037c05fb4", func := "loop.example/ephemeris/laws.FnExactFree", spec := "fnExactFree", unfollowed := true, recurses := true, apart := false, narrowed := true }
def FnExactFreeUptoSaid : Prop := fnExactFreeUptoRow.holds Try.pinned (OpenSpec.upto fnExactFreeSpec)

/-- 'laws.FnExactSlotFirst', WHERE WHAT IT READS IS OF BULK AT MOST 1048576: true; the input reads as it did. -/
def fnExactSlotFirstUptoRow : OpenClaim := { program := "ytcnemmmgnpociaa", sum := "95fc86e6dd87c54c3f305c534d1c2e25033a0a1871a1e7b799d0875037c05fb4", func := "loop.example/ephemeris/laws.FnExactSlotFirst", spec := "fnExactSlotFirst", unfollowed := true, recurses := true, apart := false, narrowed := true }
def FnExactSlotFirstUptoSaid : Prop := fnExactSlotFirstUptoRow.holds Try.pinned (OpenSpec.upto fnExactSlotFirstSpec)

/-- 'laws.FnSpansOk', WHERE WHAT IT READS IS OF BULK AT MOST 1048576: true; the input reads as it did. -/
def fnSpansOkUptoRow : OpenClaim := { program := "ytcnemmmgnpociaa", sum := "95fc86e6dd87c54c3f305c534d1c2e25033a0a1871a1e7b799d0875037c05fb4", func := "loop.example/ephemeris/laws.FnSpansOk", spec := "fnSpansOk", unfollowed := true, recurses := true, apart := false, narrowed := true }
def FnSpansOkUptoSaid : Prop := fnSpansOkUptoRow.holds Try.pinned (OpenSpec.upto fnSpansOkSpec)

/-- 'laws.FnFree', WHERE WHAT IT READS IS OF BULK AT MOST 1048576: true; the input reads as it did. -/
def fnFreeUptoRow : OpenClaim := { program := "ytcnemmmgnpociaa", sum := "95fc86e6dd87c54c3f305c534d1c2e25033a0a1871a1e7b799d0875037c05fb4", func := "loop.example/ephemeris/laws.FnFree", spec := "fnFree", unfollowed := true, recurses := true, apart := false, narrowed := true }
def FnFreeUptoSaid : Prop := fnFreeUptoRow.holds Try.pinned (OpenSpec.upto fnFreeSpec)

/-- 'laws.FnSlotFirst', WHERE WHAT IT READS IS OF BULK AT MOST 1048576: true; the input reads as it did. -/
def fnSlotFirstUptoRow : OpenClaim := { program := "ytcnemmmgnpociaa", sum := "95fc86e6dd87c54c3f305c534d1c2e25033a0a1871a1e7b799d0875037c05fb4", func := "loop.example/ephemeris/laws.FnSlotFirst", spec := "fnSlotFirst", unfollowed := true, recurses := true, apart := false, narrowed := true }
def FnSlotFirstUptoSaid : Prop := fnSlotFirstUptoRow.holds Try.pinned (OpenSpec.upto fnSlotFirstSpec)

/-- 'laws.FnSlotLess', WHERE WHAT IT READS IS OF BULK AT MOST 1048576: true; the input reads as it did. -/
def fnSlotLessUptoRow : OpenClaim := { program := "ytcnemmmgnpociaa", sum := "95fc86e6dd87c54c3f305c534d1c2e25033a0a1871a1e7b799d0875037c05fb4", func := "loop.example/ephemeris/laws.FnSlotLess", spec := "fnSlotLess", unfollowed := true, recurses := true, apart := false, narrowed := true }
def FnSlotLessUptoSaid : Prop := fnSlotLessUptoRow.holds Try.pinned (OpenSpec.upto fnSlotLessSpec)

end Rows
end Go.Proofs.Ytcnemmmgnpociaa
