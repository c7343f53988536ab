/-
  No cell of these rows narrows 'for every input' (looked for: loops, veiled, ifaces, maps, wideKeys, modest, calm, conditions, laid).
  DERIVED. THE GIVEN ROWS OF THIS SEAT. 10 by the template 'for every input the law returns true; each argument reads behind the call as it read before'; 0 by the template 'total and deterministic' (their statements: YtkbgbccehijckaaTotals.lean).
  GIVEN WITH THE SEED: the statements are not yours to turn. If you find one false, say at which input.
  Laid BY PROGRAM, IN A SANDBOX (cutbox-rows.mjs): the forced cells as the released guide's own fill.sh prints them over the translation 7e719aae411d9e1a… (all of the seat's roots in one cut). By AI agents, Wed Nov 11 2026. No macro, syntax, notation, axiom, sorry.
-/
import Derived.Test.YtkbgbccehijckaaChecked
import GoSem.Claim
import GoSem.ClaimJoined
import GoSem.ClaimMapViews
import Derived.JoinedTies
import Derived.KernelRfl
namespace Go.Proofs.Ytkbgbccehijckaa
/- THE CELL 'sum', in the pinned program and in every row, IS THE sha256 OF THE DUMP (.gsa) THAT YtkbgbccehijckaaProg.lean LOADS. Nothing in Lean hashes anything: it is a label: what it is worth is what the hold of that sum in a sandbox is worth. -/
noncomputable def Try.pinned : Pinned := { name := "ytkbgbccehijckaa", sum := "7e719aae411d9e1a7e90c8dda1892044e41eb098f2ce4ed4681fcd47e3f1e70d", checked := Try.checked }
namespace Rows
def none {H : Type} : Left H := { results := [], args := [] }

/-- 'laws.FnExactFree': WHATEVER THE INPUT: true; the input reads as it did. -/
def fnExactFreeSpec : ChangeSpec := { name := "fnExactFree", fn := fun _ => fun
  | [d1, d2, d3] => { results := [.lit (.bool true)], args := [d1, d2, d3] }
  | _ => none }
def fnExactFreeRow : OpenClaim := { program := "ytkbgbccehijckaa", sum := "7e719aae411d9e1a7e90c8dda1892044e41eb098f2ce4ed4681fcd47e3f1e70d", func := "loop.example/ephemeris/laws.FnExactFree", spec := "fnExactFree", unfollowed := true, recurses := true, apart := false }
def FnExactFreeSaid : Prop := fnExactFreeRow.holds Try.pinned (OpenSpec.ofChange fnExactFreeSpec)

/-- ITS FALSE NEIGHBOUR: 'it returns false'. Refute it at one input. -/
def fnExactFreeWrong : ChangeSpec := { name := "fnExactFree", fn := fun _ => fun
  | [d1, d2, d3] => { results := [.lit (.bool false)], args := [d1, d2, d3] }
  | _ => none }
def FnExactFreeWrongFalsely : Prop := fnExactFreeRow.holds Try.pinned (OpenSpec.ofChange fnExactFreeWrong)

/-- 'laws.FnExactSlotFirst': WHATEVER THE INPUT: true; the input reads as it did. -/
def fnExactSlotFirstSpec : ChangeSpec := { name := "fnExactSlotFirst", fn := fun _ => fun
  | [d1, d2, d3, d4] => { results := [.lit (.bool true)], args := [d1, d2, d3, d4] }
  | _ => none }
def fnExactSlotFirstRow : OpenClaim := { program := "ytkbgbccehijckaa", sum := "7e719aae411d9e1a7e90c8dda1892044e41eb098f2ce4ed4681fcd47e3f1e70d", func := "loop.example/ephemeris/laws.FnExactSlotFirst", spec := "fnExactSlotFirst", unfollowed := true, recurses := true, apart := false }
def FnExactSlotFirstSaid : Prop := fnExactSlotFirstRow.holds Try.pinned (OpenSpec.ofChange fnExactSlotFirstSpec)

/-- ITS FALSE NEIGHBOUR: 'it returns false'. Refute it at one input. -/
def fnExactSlotFirstWrong : ChangeSpec := { name := "fnExactSlotFirst", fn := fun _ => fun
  | [d1, d2, d3, d4] => { results := [.lit (.bool false)], args := [d1, d2, d3, d4] }
  | _ => none }
def FnExactSlotFirstWrongFalsely : Prop := fnExactSlotFirstRow.holds Try.pinned (OpenSpec.ofChange fnExactSlotFirstWrong)

/-- 'laws.FnFree': WHATEVER THE INPUT: true; the input reads as it did. -/
def fnFreeSpec : ChangeSpec := { name := "fnFree", fn := fun _ => fun
  | [d1, d2] => { results := [.lit (.bool true)], args := [d1, d2] }
  | _ => none }
def fnFreeRow : OpenClaim := { program := "ytkbgbccehijckaa", sum := "7e719aae411d9e1a7e90c8dda1892044e41eb098f2ce4ed4681fcd47e3f1e70d", func := "loop.example/ephemeris/laws.FnFree", spec := "fnFree", unfollowed := true, recurses := true, apart := false }
def FnFreeSaid : Prop := fnFreeRow.holds Try.pinned (OpenSpec.ofChange fnFreeSpec)

/-- ITS FALSE NEIGHBOUR: 'it returns false'. Refute it at one input. -/
def fnFreeWrong : ChangeSpec := { name := "fnFree", fn := fun _ => fun
  | [d1, d2] => { results := [.lit (.bool false)], args := [d1, d2] }
  | _ => none }
def FnFreeWrongFalsely : Prop := fnFreeRow.holds Try.pinned (OpenSpec.ofChange fnFreeWrong)

/-- 'laws.FnSlotFirst': WHATEVER THE INPUT: true; the input reads as it did. -/
def fnSlotFirstSpec : ChangeSpec := { name := "fnSlotFirst", fn := fun _ => fun
  | [d] => { results := [.lit (.bool true)], args := [d] }
  | _ => none }
def fnSlotFirstRow : OpenClaim := { program := "ytkbgbccehijckaa", sum := "7e719aae411d9e1a7e90c8dda1892044e41eb098f2ce4ed4681fcd47e3f1e70d", func := "loop.example/ephemeris/laws.FnSlotFirst", spec := "fnSlotFirst", unfollowed := true, recurses := true, apart := false }
def FnSlotFirstSaid : Prop := fnSlotFirstRow.holds Try.pinned (OpenSpec.ofChange fnSlotFirstSpec)

/-- ITS FALSE NEIGHBOUR: 'it returns false'. Refute it at one input. -/
def fnSlotFirstWrong : ChangeSpec := { name := "fnSlotFirst", fn := fun _ => fun
  | [d] => { results := [.lit (.bool false)], args := [d] }
  | _ => none }
def FnSlotFirstWrongFalsely : Prop := fnSlotFirstRow.holds Try.pinned (OpenSpec.ofChange fnSlotFirstWrong)

/-- 'laws.FnSlotLess': WHATEVER THE INPUT: true; the input reads as it did. -/
def fnSlotLessSpec : ChangeSpec := { name := "fnSlotLess", fn := fun _ => fun
  | [d] => { results := [.lit (.bool true)], args := [d] }
  | _ => none }
def fnSlotLessRow : OpenClaim := { program := "ytkbgbccehijckaa", sum := "7e719aae411d9e1a7e90c8dda1892044e41eb098f2ce4ed4681fcd47e3f1e70d", func := "loop.example/ephemeris/laws.FnSlotLess", spec := "fnSlotLess", unfollowed := true, recurses := true, apart := false }
def FnSlotLessSaid : Prop := fnSlotLessRow.holds Try.pinned (OpenSpec.ofChange fnSlotLessSpec)

/-- ITS FALSE NEIGHBOUR: 'it returns false'. Refute it at one input. -/
def fnSlotLessWrong : ChangeSpec := { name := "fnSlotLess", fn := fun _ => fun
  | [d] => { results := [.lit (.bool false)], args := [d] }
  | _ => none }
def FnSlotLessWrongFalsely : Prop := fnSlotLessRow.holds Try.pinned (OpenSpec.ofChange fnSlotLessWrong)

/-- 'laws.FnExactSpansBoth': WHATEVER THE INPUT: true; the input reads as it did. -/
def fnExactSpansBothSpec : ChangeSpec := { name := "fnExactSpansBoth", fn := fun _ => fun
  | [d1, d2] => { results := [.lit (.bool true)], args := [d1, d2] }
  | _ => none }
def fnExactSpansBothRow : OpenClaim := { program := "ytkbgbccehijckaa", sum := "7e719aae411d9e1a7e90c8dda1892044e41eb098f2ce4ed4681fcd47e3f1e70d", func := "loop.example/ephemeris/laws.FnExactSpansBoth", spec := "fnExactSpansBoth", unfollowed := true, recurses := true, apart := false }
def FnExactSpansBothSaid : Prop := fnExactSpansBothRow.holds Try.pinned (OpenSpec.ofChange fnExactSpansBothSpec)

/-- ITS FALSE NEIGHBOUR: 'it returns false'. Refute it at one input. -/
def fnExactSpansBothWrong : ChangeSpec := { name := "fnExactSpansBoth", fn := fun _ => fun
  | [d1, d2] => { results := [.lit (.bool false)], args := [d1, d2] }
  | _ => none }
def FnExactSpansBothWrongFalsely : Prop := fnExactSpansBothRow.holds Try.pinned (OpenSpec.ofChange fnExactSpansBothWrong)

/-- 'laws.FnExactSpansLess': WHATEVER THE INPUT: true; the input reads as it did. -/
def fnExactSpansLessSpec : ChangeSpec := { name := "fnExactSpansLess", fn := fun _ => fun
  | [d1, d2] => { results := [.lit (.bool true)], args := [d1, d2] }
  | _ => none }
def fnExactSpansLessRow : OpenClaim := { program := "ytkbgbccehijckaa", sum := "7e719aae411d9e1a7e90c8dda1892044e41eb098f2ce4ed4681fcd47e3f1e70d", func := "loop.example/ephemeris/laws.FnExactSpansLess", spec := "fnExactSpansLess", unfollowed := true, recurses := true, apart := false }
def FnExactSpansLessSaid : Prop := fnExactSpansLessRow.holds Try.pinned (OpenSpec.ofChange fnExactSpansLessSpec)

/-- ITS FALSE NEIGHBOUR: 'it returns false'. Refute it at one input. -/
def fnExactSpansLessWrong : ChangeSpec := { name := "fnExactSpansLess", fn := fun _ => fun
  | [d1, d2] => { results := [.lit (.bool false)], args := [d1, d2] }
  | _ => none }
def FnExactSpansLessWrongFalsely : Prop := fnExactSpansLessRow.holds Try.pinned (OpenSpec.ofChange fnExactSpansLessWrong)

/-- 'laws.FnSpansBoth': WHATEVER THE INPUT: true; the input reads as it did. -/
def fnSpansBothSpec : ChangeSpec := { name := "fnSpansBoth", fn := fun _ => fun
  | [d1, d2] => { results := [.lit (.bool true)], args := [d1, d2] }
  | _ => none }
def fnSpansBothRow : OpenClaim := { program := "ytkbgbccehijckaa", sum := "7e719aae411d9e1a7e90c8dda1892044e41eb098f2ce4ed4681fcd47e3f1e70d", func := "loop.example/ephemeris/laws.FnSpansBoth", spec := "fnSpansBoth", unfollowed := true, recurses := true, apart := false }
def FnSpansBothSaid : Prop := fnSpansBothRow.holds Try.pinned (OpenSpec.ofChange fnSpansBothSpec)

/-- ITS FALSE NEIGHBOUR: 'it returns false'. Refute it at one input. -/
def fnSpansBothWrong : ChangeSpec := { name := "fnSpansBoth", fn := fun _ => fun
  | [d1, d2] => { results := [.lit (.bool false)], args := [d1, d2] }
  | _ => none }
def FnSpansBothWrongFalsely : Prop := fnSpansBothRow.holds Try.pinned (OpenSpec.ofChange fnSpansBothWrong)

/-- 'laws.FnExactSlotList': WHATEVER THE INPUT: true; the input reads as it did. -/
def fnExactSlotListSpec : ChangeSpec := { name := "fnExactSlotList", fn := fun _ => fun
  | [d1, d2, d3, d4, d5] => { results := [.lit (.bool true)], args := [d1, d2, d3, d4, d5] }
  | _ => none }
def fnExactSlotListRow : OpenClaim := { program := "ytkbgbccehijckaa", sum := "7e719aae411d9e1a7e90c8dda1892044e41eb098f2ce4ed4681fcd47e3f1e70d", func := "loop.example/ephemeris/laws.FnExactSlotList", spec := "fnExactSlotList", unfollowed := true, recurses := true, apart := false }
def FnExactSlotListSaid : Prop := fnExactSlotListRow.holds Try.pinned (OpenSpec.ofChange fnExactSlotListSpec)

/-- ITS FALSE NEIGHBOUR: 'it returns false'. Refute it at one input. -/
def fnExactSlotListWrong : ChangeSpec := { name := "fnExactSlotList", fn := fun _ => fun
  | [d1, d2, d3, d4, d5] => { results := [.lit (.bool false)], args := [d1, d2, d3, d4, d5] }
  | _ => none }
def FnExactSlotListWrongFalsely : Prop := fnExactSlotListRow.holds Try.pinned (OpenSpec.ofChange fnExactSlotListWrong)

/-- 'laws.FnSlotList': WHATEVER THE INPUT: true; the input reads as it did. -/
def fnSlotListSpec : ChangeSpec := { name := "fnSlotList", fn := fun _ => fun
  | [d] => { results := [.lit (.bool true)], args := [d] }
  | _ => none }
def fnSlotListRow : OpenClaim := { program := "ytkbgbccehijckaa", sum := "7e719aae411d9e1a7e90c8dda1892044e41eb098f2ce4ed4681fcd47e3f1e70d", func := "loop.example/ephemeris/laws.FnSlotList", spec := "fnSlotList", unfollowed := true, recurses := true, apart := false }
def FnSlotListSaid : Prop := fnSlotListRow.holds Try.pinned (OpenSpec.ofChange fnSlotListSpec)

/-- ITS FALSE NEIGHBOUR: 'it returns false'. Refute it at one input. -/
def fnSlotListWrong : ChangeSpec := { name := "fnSlotList", fn := fun _ => fun
  | [d] => { results := [.lit (.bool false)], args := [d] }
  | _ => none }
def FnSlotListWrongFalsely : Prop := fnSlotListRow.holds Try.pinned (OpenSpec.ofChange fnSlotListWrong)

/- THE SECOND FORM. 'bulk': how many values and letters a reading holds, each counted each time it is reached (what is shared counts as often as it is met; a slice's spare places count too). A statement '..UptoSaid' is the law's where the arguments, and the package variables that the reading takes, are together of bulk at most 1048576: NARROWER than '..Said'. Prove '..Said' where nothing that the law and all that it calls make is longer than what came in: it says more and counts as full. Else prove '..UptoSaid'. A law counts once. -/
mutual
def uptoBulk {H : Type} : DataW H → Nat
  | .lit (.string bytes) => bytes.length + 1
  | .lit _ => 1
  | .nil => 1
  | .ptr d => uptoBulk d + 1
  | .slice elems spare => uptoBulkAll elems + uptoBulkAll spare + 1
  | .agg parts => uptoBulkAll parts + 1
  | .iface _ d => uptoBulk d + 1
  | .map entries => uptoBulkEntries entries + 1
  | .held _ => 1
def uptoBulkAll {H : Type} : List (DataW H) → Nat
  | [] => 0
  | d :: r => uptoBulk d + uptoBulkAll r
def uptoBulkEntries {H : Type} : List (Lit × DataW H) → Nat
  | [] => 0
  | x :: r => uptoBulkEntry x + uptoBulkEntries r
def uptoBulkEntry {H : Type} : Lit × DataW H → Nat
  | (.string bytes, d) => bytes.length + uptoBulk d + 1
  | (_, d) => uptoBulk d + 1
 end
def uptoSmall : (H : Type) → List (DataW H) → Bool := fun _ ds => decide (uptoBulkAll ds ≤ 1048576)
def OpenSpec.upto (s : _root_.Go.ChangeSpec) : _root_.Go.OpenSpec := { _root_.Go.OpenSpec.ofChange s with cond := some uptoSmall }

/-- 'laws.FnExactFree', WHERE WHAT IT READS IS OF BULK AT MOST 1048576: true; the input reads as it did. -/
def fnExactFreeUptoRow : OpenClaim := { program := "ytkbgbccehijckaa", sum := "7e719aae411d9e1a7e90c8dda1892044e41eb098f2ce4ed4681fcd47e3f1e70d", func := "loop.example/ephemeris/laws.FnExactFree", spec := "fnExactFree", unfollowed := true, recurses := true, apart := false, narrowed := true }
def FnExactFreeUptoSaid : Prop := fnExactFreeUptoRow.holds Try.pinned (OpenSpec.upto fnExactFreeSpec)

/-- 'laws.FnExactSlotFirst', WHERE WHAT IT READS IS OF BULK AT MOST 1048576: true; the input reads as it did. -/
def fnExactSlotFirstUptoRow : OpenClaim := { program := "ytkbgbccehijckaa", sum := "7e719aae411d9e1a7e90c8dda1892044e41eb098f2ce4ed4681fcd47e3f1e70d", func := "loop.example/ephemeris/laws.FnExactSlotFirst", spec := "fnExactSlotFirst", unfollowed := true, recurses := true, apart := false, narrowed := true }
def FnExactSlotFirstUptoSaid : Prop := fnExactSlotFirstUptoRow.holds Try.pinned (OpenSpec.upto fnExactSlotFirstSpec)

/-- 'laws.FnFree', WHERE WHAT IT READS IS OF BULK AT MOST 1048576: true; the input reads as it did. -/
def fnFreeUptoRow : OpenClaim := { program := "ytkbgbccehijckaa", sum := "7e719aae411d9e1a7e90c8dda1892044e41eb098f2ce4ed4681fcd47e3f1e70d", func := "loop.example/ephemeris/laws.FnFree", spec := "fnFree", unfollowed := true, recurses := true, apart := false, narrowed := true }
def FnFreeUptoSaid : Prop := fnFreeUptoRow.holds Try.pinned (OpenSpec.upto fnFreeSpec)

/-- 'laws.FnSlotFirst', WHERE WHAT IT READS IS OF BULK AT MOST 1048576: true; the input reads as it did. -/
def fnSlotFirstUptoRow : OpenClaim := { program := "ytkbgbccehijckaa", sum := "7e719aae411d9e1a7e90c8dda1892044e41eb098f2ce4ed4681fcd47e3f1e70d", func := "loop.example/ephemeris/laws.FnSlotFirst", spec := "fnSlotFirst", unfollowed := true, recurses := true, apart := false, narrowed := true }
def FnSlotFirstUptoSaid : Prop := fnSlotFirstUptoRow.holds Try.pinned (OpenSpec.upto fnSlotFirstSpec)

/-- 'laws.FnSlotLess', WHERE WHAT IT READS IS OF BULK AT MOST 1048576: true; the input reads as it did. -/
def fnSlotLessUptoRow : OpenClaim := { program := "ytkbgbccehijckaa", sum := "7e719aae411d9e1a7e90c8dda1892044e41eb098f2ce4ed4681fcd47e3f1e70d", func := "loop.example/ephemeris/laws.FnSlotLess", spec := "fnSlotLess", unfollowed := true, recurses := true, apart := false, narrowed := true }
def FnSlotLessUptoSaid : Prop := fnSlotLessUptoRow.holds Try.pinned (OpenSpec.upto fnSlotLessSpec)

/-- 'laws.FnExactSpansBoth', WHERE WHAT IT READS IS OF BULK AT MOST 1048576: true; the input reads as it did. -/
def fnExactSpansBothUptoRow : OpenClaim := { program := "ytkbgbccehijckaa", sum := "7e719aae411d9e1a7e90c8dda1892044e41eb098f2ce4ed4681fcd47e3f1e70d", func := "loop.example/ephemeris/laws.FnExactSpansBoth", spec := "fnExactSpansBoth", unfollowed := true, recurses := true, apart := false, narrowed := true }
def FnExactSpansBothUptoSaid : Prop := fnExactSpansBothUptoRow.holds Try.pinned (OpenSpec.upto fnExactSpansBothSpec)

/-- 'laws.FnExactSpansLess', WHERE WHAT IT READS IS OF BULK AT MOST 1048576: true; the input reads as it did. -/
def fnExactSpansLessUptoRow : OpenClaim := { program := "ytkbgbccehijckaa", sum := "7e719aae411d9e1a7e90c8dda1892044e41eb098f2ce4ed4681fcd47e3f1e70d", func := "loop.example/ephemeris/laws.FnExactSpansLess", spec := "fnExactSpansLess", unfollowed := true, recurses := true, apart := false, narrowed := true }
def FnExactSpansLessUptoSaid : Prop := fnExactSpansLessUptoRow.holds Try.pinned (OpenSpec.upto fnExactSpansLessSpec)

/-- 'laws.FnSpansBoth', WHERE WHAT IT READS IS OF BULK AT MOST 1048576: true; the input reads as it did. -/
def fnSpansBothUptoRow : OpenClaim := { program := "ytkbgbccehijckaa", sum := "7e719aae411d9e1a7e90c8dda1892044e41eb098f2ce4ed4681fcd47e3f1e70d", func := "loop.example/ephemeris/laws.FnSpansBoth", spec := "fnSpansBoth", unfollowed := true, recurses := true, apart := false, narrowed := true }
def FnSpansBothUptoSaid : Prop := fnSpansBothUptoRow.holds Try.pinned (OpenSpec.upto fnSpansBothSpec)

/-- 'laws.FnExactSlotList', WHERE WHAT IT READS IS OF BULK AT MOST 1048576: true; the input reads as it did. -/
def fnExactSlotListUptoRow : OpenClaim := { program := "ytkbgbccehijckaa", sum := "7e719aae411d9e1a7e90c8dda1892044e41eb098f2ce4ed4681fcd47e3f1e70d", func := "loop.example/ephemeris/laws.FnExactSlotList", spec := "fnExactSlotList", unfollowed := true, recurses := true, apart := false, narrowed := true }
def FnExactSlotListUptoSaid : Prop := fnExactSlotListUptoRow.holds Try.pinned (OpenSpec.upto fnExactSlotListSpec)

/-- 'laws.FnSlotList', WHERE WHAT IT READS IS OF BULK AT MOST 1048576: true; the input reads as it did. -/
def fnSlotListUptoRow : OpenClaim := { program := "ytkbgbccehijckaa", sum := "7e719aae411d9e1a7e90c8dda1892044e41eb098f2ce4ed4681fcd47e3f1e70d", func := "loop.example/ephemeris/laws.FnSlotList", spec := "fnSlotList", unfollowed := true, recurses := true, apart := false, narrowed := true }
def FnSlotListUptoSaid : Prop := fnSlotListUptoRow.holds Try.pinned (OpenSpec.upto fnSlotListSpec)

end Rows
end Go.Proofs.Ytkbgbccehijckaa
