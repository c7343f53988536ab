/-
  No cell of these rows narrows 'for every input' (looked for: loops, veiled, ifaces, maps, wideKeys, modest, calm, conditions, laid).
  DERIVED. THE GIVEN ROWS OF THIS SEAT. 8 by the template 'for every input the law returns true; each argument reads behind the call as it read before'; 0 by the template 'total and deterministic' (their statements: YtecijmdkicgemaaTotals.lean).
  GIVEN WITH THE SEED: the statements are not yours to turn. If you find one false, say at which input.
  Laid BY PROGRAM, IN A SANDBOX (cutbox-rows.mjs): the forced cells as the released guide's own fill.sh prints them over the translation d6ef4a29e40019af… (all of the seat's roots in one cut). By AI agents, Wed Nov 11 2026. No macro, syntax, notation, axiom, sorry.
-/
import Derived.Test.YtecijmdkicgemaaChecked
import GoSem.Claim
import GoSem.ClaimJoined
import GoSem.ClaimMapViews
import Derived.JoinedTies
import Derived.KernelRfl
namespace Go.Proofs.Ytecijmdkicgemaa
/- THE CELL 'sum', in the pinned program and in every row, IS THE sha256 OF THE DUMP (.gsa) THAT YtecijmdkicgemaaProg.lean LOADS. Nothing in Lean hashes anything: it is a label: what it is worth is what the hold of that sum in a sandbox is worth. -/
noncomputable def Try.pinned : Pinned := { name := "ytecijmdkicgemaa", sum := "d6ef4a29e40019afe607cd59de3f0192b3edb1c60de36db57bcfdef9586b9c4f", checked := Try.checked }
namespace Rows
def none {H : Type} : Left H := { results := [], args := [] }

/-- 'laws.FnExactTextIn': WHATEVER THE INPUT: true; the input reads as it did. -/
def fnExactTextInSpec : ChangeSpec := { name := "fnExactTextIn", fn := fun _ => fun
  | [d1, d2] => { results := [.lit (.bool true)], args := [d1, d2] }
  | _ => none }
def fnExactTextInRow : OpenClaim := { program := "ytecijmdkicgemaa", sum := "d6ef4a29e40019afe607cd59de3f0192b3edb1c60de36db57bcfdef9586b9c4f", func := "loop.example/ephemeris/laws.FnExactTextIn", spec := "fnExactTextIn", inPlace := ["internal/bytealg.IndexByteString", "internal/bytealg.IndexString"], named := ["internal/bytealg.MaxLen"], apart := false }
def FnExactTextInSaid : Prop := fnExactTextInRow.holds Try.pinned (OpenSpec.ofChange fnExactTextInSpec)

/-- ITS FALSE NEIGHBOUR: 'it returns false'. Refute it at one input. -/
def fnExactTextInWrong : ChangeSpec := { name := "fnExactTextIn", fn := fun _ => fun
  | [d1, d2] => { results := [.lit (.bool false)], args := [d1, d2] }
  | _ => none }
def FnExactTextInWrongFalsely : Prop := fnExactTextInRow.holds Try.pinned (OpenSpec.ofChange fnExactTextInWrong)

/-- 'laws.FnTextIn': WHATEVER THE INPUT: true; the input reads as it did. -/
def fnTextInSpec : ChangeSpec := { name := "fnTextIn", fn := fun _ => fun
  | [d1, d2] => { results := [.lit (.bool true)], args := [d1, d2] }
  | _ => none }
def fnTextInRow : OpenClaim := { program := "ytecijmdkicgemaa", sum := "d6ef4a29e40019afe607cd59de3f0192b3edb1c60de36db57bcfdef9586b9c4f", func := "loop.example/ephemeris/laws.FnTextIn", spec := "fnTextIn", inPlace := ["internal/bytealg.IndexByteString", "internal/bytealg.IndexString"], named := ["internal/bytealg.MaxLen"], apart := false }
def FnTextInSaid : Prop := fnTextInRow.holds Try.pinned (OpenSpec.ofChange fnTextInSpec)

/-- ITS FALSE NEIGHBOUR: 'it returns false'. Refute it at one input. -/
def fnTextInWrong : ChangeSpec := { name := "fnTextIn", fn := fun _ => fun
  | [d1, d2] => { results := [.lit (.bool false)], args := [d1, d2] }
  | _ => none }
def FnTextInWrongFalsely : Prop := fnTextInRow.holds Try.pinned (OpenSpec.ofChange fnTextInWrong)

/-- 'laws.FnExactFoundOk': WHATEVER THE INPUT: true; the input reads as it did. -/
def fnExactFoundOkSpec : ChangeSpec := { name := "fnExactFoundOk", fn := fun _ => fun
  | [d] => { results := [.lit (.bool true)], args := [d] }
  | _ => none }
def fnExactFoundOkRow : OpenClaim := { program := "ytecijmdkicgemaa", sum := "d6ef4a29e40019afe607cd59de3f0192b3edb1c60de36db57bcfdef9586b9c4f", func := "loop.example/ephemeris/laws.FnExactFoundOk", spec := "fnExactFoundOk", inPlace := ["internal/bytealg.abigen_runtime_cmpstring"], unfollowed := true, recurses := true, apart := false }
def FnExactFoundOkSaid : Prop := fnExactFoundOkRow.holds Try.pinned (OpenSpec.ofChange fnExactFoundOkSpec)

/-- ITS FALSE NEIGHBOUR: 'it returns false'. Refute it at one input. -/
def fnExactFoundOkWrong : ChangeSpec := { name := "fnExactFoundOk", fn := fun _ => fun
  | [d] => { results := [.lit (.bool false)], args := [d] }
  | _ => none }
def FnExactFoundOkWrongFalsely : Prop := fnExactFoundOkRow.holds Try.pinned (OpenSpec.ofChange fnExactFoundOkWrong)

/-- 'laws.FnExactFindNews': WHATEVER THE INPUT: true; the input reads as it did. -/
def fnExactFindNewsSpec : ChangeSpec := { name := "fnExactFindNews", fn := fun _ => fun
  | [d1, d2] => { results := [.lit (.bool true)], args := [d1, d2] }
  | _ => none }
def fnExactFindNewsRow : OpenClaim := { program := "ytecijmdkicgemaa", sum := "d6ef4a29e40019afe607cd59de3f0192b3edb1c60de36db57bcfdef9586b9c4f", func := "loop.example/ephemeris/laws.FnExactFindNews", spec := "fnExactFindNews", inPlace := ["internal/bytealg.abigen_runtime_cmpstring"], unfollowed := true, recurses := true, apart := false }
def FnExactFindNewsSaid : Prop := fnExactFindNewsRow.holds Try.pinned (OpenSpec.ofChange fnExactFindNewsSpec)

/-- ITS FALSE NEIGHBOUR: 'it returns false'. Refute it at one input. -/
def fnExactFindNewsWrong : ChangeSpec := { name := "fnExactFindNews", fn := fun _ => fun
  | [d1, d2] => { results := [.lit (.bool false)], args := [d1, d2] }
  | _ => none }
def FnExactFindNewsWrongFalsely : Prop := fnExactFindNewsRow.holds Try.pinned (OpenSpec.ofChange fnExactFindNewsWrong)

/-- 'laws.FnExactFindDo': WHATEVER THE INPUT: true; the input reads as it did. -/
def fnExactFindDoSpec : ChangeSpec := { name := "fnExactFindDo", fn := fun _ => fun
  | [d1, d2] => { results := [.lit (.bool true)], args := [d1, d2] }
  | _ => none }
def fnExactFindDoRow : OpenClaim := { program := "ytecijmdkicgemaa", sum := "d6ef4a29e40019afe607cd59de3f0192b3edb1c60de36db57bcfdef9586b9c4f", func := "loop.example/ephemeris/laws.FnExactFindDo", spec := "fnExactFindDo", inPlace := ["internal/bytealg.abigen_runtime_cmpstring", "slices.overlaps[loop.example/ephemeris/impl.Found]"], unfollowed := true, recurses := true, apart := false }
def FnExactFindDoSaid : Prop := fnExactFindDoRow.holds Try.pinned (OpenSpec.ofChange fnExactFindDoSpec)

/-- ITS FALSE NEIGHBOUR: 'it returns false'. Refute it at one input. -/
def fnExactFindDoWrong : ChangeSpec := { name := "fnExactFindDo", fn := fun _ => fun
  | [d1, d2] => { results := [.lit (.bool false)], args := [d1, d2] }
  | _ => none }
def FnExactFindDoWrongFalsely : Prop := fnExactFindDoRow.holds Try.pinned (OpenSpec.ofChange fnExactFindDoWrong)

/-- 'laws.FnFindNews': WHATEVER THE INPUT: true; the input reads as it did. -/
def fnFindNewsSpec : ChangeSpec := { name := "fnFindNews", fn := fun _ => fun
  | [d] => { results := [.lit (.bool true)], args := [d] }
  | _ => none }
def fnFindNewsRow : OpenClaim := { program := "ytecijmdkicgemaa", sum := "d6ef4a29e40019afe607cd59de3f0192b3edb1c60de36db57bcfdef9586b9c4f", func := "loop.example/ephemeris/laws.FnFindNews", spec := "fnFindNews", inPlace := ["internal/bytealg.abigen_runtime_cmpstring", "slices.overlaps[loop.example/ephemeris/impl.Found]"], unfollowed := true, recurses := true, apart := false }
def FnFindNewsSaid : Prop := fnFindNewsRow.holds Try.pinned (OpenSpec.ofChange fnFindNewsSpec)

/-- ITS FALSE NEIGHBOUR: 'it returns false'. Refute it at one input. -/
def fnFindNewsWrong : ChangeSpec := { name := "fnFindNews", fn := fun _ => fun
  | [d] => { results := [.lit (.bool false)], args := [d] }
  | _ => none }
def FnFindNewsWrongFalsely : Prop := fnFindNewsRow.holds Try.pinned (OpenSpec.ofChange fnFindNewsWrong)

/-- 'laws.FnFindDo': WHATEVER THE INPUT: true; the input reads as it did. -/
def fnFindDoSpec : ChangeSpec := { name := "fnFindDo", fn := fun _ => fun
  | [d] => { results := [.lit (.bool true)], args := [d] }
  | _ => none }
def fnFindDoRow : OpenClaim := { program := "ytecijmdkicgemaa", sum := "d6ef4a29e40019afe607cd59de3f0192b3edb1c60de36db57bcfdef9586b9c4f", func := "loop.example/ephemeris/laws.FnFindDo", spec := "fnFindDo", inPlace := ["internal/bytealg.abigen_runtime_cmpstring", "slices.overlaps[loop.example/ephemeris/impl.Found]"], unfollowed := true, recurses := true, apart := false }
def FnFindDoSaid : Prop := fnFindDoRow.holds Try.pinned (OpenSpec.ofChange fnFindDoSpec)

/-- ITS FALSE NEIGHBOUR: 'it returns false'. Refute it at one input. -/
def fnFindDoWrong : ChangeSpec := { name := "fnFindDo", fn := fun _ => fun
  | [d] => { results := [.lit (.bool false)], args := [d] }
  | _ => none }
def FnFindDoWrongFalsely : Prop := fnFindDoRow.holds Try.pinned (OpenSpec.ofChange fnFindDoWrong)

/-- 'laws.FnExactPatchBoth': WHATEVER THE INPUT: true; the input reads as it did. -/
def fnExactPatchBothSpec : ChangeSpec := { name := "fnExactPatchBoth", fn := fun _ => fun
  | [d1, d2] => { results := [.lit (.bool true)], args := [d1, d2] }
  | _ => none }
def fnExactPatchBothRow : OpenClaim := { program := "ytecijmdkicgemaa", sum := "d6ef4a29e40019afe607cd59de3f0192b3edb1c60de36db57bcfdef9586b9c4f", func := "loop.example/ephemeris/laws.FnExactPatchBoth", spec := "fnExactPatchBoth", unfollowed := true, recurses := true, apart := false }
def FnExactPatchBothSaid : Prop := fnExactPatchBothRow.holds Try.pinned (OpenSpec.ofChange fnExactPatchBothSpec)

/-- ITS FALSE NEIGHBOUR: 'it returns false'. Refute it at one input. -/
def fnExactPatchBothWrong : ChangeSpec := { name := "fnExactPatchBoth", fn := fun _ => fun
  | [d1, d2] => { results := [.lit (.bool false)], args := [d1, d2] }
  | _ => none }
def FnExactPatchBothWrongFalsely : Prop := fnExactPatchBothRow.holds Try.pinned (OpenSpec.ofChange fnExactPatchBothWrong)

/- THE SECOND FORM. 'bulk': how many values and letters a reading holds, each counted each time it is reached (what is shared counts as often as it is met; a slice's spare places count too). A statement '..UptoSaid' is the law's where the arguments, and the package variables that the reading takes, are together of bulk at most 1048576: NARROWER than '..Said'. Prove '..Said' where nothing that the law and all that it calls make is longer than what came in: it says more and counts as full. Else prove '..UptoSaid'. A law counts once. -/
mutual
def uptoBulk {H : Type} : DataW H → Nat
  | .lit (.string bytes) => bytes.length + 1
  | .lit _ => 1
  | .nil => 1
  | .ptr d => uptoBulk d + 1
  | .slice elems spare => uptoBulkAll elems + uptoBulkAll spare + 1
  | .agg parts => uptoBulkAll parts + 1
  | .iface _ d => uptoBulk d + 1
  | .map entries => uptoBulkEntries entries + 1
  | .held _ => 1
def uptoBulkAll {H : Type} : List (DataW H) → Nat
  | [] => 0
  | d :: r => uptoBulk d + uptoBulkAll r
def uptoBulkEntries {H : Type} : List (Lit × DataW H) → Nat
  | [] => 0
  | x :: r => uptoBulkEntry x + uptoBulkEntries r
def uptoBulkEntry {H : Type} : Lit × DataW H → Nat
  | (.string bytes, d) => bytes.length + uptoBulk d + 1
  | (_, d) => uptoBulk d + 1
 end
def uptoSmall : (H : Type) → List (DataW H) → Bool := fun _ ds => decide (uptoBulkAll ds ≤ 1048576)
def OpenSpec.upto (s : _root_.Go.ChangeSpec) : _root_.Go.OpenSpec := { _root_.Go.OpenSpec.ofChange s with cond := some uptoSmall }

/-- 'laws.FnExactTextIn', WHERE WHAT IT READS IS OF BULK AT MOST 1048576: true; the input reads as it did. -/
def fnExactTextInUptoRow : OpenClaim := { program := "ytecijmdkicgemaa", sum := "d6ef4a29e40019afe607cd59de3f0192b3edb1c60de36db57bcfdef9586b9c4f", func := "loop.example/ephemeris/laws.FnExactTextIn", spec := "fnExactTextIn", inPlace := ["internal/bytealg.IndexByteString", "internal/bytealg.IndexString"], named := ["internal/bytealg.MaxLen"], apart := false, narrowed := true }
def FnExactTextInUptoSaid : Prop := fnExactTextInUptoRow.holds Try.pinned (OpenSpec.upto fnExactTextInSpec)

/-- 'laws.FnTextIn', WHERE WHAT IT READS IS OF BULK AT MOST 1048576: true; the input reads as it did. -/
def fnTextInUptoRow : OpenClaim := { program := "ytecijmdkicgemaa", sum := "d6ef4a29e40019afe607cd59de3f0192b3edb1c60de36db57bcfdef9586b9c4f", func := "loop.example/ephemeris/laws.FnTextIn", spec := "fnTextIn", inPlace := ["internal/bytealg.IndexByteString", "internal/bytealg.IndexString"], named := ["internal/bytealg.MaxLen"], apart := false, narrowed := true }
def FnTextInUptoSaid : Prop := fnTextInUptoRow.holds Try.pinned (OpenSpec.upto fnTextInSpec)

/-- 'laws.FnExactFoundOk', WHERE WHAT IT READS IS OF BULK AT MOST 1048576: true; the input reads as it did. -/
def fnExactFoundOkUptoRow : OpenClaim := { program := "ytecijmdkicgemaa", sum := "d6ef4a29e40019afe607cd59de3f0192b3edb1c60de36db57bcfdef9586b9c4f", func := "loop.example/ephemeris/laws.FnExactFoundOk", spec := "fnExactFoundOk", inPlace := ["internal/bytealg.abigen_runtime_cmpstring"], unfollowed := true, recurses := true, apart := false, narrowed := true }
def FnExactFoundOkUptoSaid : Prop := fnExactFoundOkUptoRow.holds Try.pinned (OpenSpec.upto fnExactFoundOkSpec)

/-- 'laws.FnExactFindNews', WHERE WHAT IT READS IS OF BULK AT MOST 1048576: true; the input reads as it did. -/
def fnExactFindNewsUptoRow : OpenClaim := { program := "ytecijmdkicgemaa", sum := "d6ef4a29e40019afe607cd59de3f0192b3edb1c60de36db57bcfdef9586b9c4f", func := "loop.example/ephemeris/laws.FnExactFindNews", spec := "fnExactFindNews", inPlace := ["internal/bytealg.abigen_runtime_cmpstring"], unfollowed := true, recurses := true, apart := false, narrowed := true }
def FnExactFindNewsUptoSaid : Prop := fnExactFindNewsUptoRow.holds Try.pinned (OpenSpec.upto fnExactFindNewsSpec)

/-- 'laws.FnExactFindDo', WHERE WHAT IT READS IS OF BULK AT MOST 1048576: true; the input reads as it did. -/
def fnExactFindDoUptoRow : OpenClaim := { program := "ytecijmdkicgemaa", sum := "d6ef4a29e40019afe607cd59de3f0192b3edb1c60de36db57bcfdef9586b9c4f", func := "loop.example/ephemeris/laws.FnExactFindDo", spec := "fnExactFindDo", inPlace := ["internal/bytealg.abigen_runtime_cmpstring", "slices.overlaps[loop.example/ephemeris/impl.Found]"], unfollowed := true, recurses := true, apart := false, narrowed := true }
def FnExactFindDoUptoSaid : Prop := fnExactFindDoUptoRow.holds Try.pinned (OpenSpec.upto fnExactFindDoSpec)

/-- 'laws.FnFindNews', WHERE WHAT IT READS IS OF BULK AT MOST 1048576: true; the input reads as it did. -/
def fnFindNewsUptoRow : OpenClaim := { program := "ytecijmdkicgemaa", sum := "d6ef4a29e40019afe607cd59de3f0192b3edb1c60de36db57bcfdef9586b9c4f", func := "loop.example/ephemeris/laws.FnFindNews", spec := "fnFindNews", inPlace := ["internal/bytealg.abigen_runtime_cmpstring", "slices.overlaps[loop.example/ephemeris/impl.Found]"], unfollowed := true, recurses := true, apart := false, narrowed := true }
def FnFindNewsUptoSaid : Prop := fnFindNewsUptoRow.holds Try.pinned (OpenSpec.upto fnFindNewsSpec)

/-- 'laws.FnFindDo', WHERE WHAT IT READS IS OF BULK AT MOST 1048576: true; the input reads as it did. -/
def fnFindDoUptoRow : OpenClaim := { program := "ytecijmdkicgemaa", sum := "d6ef4a29e40019afe607cd59de3f0192b3edb1c60de36db57bcfdef9586b9c4f", func := "loop.example/ephemeris/laws.FnFindDo", spec := "fnFindDo", inPlace := ["internal/bytealg.abigen_runtime_cmpstring", "slices.overlaps[loop.example/ephemeris/impl.Found]"], unfollowed := true, recurses := true, apart := false, narrowed := true }
def FnFindDoUptoSaid : Prop := fnFindDoUptoRow.holds Try.pinned (OpenSpec.upto fnFindDoSpec)

/-- 'laws.FnExactPatchBoth', WHERE WHAT IT READS IS OF BULK AT MOST 1048576: true; the input reads as it did. -/
def fnExactPatchBothUptoRow : OpenClaim := { program := "ytecijmdkicgemaa", sum := "d6ef4a29e40019afe607cd59de3f0192b3edb1c60de36db57bcfdef9586b9c4f", func := "loop.example/ephemeris/laws.FnExactPatchBoth", spec := "fnExactPatchBoth", unfollowed := true, recurses := true, apart := false, narrowed := true }
def FnExactPatchBothUptoSaid : Prop := fnExactPatchBothUptoRow.holds Try.pinned (OpenSpec.upto fnExactPatchBothSpec)

end Rows
end Go.Proofs.Ytecijmdkicgemaa
