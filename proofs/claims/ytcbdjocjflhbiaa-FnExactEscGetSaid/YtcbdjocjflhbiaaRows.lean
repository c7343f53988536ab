/-
  No cell of these rows narrows 'for every input' (looked for: loops, veiled, ifaces, maps, wideKeys, modest, calm, conditions, laid).
  DERIVED. THE GIVEN ROWS OF THIS SEAT. 6 by the template 'for every input the law returns true; each argument reads behind the call as it read before'; 0 by the template 'total and deterministic' (their statements: YtcbdjocjflhbiaaTotals.lean).
  GIVEN WITH THE SEED: the statements are not yours to turn. If you find one false, say at which input.
  Laid BY PROGRAM, IN A SANDBOX (cutbox-rows.mjs): the forced cells as the released guide's own fill.sh prints them over the translation 7536ab475fbf66bb… (all of the seat's roots in one cut). By AI agents, Wed Nov 11 2026. No macro, syntax, notation, axiom, sorry.
-/
import Derived.Test.YtcbdjocjflhbiaaChecked
import GoSem.Claim
import GoSem.ClaimJoined
import GoSem.ClaimMapViews
import Derived.JoinedTies
import Derived.KernelRfl
namespace Go.Proofs.Ytcbdjocjflhbiaa
/- THE CELL 'sum', in the pinned program and in every row, IS THE sha256 OF THE DUMP (.gsa) THAT YtcbdjocjflhbiaaProg.lean LOADS. Nothing in Lean hashes anything: it is a label: what it is worth is what the hold of that sum in a sandbox is worth. -/
noncomputable def Try.pinned : Pinned := { name := "ytcbdjocjflhbiaa", sum := "7536ab475fbf66bb894a822696baecaf2ac9633363c7700b9a43cbe8dbef8c46", checked := Try.checked }
namespace Rows
def none {H : Type} : Left H := { results := [], args := [] }

/-- 'laws.FnExactFold': WHATEVER THE INPUT: true; the input reads as it did. -/
def fnExactFoldSpec : ChangeSpec := { name := "fnExactFold", fn := fun _ => fun
  | [d] => { results := [.lit (.bool true)], args := [d] }
  | _ => none }
def fnExactFoldRow : OpenClaim := { program := "ytcbdjocjflhbiaa", sum := "7536ab475fbf66bb894a822696baecaf2ac9633363c7700b9a43cbe8dbef8c46", func := "loop.example/ephemeris/laws.FnExactFold", spec := "fnExactFold", inPlace := ["internal/bytealg.IndexByteString", "internal/bytealg.IndexString", "internal/abi.NoEscape"], named := ["internal/bytealg.MaxLen"], apart := false }
def FnExactFoldSaid : Prop := fnExactFoldRow.holds Try.pinned (OpenSpec.ofChange fnExactFoldSpec)

/-- ITS FALSE NEIGHBOUR: 'it returns false'. Refute it at one input. -/
def fnExactFoldWrong : ChangeSpec := { name := "fnExactFold", fn := fun _ => fun
  | [d] => { results := [.lit (.bool false)], args := [d] }
  | _ => none }
def FnExactFoldWrongFalsely : Prop := fnExactFoldRow.holds Try.pinned (OpenSpec.ofChange fnExactFoldWrong)

/-- 'laws.FnExactUnfold': WHATEVER THE INPUT: true; the input reads as it did. -/
def fnExactUnfoldSpec : ChangeSpec := { name := "fnExactUnfold", fn := fun _ => fun
  | [d] => { results := [.lit (.bool true)], args := [d] }
  | _ => none }
def fnExactUnfoldRow : OpenClaim := { program := "ytcbdjocjflhbiaa", sum := "7536ab475fbf66bb894a822696baecaf2ac9633363c7700b9a43cbe8dbef8c46", func := "loop.example/ephemeris/laws.FnExactUnfold", spec := "fnExactUnfold", inPlace := ["internal/bytealg.IndexByteString", "internal/bytealg.IndexString", "internal/abi.NoEscape"], named := ["internal/bytealg.MaxLen"], apart := false }
def FnExactUnfoldSaid : Prop := fnExactUnfoldRow.holds Try.pinned (OpenSpec.ofChange fnExactUnfoldSpec)

/-- ITS FALSE NEIGHBOUR: 'it returns false'. Refute it at one input. -/
def fnExactUnfoldWrong : ChangeSpec := { name := "fnExactUnfold", fn := fun _ => fun
  | [d] => { results := [.lit (.bool false)], args := [d] }
  | _ => none }
def FnExactUnfoldWrongFalsely : Prop := fnExactUnfoldRow.holds Try.pinned (OpenSpec.ofChange fnExactUnfoldWrong)

/-- 'laws.FnExactEscPut': WHATEVER THE INPUT: true; the input reads as it did. -/
def fnExactEscPutSpec : ChangeSpec := { name := "fnExactEscPut", fn := fun _ => fun
  | [d] => { results := [.lit (.bool true)], args := [d] }
  | _ => none }
def fnExactEscPutRow : OpenClaim := { program := "ytcbdjocjflhbiaa", sum := "7536ab475fbf66bb894a822696baecaf2ac9633363c7700b9a43cbe8dbef8c46", func := "loop.example/ephemeris/laws.FnExactEscPut", spec := "fnExactEscPut", inPlace := ["internal/abi.NoEscape"], apart := false }
def FnExactEscPutSaid : Prop := fnExactEscPutRow.holds Try.pinned (OpenSpec.ofChange fnExactEscPutSpec)

/-- ITS FALSE NEIGHBOUR: 'it returns false'. Refute it at one input. -/
def fnExactEscPutWrong : ChangeSpec := { name := "fnExactEscPut", fn := fun _ => fun
  | [d] => { results := [.lit (.bool false)], args := [d] }
  | _ => none }
def FnExactEscPutWrongFalsely : Prop := fnExactEscPutRow.holds Try.pinned (OpenSpec.ofChange fnExactEscPutWrong)

/-- 'laws.FnExactEscGet': WHATEVER THE INPUT: true; the input reads as it did. -/
def fnExactEscGetSpec : ChangeSpec := { name := "fnExactEscGet", fn := fun _ => fun
  | [d] => { results := [.lit (.bool true)], args := [d] }
  | _ => none }
def fnExactEscGetRow : OpenClaim := { program := "ytcbdjocjflhbiaa", sum := "7536ab475fbf66bb894a822696baecaf2ac9633363c7700b9a43cbe8dbef8c46", func := "loop.example/ephemeris/laws.FnExactEscGet", spec := "fnExactEscGet", inPlace := ["internal/abi.NoEscape"], apart := false }
def FnExactEscGetSaid : Prop := fnExactEscGetRow.holds Try.pinned (OpenSpec.ofChange fnExactEscGetSpec)

/-- ITS FALSE NEIGHBOUR: 'it returns false'. Refute it at one input. -/
def fnExactEscGetWrong : ChangeSpec := { name := "fnExactEscGet", fn := fun _ => fun
  | [d] => { results := [.lit (.bool false)], args := [d] }
  | _ => none }
def FnExactEscGetWrongFalsely : Prop := fnExactEscGetRow.holds Try.pinned (OpenSpec.ofChange fnExactEscGetWrong)

/-- 'laws.FnExactPropOk': WHATEVER THE INPUT: true; the input reads as it did. -/
def fnExactPropOkSpec : ChangeSpec := { name := "fnExactPropOk", fn := fun _ => fun
  | [d] => { results := [.lit (.bool true)], args := [d] }
  | _ => none }
def fnExactPropOkRow : OpenClaim := { program := "ytcbdjocjflhbiaa", sum := "7536ab475fbf66bb894a822696baecaf2ac9633363c7700b9a43cbe8dbef8c46", func := "loop.example/ephemeris/laws.FnExactPropOk", spec := "fnExactPropOk", inPlace := ["internal/bytealg.IndexByteString", "internal/bytealg.IndexString"], unfollowed := true, recurses := true, named := ["internal/bytealg.MaxLen"], apart := false }
def FnExactPropOkSaid : Prop := fnExactPropOkRow.holds Try.pinned (OpenSpec.ofChange fnExactPropOkSpec)

/-- ITS FALSE NEIGHBOUR: 'it returns false'. Refute it at one input. -/
def fnExactPropOkWrong : ChangeSpec := { name := "fnExactPropOk", fn := fun _ => fun
  | [d] => { results := [.lit (.bool false)], args := [d] }
  | _ => none }
def FnExactPropOkWrongFalsely : Prop := fnExactPropOkRow.holds Try.pinned (OpenSpec.ofChange fnExactPropOkWrong)

/-- 'laws.FnExactPropPut': WHATEVER THE INPUT: true; the input reads as it did. -/
def fnExactPropPutSpec : ChangeSpec := { name := "fnExactPropPut", fn := fun _ => fun
  | [d] => { results := [.lit (.bool true)], args := [d] }
  | _ => none }
def fnExactPropPutRow : OpenClaim := { program := "ytcbdjocjflhbiaa", sum := "7536ab475fbf66bb894a822696baecaf2ac9633363c7700b9a43cbe8dbef8c46", func := "loop.example/ephemeris/laws.FnExactPropPut", spec := "fnExactPropPut", inPlace := ["internal/bytealg.IndexByteString", "internal/bytealg.IndexString"], unfollowed := true, recurses := true, named := ["internal/bytealg.MaxLen"], apart := false }
def FnExactPropPutSaid : Prop := fnExactPropPutRow.holds Try.pinned (OpenSpec.ofChange fnExactPropPutSpec)

/-- ITS FALSE NEIGHBOUR: 'it returns false'. Refute it at one input. -/
def fnExactPropPutWrong : ChangeSpec := { name := "fnExactPropPut", fn := fun _ => fun
  | [d] => { results := [.lit (.bool false)], args := [d] }
  | _ => none }
def FnExactPropPutWrongFalsely : Prop := fnExactPropPutRow.holds Try.pinned (OpenSpec.ofChange fnExactPropPutWrong)

/- THE SECOND FORM. 'bulk': how many values and letters a reading holds, each counted each time it is reached (what is shared counts as often as it is met; a slice's spare places count too). A statement '..UptoSaid' is the law's where the arguments, and the package variables that the reading takes, are together of bulk at most 1048576: NARROWER than '..Said'. Prove '..Said' where nothing that the law and all that it calls make is longer than what came in: it says more and counts as full. Else prove '..UptoSaid'. A law counts once. -/
mutual
def uptoBulk {H : Type} : DataW H → Nat
  | .lit (.string bytes) => bytes.length + 1
  | .lit _ => 1
  | .nil => 1
  | .ptr d => uptoBulk d + 1
  | .slice elems spare => uptoBulkAll elems + uptoBulkAll spare + 1
  | .agg parts => uptoBulkAll parts + 1
  | .iface _ d => uptoBulk d + 1
  | .map entries => uptoBulkEntries entries + 1
  | .held _ => 1
def uptoBulkAll {H : Type} : List (DataW H) → Nat
  | [] => 0
  | d :: r => uptoBulk d + uptoBulkAll r
def uptoBulkEntries {H : Type} : List (Lit × DataW H) → Nat
  | [] => 0
  | x :: r => uptoBulkEntry x + uptoBulkEntries r
def uptoBulkEntry {H : Type} : Lit × DataW H → Nat
  | (.string bytes, d) => bytes.length + uptoBulk d + 1
  | (_, d) => uptoBulk d + 1
 end
def uptoSmall : (H : Type) → List (DataW H) → Bool := fun _ ds => decide (uptoBulkAll ds ≤ 1048576)
def OpenSpec.upto (s : _root_.Go.ChangeSpec) : _root_.Go.OpenSpec := { _root_.Go.OpenSpec.ofChange s with cond := some uptoSmall }

/-- 'laws.FnExactFold', WHERE WHAT IT READS IS OF BULK AT MOST 1048576: true; the input reads as it did. -/
def fnExactFoldUptoRow : OpenClaim := { program := "ytcbdjocjflhbiaa", sum := "7536ab475fbf66bb894a822696baecaf2ac9633363c7700b9a43cbe8dbef8c46", func := "loop.example/ephemeris/laws.FnExactFold", spec := "fnExactFold", inPlace := ["internal/bytealg.IndexByteString", "internal/bytealg.IndexString", "internal/abi.NoEscape"], named := ["internal/bytealg.MaxLen"], apart := false, narrowed := true }
def FnExactFoldUptoSaid : Prop := fnExactFoldUptoRow.holds Try.pinned (OpenSpec.upto fnExactFoldSpec)

/-- 'laws.FnExactUnfold', WHERE WHAT IT READS IS OF BULK AT MOST 1048576: true; the input reads as it did. -/
def fnExactUnfoldUptoRow : OpenClaim := { program := "ytcbdjocjflhbiaa", sum := "7536ab475fbf66bb894a822696baecaf2ac9633363c7700b9a43cbe8dbef8c46", func := "loop.example/ephemeris/laws.FnExactUnfold", spec := "fnExactUnfold", inPlace := ["internal/bytealg.IndexByteString", "internal/bytealg.IndexString", "internal/abi.NoEscape"], named := ["internal/bytealg.MaxLen"], apart := false, narrowed := true }
def FnExactUnfoldUptoSaid : Prop := fnExactUnfoldUptoRow.holds Try.pinned (OpenSpec.upto fnExactUnfoldSpec)

/-- 'laws.FnExactEscPut', WHERE WHAT IT READS IS OF BULK AT MOST 1048576: true; the input reads as it did. -/
def fnExactEscPutUptoRow : OpenClaim := { program := "ytcbdjocjflhbiaa", sum := "7536ab475fbf66bb894a822696baecaf2ac9633363c7700b9a43cbe8dbef8c46", func := "loop.example/ephemeris/laws.FnExactEscPut", spec := "fnExactEscPut", inPlace := ["internal/abi.NoEscape"], apart := false, narrowed := true }
def FnExactEscPutUptoSaid : Prop := fnExactEscPutUptoRow.holds Try.pinned (OpenSpec.upto fnExactEscPutSpec)

/-- 'laws.FnExactEscGet', WHERE WHAT IT READS IS OF BULK AT MOST 1048576: true; the input reads as it did. -/
def fnExactEscGetUptoRow : OpenClaim := { program := "ytcbdjocjflhbiaa", sum := "7536ab475fbf66bb894a822696baecaf2ac9633363c7700b9a43cbe8dbef8c46", func := "loop.example/ephemeris/laws.FnExactEscGet", spec := "fnExactEscGet", inPlace := ["internal/abi.NoEscape"], apart := false, narrowed := true }
def FnExactEscGetUptoSaid : Prop := fnExactEscGetUptoRow.holds Try.pinned (OpenSpec.upto fnExactEscGetSpec)

/-- 'laws.FnExactPropOk', WHERE WHAT IT READS IS OF BULK AT MOST 1048576: true; the input reads as it did. -/
def fnExactPropOkUptoRow : OpenClaim := { program := "ytcbdjocjflhbiaa", sum := "7536ab475fbf66bb894a822696baecaf2ac9633363c7700b9a43cbe8dbef8c46", func := "loop.example/ephemeris/laws.FnExactPropOk", spec := "fnExactPropOk", inPlace := ["internal/bytealg.IndexByteString", "internal/bytealg.IndexString"], unfollowed := true, recurses := true, named := ["internal/bytealg.MaxLen"], apart := false, narrowed := true }
def FnExactPropOkUptoSaid : Prop := fnExactPropOkUptoRow.holds Try.pinned (OpenSpec.upto fnExactPropOkSpec)

/-- 'laws.FnExactPropPut', WHERE WHAT IT READS IS OF BULK AT MOST 1048576: true; the input reads as it did. -/
def fnExactPropPutUptoRow : OpenClaim := { program := "ytcbdjocjflhbiaa", sum := "7536ab475fbf66bb894a822696baecaf2ac9633363c7700b9a43cbe8dbef8c46", func := "loop.example/ephemeris/laws.FnExactPropPut", spec := "fnExactPropPut", inPlace := ["internal/bytealg.IndexByteString", "internal/bytealg.IndexString"], unfollowed := true, recurses := true, named := ["internal/bytealg.MaxLen"], apart := false, narrowed := true }
def FnExactPropPutUptoSaid : Prop := fnExactPropPutUptoRow.holds Try.pinned (OpenSpec.upto fnExactPropPutSpec)

end Rows
end Go.Proofs.Ytcbdjocjflhbiaa
