/-
  No cell of these rows narrows 'for every input' (looked for: loops, veiled, ifaces, maps, wideKeys, modest, calm, conditions, laid).
  DERIVED. THE GIVEN ROWS OF THIS SEAT. 3 by the template 'for every input the law returns true; each argument reads behind the call as it read before'; 0 by the template 'total and deterministic' (their statements: YtddjbcggdmeidaaTotals.lean).
  GIVEN WITH THE SEED: the statements are not yours to turn. If you find one false, say at which input.
  Laid BY PROGRAM, IN A SANDBOX (cutbox-rows.mjs): the forced cells as the released guide's own fill.sh prints them over the translation ad82d45113f5745e… (all of the seat's roots in one cut). By AI agents, Wed Nov 11 2026. No macro, syntax, notation, axiom, sorry.
-/
import Derived.Test.YtddjbcggdmeidaaChecked
import GoSem.Claim
import GoSem.ClaimJoined
import GoSem.ClaimMapViews
import Derived.JoinedTies
import Derived.KernelRfl
namespace Go.Proofs.Ytddjbcggdmeidaa
/- THE CELL 'sum', in the pinned program and in every row, IS THE sha256 OF THE DUMP (.gsa) THAT YtddjbcggdmeidaaProg.lean LOADS. Nothing in Lean hashes anything: it is a label: what it is worth is what the hold of that sum in a sandbox is worth. -/
noncomputable def Try.pinned : Pinned := { name := "ytddjbcggdmeidaa", sum := "ad82d45113f5745e8326e6d933c681e20b023c97f24d3569ef672d34adfdbe8f", checked := Try.checked }
namespace Rows
def none {H : Type} : Left H := { results := [], args := [] }

/-- 'laws.FnBusy': WHATEVER THE INPUT: true; the input reads as it did. -/
def fnBusySpec : ChangeSpec := { name := "fnBusy", fn := fun _ => fun
  | [d1, d2] => { results := [.lit (.bool true)], args := [d1, d2] }
  | _ => none }
def fnBusyRow : OpenClaim := { program := "ytddjbcggdmeidaa", sum := "ad82d45113f5745e8326e6d933c681e20b023c97f24d3569ef672d34adfdbe8f", func := "loop.example/ephemeris/laws.FnBusy", spec := "fnBusy", unfollowed := true, recurses := true, apart := false }
def FnBusySaid : Prop := fnBusyRow.holds Try.pinned (OpenSpec.ofChange fnBusySpec)

/-- ITS FALSE NEIGHBOUR: 'it returns false'. Refute it at one input. -/
def fnBusyWrong : ChangeSpec := { name := "fnBusy", fn := fun _ => fun
  | [d1, d2] => { results := [.lit (.bool false)], args := [d1, d2] }
  | _ => none }
def FnBusyWrongFalsely : Prop := fnBusyRow.holds Try.pinned (OpenSpec.ofChange fnBusyWrong)

/-- 'laws.FnBusyMore': WHATEVER THE INPUT: true; the input reads as it did. -/
def fnBusyMoreSpec : ChangeSpec := { name := "fnBusyMore", fn := fun _ => fun
  | [d1, d2] => { results := [.lit (.bool true)], args := [d1, d2] }
  | _ => none }
def fnBusyMoreRow : OpenClaim := { program := "ytddjbcggdmeidaa", sum := "ad82d45113f5745e8326e6d933c681e20b023c97f24d3569ef672d34adfdbe8f", func := "loop.example/ephemeris/laws.FnBusyMore", spec := "fnBusyMore", unfollowed := true, recurses := true, apart := false }
def FnBusyMoreSaid : Prop := fnBusyMoreRow.holds Try.pinned (OpenSpec.ofChange fnBusyMoreSpec)

/-- ITS FALSE NEIGHBOUR: 'it returns false'. Refute it at one input. -/
def fnBusyMoreWrong : ChangeSpec := { name := "fnBusyMore", fn := fun _ => fun
  | [d1, d2] => { results := [.lit (.bool false)], args := [d1, d2] }
  | _ => none }
def FnBusyMoreWrongFalsely : Prop := fnBusyMoreRow.holds Try.pinned (OpenSpec.ofChange fnBusyMoreWrong)

/-- 'laws.FnBusyOrder': WHATEVER THE INPUT: true; the input reads as it did. -/
def fnBusyOrderSpec : ChangeSpec := { name := "fnBusyOrder", fn := fun _ => fun
  | [d] => { results := [.lit (.bool true)], args := [d] }
  | _ => none }
def fnBusyOrderRow : OpenClaim := { program := "ytddjbcggdmeidaa", sum := "ad82d45113f5745e8326e6d933c681e20b023c97f24d3569ef672d34adfdbe8f", func := "loop.example/ephemeris/laws.FnBusyOrder", spec := "fnBusyOrder", unfollowed := true, recurses := true, apart := false }
def FnBusyOrderSaid : Prop := fnBusyOrderRow.holds Try.pinned (OpenSpec.ofChange fnBusyOrderSpec)

/-- ITS FALSE NEIGHBOUR: 'it returns false'. Refute it at one input. -/
def fnBusyOrderWrong : ChangeSpec := { name := "fnBusyOrder", fn := fun _ => fun
  | [d] => { results := [.lit (.bool false)], args := [d] }
  | _ => none }
def FnBusyOrderWrongFalsely : Prop := fnBusyOrderRow.holds Try.pinned (OpenSpec.ofChange fnBusyOrderWrong)

/- THE SECOND FORM. 'bulk': how many values and letters a reading holds, each counted each time it is reached (what is shared counts as often as it is met; a slice's spare places count too). A statement '..UptoSaid' is the law's where the arguments, and the package variables that the reading takes, are together of bulk at most 1048576: NARROWER than '..Said'. Prove '..Said' where nothing that the law and all that it calls make is longer than what came in: it says more and counts as full. Else prove '..UptoSaid'. A law counts once. -/
mutual
def uptoBulk {H : Type} : DataW H → Nat
  | .lit (.string bytes) => bytes.length + 1
  | .lit _ => 1
  | .nil => 1
  | .ptr d => uptoBulk d + 1
  | .slice elems spare => uptoBulkAll elems + uptoBulkAll spare + 1
  | .agg parts => uptoBulkAll parts + 1
  | .iface _ d => uptoBulk d + 1
  | .map entries => uptoBulkEntries entries + 1
  | .held _ => 1
def uptoBulkAll {H : Type} : List (DataW H) → Nat
  | [] => 0
  | d :: r => uptoBulk d + uptoBulkAll r
def uptoBulkEntries {H : Type} : List (Lit × DataW H) → Nat
  | [] => 0
  | x :: r => uptoBulkEntry x + uptoBulkEntries r
def uptoBulkEntry {H : Type} : Lit × DataW H → Nat
  | (.string bytes, d) => bytes.length + uptoBulk d + 1
  | (_, d) => uptoBulk d + 1
 end
def uptoSmall : (H : Type) → List (DataW H) → Bool := fun _ ds => decide (uptoBulkAll ds ≤ 1048576)
def OpenSpec.upto (s : _root_.Go.ChangeSpec) : _root_.Go.OpenSpec := { _root_.Go.OpenSpec.ofChange s with cond := some uptoSmall }

/-- 'laws.FnBusy', WHERE WHAT IT READS IS OF BULK AT MOST 1048576: true; the input reads as it did. -/
def fnBusyUptoRow : OpenClaim := { program := "ytddjbcggdmeidaa", sum := "ad82d45113f5745e8326e6d933c681e20b023c97f24d3569ef672d34adfdbe8f", func := "loop.example/ephemeris/laws.FnBusy", spec := "fnBusy", unfollowed := true, recurses := true, apart := false, narrowed := true }
def FnBusyUptoSaid : Prop := fnBusyUptoRow.holds Try.pinned (OpenSpec.upto fnBusySpec)

/-- 'laws.FnBusyMore', WHERE WHAT IT READS IS OF BULK AT MOST 1048576: true; the input reads as it did. -/
def fnBusyMoreUptoRow : OpenClaim := { program := "ytddjbcggdmeidaa", sum := "ad82d45113f5745e8326e6d933c681e20b023c97f24d3569ef672d34adfdbe8f", func := "loop.example/ephemeris/laws.FnBusyMore", spec := "fnBusyMore", unfollowed := true, recurses := true, apart := false, narrowed := true }
def FnBusyMoreUptoSaid : Prop := fnBusyMoreUptoRow.holds Try.pinned (OpenSpec.upto fnBusyMoreSpec)

/-- 'laws.FnBusyOrder', WHERE WHAT IT READS IS OF BULK AT MOST 1048576: true; the input reads as it did. -/
def fnBusyOrderUptoRow : OpenClaim := { program := "ytddjbcggdmeidaa", sum := "ad82d45113f5745e8326e6d933c681e20b023c97f24d3569ef672d34adfdbe8f", func := "loop.example/ephemeris/laws.FnBusyOrder", spec := "fnBusyOrder", unfollowed := true, recurses := true, apart := false, narrowed := true }
def FnBusyOrderUptoSaid : Prop := fnBusyOrderUptoRow.holds Try.pinned (OpenSpec.upto fnBusyOrderSpec)

end Rows
end Go.Proofs.Ytddjbcggdmeidaa
