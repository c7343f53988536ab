/-
  No cell of these rows narrows 'for every input' (looked for: loops, veiled, ifaces, maps, wideKeys, modest, calm, conditions, laid).
  DERIVED. THE GIVEN ROWS OF THIS SEAT. 7 by the template 'for every input the law returns true; each argument reads behind the call as it read before'; 0 by the template 'total and deterministic' (their statements: YtihklmbblbnihaaTotals.lean).
  GIVEN WITH THE SEED: the statements are not yours to turn. If you find one false, say at which input.
  Laid BY PROGRAM, IN A SANDBOX (cutbox-rows.mjs): the forced cells as the released guide's own fill.sh prints them over the translation 7a6af92990891d24… (all of the seat's roots in one cut). By AI agents, Wed Nov 11 2026. No macro, syntax, notation, axiom, sorry.
-/
import Derived.Test.YtihklmbblbnihaaChecked
import GoSem.Claim
import GoSem.ClaimJoined
import GoSem.ClaimMapViews
import Derived.JoinedTies
import Derived.KernelRfl
namespace Go.Proofs.Ytihklmbblbnihaa
/- THE CELL 'sum', in the pinned program and in every row, IS THE sha256 OF THE DUMP (.gsa) THAT YtihklmbblbnihaaProg.lean LOADS. Nothing in Lean hashes anything: it is a label: what it is worth is what the hold of that sum in a sandbox is worth. -/
noncomputable def Try.pinned : Pinned := { name := "ytihklmbblbnihaa", sum := "7a6af92990891d24db42b81f4e82f552f8050e3947ea1bc17a483dc35b701e4e", checked := Try.checked }
namespace Rows
def none {H : Type} : Left H := { results := [], args := [] }

/-- 'laws.FnZoneLocal': WHATEVER THE INPUT: true; the input reads as it did. -/
def fnZoneLocalSpec : ChangeSpec := { name := "fnZoneLocal", fn := fun _ => fun
  | [d] => { results := [.lit (.bool true)], args := [d] }
  | _ => none }
def fnZoneLocalRow : OpenClaim := { program := "ytihklmbblbnihaa", sum := "7a6af92990891d24db42b81f4e82f552f8050e3947ea1bc17a483dc35b701e4e", func := "loop.example/ephemeris/laws.FnZoneLocal", spec := "fnZoneLocal", unfollowed := true, recurses := true, apart := false }
def FnZoneLocalSaid : Prop := fnZoneLocalRow.holds Try.pinned (OpenSpec.ofChange fnZoneLocalSpec)

/-- ITS FALSE NEIGHBOUR: 'it returns false'. Refute it at one input. -/
def fnZoneLocalWrong : ChangeSpec := { name := "fnZoneLocal", fn := fun _ => fun
  | [d] => { results := [.lit (.bool false)], args := [d] }
  | _ => none }
def FnZoneLocalWrongFalsely : Prop := fnZoneLocalRow.holds Try.pinned (OpenSpec.ofChange fnZoneLocalWrong)

/-- 'laws.FnZoneTimes': WHATEVER THE INPUT: true; the input reads as it did. -/
def fnZoneTimesSpec : ChangeSpec := { name := "fnZoneTimes", fn := fun _ => fun
  | [d1, d2] => { results := [.lit (.bool true)], args := [d1, d2] }
  | _ => none }
def fnZoneTimesRow : OpenClaim := { program := "ytihklmbblbnihaa", sum := "7a6af92990891d24db42b81f4e82f552f8050e3947ea1bc17a483dc35b701e4e", func := "loop.example/ephemeris/laws.FnZoneTimes", spec := "fnZoneTimes", unfollowed := true, recurses := true, apart := false }
def FnZoneTimesSaid : Prop := fnZoneTimesRow.holds Try.pinned (OpenSpec.ofChange fnZoneTimesSpec)

/-- ITS FALSE NEIGHBOUR: 'it returns false'. Refute it at one input. -/
def fnZoneTimesWrong : ChangeSpec := { name := "fnZoneTimes", fn := fun _ => fun
  | [d1, d2] => { results := [.lit (.bool false)], args := [d1, d2] }
  | _ => none }
def FnZoneTimesWrongFalsely : Prop := fnZoneTimesRow.holds Try.pinned (OpenSpec.ofChange fnZoneTimesWrong)

/-- 'laws.FnZoneWorld': WHATEVER THE INPUT: true; the input reads as it did. -/
def fnZoneWorldSpec : ChangeSpec := { name := "fnZoneWorld", fn := fun _ => fun
  | [d] => { results := [.lit (.bool true)], args := [d] }
  | _ => none }
def fnZoneWorldRow : OpenClaim := { program := "ytihklmbblbnihaa", sum := "7a6af92990891d24db42b81f4e82f552f8050e3947ea1bc17a483dc35b701e4e", func := "loop.example/ephemeris/laws.FnZoneWorld", spec := "fnZoneWorld", unfollowed := true, recurses := true, apart := false }
def FnZoneWorldSaid : Prop := fnZoneWorldRow.holds Try.pinned (OpenSpec.ofChange fnZoneWorldSpec)

/-- ITS FALSE NEIGHBOUR: 'it returns false'. Refute it at one input. -/
def fnZoneWorldWrong : ChangeSpec := { name := "fnZoneWorld", fn := fun _ => fun
  | [d] => { results := [.lit (.bool false)], args := [d] }
  | _ => none }
def FnZoneWorldWrongFalsely : Prop := fnZoneWorldRow.holds Try.pinned (OpenSpec.ofChange fnZoneWorldWrong)

/-- 'laws.FnZoneBack': WHATEVER THE INPUT: true; the input reads as it did. -/
def fnZoneBackSpec : ChangeSpec := { name := "fnZoneBack", fn := fun _ => fun
  | [d] => { results := [.lit (.bool true)], args := [d] }
  | _ => none }
def fnZoneBackRow : OpenClaim := { program := "ytihklmbblbnihaa", sum := "7a6af92990891d24db42b81f4e82f552f8050e3947ea1bc17a483dc35b701e4e", func := "loop.example/ephemeris/laws.FnZoneBack", spec := "fnZoneBack", unfollowed := true, recurses := true, apart := false }
def FnZoneBackSaid : Prop := fnZoneBackRow.holds Try.pinned (OpenSpec.ofChange fnZoneBackSpec)

/-- ITS FALSE NEIGHBOUR: 'it returns false'. Refute it at one input. -/
def fnZoneBackWrong : ChangeSpec := { name := "fnZoneBack", fn := fun _ => fun
  | [d] => { results := [.lit (.bool false)], args := [d] }
  | _ => none }
def FnZoneBackWrongFalsely : Prop := fnZoneBackRow.holds Try.pinned (OpenSpec.ofChange fnZoneBackWrong)

/-- 'laws.FnZonePlain': WHATEVER THE INPUT: true; the input reads as it did. -/
def fnZonePlainSpec : ChangeSpec := { name := "fnZonePlain", fn := fun _ => fun
  | [d] => { results := [.lit (.bool true)], args := [d] }
  | _ => none }
def fnZonePlainRow : OpenClaim := { program := "ytihklmbblbnihaa", sum := "7a6af92990891d24db42b81f4e82f552f8050e3947ea1bc17a483dc35b701e4e", func := "loop.example/ephemeris/laws.FnZonePlain", spec := "fnZonePlain", apart := false }
def FnZonePlainSaid : Prop := fnZonePlainRow.holds Try.pinned (OpenSpec.ofChange fnZonePlainSpec)

/-- ITS FALSE NEIGHBOUR: 'it returns false'. Refute it at one input. -/
def fnZonePlainWrong : ChangeSpec := { name := "fnZonePlain", fn := fun _ => fun
  | [d] => { results := [.lit (.bool false)], args := [d] }
  | _ => none }
def FnZonePlainWrongFalsely : Prop := fnZonePlainRow.holds Try.pinned (OpenSpec.ofChange fnZonePlainWrong)

/-- 'laws.FnExactZoneTimes': WHATEVER THE INPUT: true; the input reads as it did. -/
def fnExactZoneTimesSpec : ChangeSpec := { name := "fnExactZoneTimes", fn := fun _ => fun
  | [d1, d2] => { results := [.lit (.bool true)], args := [d1, d2] }
  | _ => none }
def fnExactZoneTimesRow : OpenClaim := { program := "ytihklmbblbnihaa", sum := "7a6af92990891d24db42b81f4e82f552f8050e3947ea1bc17a483dc35b701e4e", func := "loop.example/ephemeris/laws.FnExactZoneTimes", spec := "fnExactZoneTimes", apart := false }
def FnExactZoneTimesSaid : Prop := fnExactZoneTimesRow.holds Try.pinned (OpenSpec.ofChange fnExactZoneTimesSpec)

/-- ITS FALSE NEIGHBOUR: 'it returns false'. Refute it at one input. -/
def fnExactZoneTimesWrong : ChangeSpec := { name := "fnExactZoneTimes", fn := fun _ => fun
  | [d1, d2] => { results := [.lit (.bool false)], args := [d1, d2] }
  | _ => none }
def FnExactZoneTimesWrongFalsely : Prop := fnExactZoneTimesRow.holds Try.pinned (OpenSpec.ofChange fnExactZoneTimesWrong)

/-- 'laws.FnExactZoneWorld': WHATEVER THE INPUT: true; the input reads as it did. -/
def fnExactZoneWorldSpec : ChangeSpec := { name := "fnExactZoneWorld", fn := fun _ => fun
  | [d1, d2] => { results := [.lit (.bool true)], args := [d1, d2] }
  | _ => none }
def fnExactZoneWorldRow : OpenClaim := { program := "ytihklmbblbnihaa", sum := "7a6af92990891d24db42b81f4e82f552f8050e3947ea1bc17a483dc35b701e4e", func := "loop.example/ephemeris/laws.FnExactZoneWorld", spec := "fnExactZoneWorld", apart := false }
def FnExactZoneWorldSaid : Prop := fnExactZoneWorldRow.holds Try.pinned (OpenSpec.ofChange fnExactZoneWorldSpec)

/-- ITS FALSE NEIGHBOUR: 'it returns false'. Refute it at one input. -/
def fnExactZoneWorldWrong : ChangeSpec := { name := "fnExactZoneWorld", fn := fun _ => fun
  | [d1, d2] => { results := [.lit (.bool false)], args := [d1, d2] }
  | _ => none }
def FnExactZoneWorldWrongFalsely : Prop := fnExactZoneWorldRow.holds Try.pinned (OpenSpec.ofChange fnExactZoneWorldWrong)

/- THE SECOND FORM. 'bulk': how many values and letters a reading holds, each counted each time it is reached (what is shared counts as often as it is met; a slice's spare places count too). A statement '..UptoSaid' is the law's where the arguments, and the package variables that the reading takes, are together of bulk at most 1048576: NARROWER than '..Said'. Prove '..Said' where nothing that the law and all that it calls make is longer than what came in: it says more and counts as full. Else prove '..UptoSaid'. A law counts once. -/
mutual
def uptoBulk {H : Type} : DataW H → Nat
  | .lit (.string bytes) => bytes.length + 1
  | .lit _ => 1
  | .nil => 1
  | .ptr d => uptoBulk d + 1
  | .slice elems spare => uptoBulkAll elems + uptoBulkAll spare + 1
  | .agg parts => uptoBulkAll parts + 1
  | .iface _ d => uptoBulk d + 1
  | .map entries => uptoBulkEntries entries + 1
  | .held _ => 1
def uptoBulkAll {H : Type} : List (DataW H) → Nat
  | [] => 0
  | d :: r => uptoBulk d + uptoBulkAll r
def uptoBulkEntries {H : Type} : List (Lit × DataW H) → Nat
  | [] => 0
  | x :: r => uptoBulkEntry x + uptoBulkEntries r
def uptoBulkEntry {H : Type} : Lit × DataW H → Nat
  | (.string bytes, d) => bytes.length + uptoBulk d + 1
  | (_, d) => uptoBulk d + 1
 end
def uptoSmall : (H : Type) → List (DataW H) → Bool := fun _ ds => decide (uptoBulkAll ds ≤ 1048576)
def OpenSpec.upto (s : _root_.Go.ChangeSpec) : _root_.Go.OpenSpec := { _root_.Go.OpenSpec.ofChange s with cond := some uptoSmall }

/-- 'laws.FnZoneLocal', WHERE WHAT IT READS IS OF BULK AT MOST 1048576: true; the input reads as it did. -/
def fnZoneLocalUptoRow : OpenClaim := { program := "ytihklmbblbnihaa", sum := "7a6af92990891d24db42b81f4e82f552f8050e3947ea1bc17a483dc35b701e4e", func := "loop.example/ephemeris/laws.FnZoneLocal", spec := "fnZoneLocal", unfollowed := true, recurses := true, apart := false, narrowed := true }
def FnZoneLocalUptoSaid : Prop := fnZoneLocalUptoRow.holds Try.pinned (OpenSpec.upto fnZoneLocalSpec)

/-- 'laws.FnZoneTimes', WHERE WHAT IT READS IS OF BULK AT MOST 1048576: true; the input reads as it did. -/
def fnZoneTimesUptoRow : OpenClaim := { program := "ytihklmbblbnihaa", sum := "7a6af92990891d24db42b81f4e82f552f8050e3947ea1bc17a483dc35b701e4e", func := "loop.example/ephemeris/laws.FnZoneTimes", spec := "fnZoneTimes", unfollowed := true, recurses := true, apart := false, narrowed := true }
def FnZoneTimesUptoSaid : Prop := fnZoneTimesUptoRow.holds Try.pinned (OpenSpec.upto fnZoneTimesSpec)

/-- 'laws.FnZoneWorld', WHERE WHAT IT READS IS OF BULK AT MOST 1048576: true; the input reads as it did. -/
def fnZoneWorldUptoRow : OpenClaim := { program := "ytihklmbblbnihaa", sum := "7a6af92990891d24db42b81f4e82f552f8050e3947ea1bc17a483dc35b701e4e", func := "loop.example/ephemeris/laws.FnZoneWorld", spec := "fnZoneWorld", unfollowed := true, recurses := true, apart := false, narrowed := true }
def FnZoneWorldUptoSaid : Prop := fnZoneWorldUptoRow.holds Try.pinned (OpenSpec.upto fnZoneWorldSpec)

/-- 'laws.FnZoneBack', WHERE WHAT IT READS IS OF BULK AT MOST 1048576: true; the input reads as it did. -/
def fnZoneBackUptoRow : OpenClaim := { program := "ytihklmbblbnihaa", sum := "7a6af92990891d24db42b81f4e82f552f8050e3947ea1bc17a483dc35b701e4e", func := "loop.example/ephemeris/laws.FnZoneBack", spec := "fnZoneBack", unfollowed := true, recurses := true, apart := false, narrowed := true }
def FnZoneBackUptoSaid : Prop := fnZoneBackUptoRow.holds Try.pinned (OpenSpec.upto fnZoneBackSpec)

/-- 'laws.FnZonePlain', WHERE WHAT IT READS IS OF BULK AT MOST 1048576: true; the input reads as it did. -/
def fnZonePlainUptoRow : OpenClaim := { program := "ytihklmbblbnihaa", sum := "7a6af92990891d24db42b81f4e82f552f8050e3947ea1bc17a483dc35b701e4e", func := "loop.example/ephemeris/laws.FnZonePlain", spec := "fnZonePlain", apart := false, narrowed := true }
def FnZonePlainUptoSaid : Prop := fnZonePlainUptoRow.holds Try.pinned (OpenSpec.upto fnZonePlainSpec)

/-- 'laws.FnExactZoneTimes', WHERE WHAT IT READS IS OF BULK AT MOST 1048576: true; the input reads as it did. -/
def fnExactZoneTimesUptoRow : OpenClaim := { program := "ytihklmbblbnihaa", sum := "7a6af92990891d24db42b81f4e82f552f8050e3947ea1bc17a483dc35b701e4e", func := "loop.example/ephemeris/laws.FnExactZoneTimes", spec := "fnExactZoneTimes", apart := false, narrowed := true }
def FnExactZoneTimesUptoSaid : Prop := fnExactZoneTimesUptoRow.holds Try.pinned (OpenSpec.upto fnExactZoneTimesSpec)

/-- 'laws.FnExactZoneWorld', WHERE WHAT IT READS IS OF BULK AT MOST 1048576: true; the input reads as it did. -/
def fnExactZoneWorldUptoRow : OpenClaim := { program := "ytihklmbblbnihaa", sum := "7a6af92990891d24db42b81f4e82f552f8050e3947ea1bc17a483dc35b701e4e", func := "loop.example/ephemeris/laws.FnExactZoneWorld", spec := "fnExactZoneWorld", apart := false, narrowed := true }
def FnExactZoneWorldUptoSaid : Prop := fnExactZoneWorldUptoRow.holds Try.pinned (OpenSpec.upto fnExactZoneWorldSpec)

end Rows
end Go.Proofs.Ytihklmbblbnihaa
