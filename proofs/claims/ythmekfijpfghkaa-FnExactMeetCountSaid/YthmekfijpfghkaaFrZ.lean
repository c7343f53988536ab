/- How a zone that came in is read. -/
import Derived.Test.YthmekfijpfghkaaFrB
import Derived.Test.YthmekfijpfghkaaZn
import Derived.Lib.SmallJoins
import Derived.Deep.SlicePairs
namespace Go.Proofs.Ythmekfijpfghkaa
open Go.ChangeShapes Go.WideShapes Go.ChangeAt Go.RowKit
set_option linter.unusedVariables false
theorem tAt_range (f g : Nat → Int) (n i : Nat) (h : i < n) : tAt ((List.range n).map fun j => (f j, g j)) i = f i ∧ tSh ((List.range n).map fun j => (f j, g j)) i = g i := by
  simp [tAt, tSh, h]
theorem add_addr (b off i : Nat) : (⟨b, off, none⟩ : Addr).add i = ⟨b, off + i, none⟩ := by
  by_cases h : i = 0
  · subst h; simp [Addr.add]
  · simp [Addr.add, h]
end Go.Proofs.Ythmekfijpfghkaa
