/- Three cells of one block. -/
import Derived.Test.YtlhaldhfoeiohaaBs
namespace Go.Proofs.Ytlhaldhfoeiohaa
open Go.RowKit
set_option linter.unusedVariables false
/-- Three cells of one block. -/
def C3 (w : World) (b : Nat) (x y z : Value) : Prop := w.cell? ⟨b, 0, none⟩ = some x ∧ w.cell? ⟨b, 1, none⟩ = some y ∧ w.cell? ⟨b, 2, none⟩ = some z
theorem C3.on {w w' : World} {b : Nat} {x y z : Value} (h : C3 w b x y z) (hb : Below w.heap.size w w') : C3 w' b x y z := by
  obtain ⟨c0, c1, c2⟩ := h
  have lt := cell_lt c0
  refine ⟨?_, ?_, ?_⟩
  · rw [hb.cell (p := ⟨b, 0, none⟩) lt]; exact c0
  · rw [hb.cell (p := ⟨b, 1, none⟩) lt]; exact c1
  · rw [hb.cell (p := ⟨b, 2, none⟩) lt]; exact c2
theorem C3.new (w : World) (x y z : Value) (T : TypeId) : C3 (w.alloc (.cells #[x, y, z] T)) w.heap.size x y z := ⟨by simp, by simp, by simp⟩
end Go.Proofs.Ytlhaldhfoeiohaa
