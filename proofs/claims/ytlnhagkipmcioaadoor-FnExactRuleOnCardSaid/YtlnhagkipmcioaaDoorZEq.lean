/- The exact laws' own helpers over zones: held against each other, and their size. -/
import Derived.Test.YtlnhagkipmcioaaDoorZEx
import Derived.Deep.RegionHeld3
namespace Go.Proofs.YtlnhagkipmcioaaDoor
open Go.RowKit
set_option linter.unusedVariables false
abbrev Two (w : World) (b o b' o' : Nat) (x y : Int) (w' : World) : Prop := w'.cell? ⟨b, o, none⟩ = some (.int .i64 x) ∧ w'.cell? ⟨b, o + 1, none⟩ = some (.int .i64 y) ∧ w'.cell? ⟨b', o', none⟩ = some (.int .i64 x) ∧ w'.cell? ⟨b', o' + 1, none⟩ = some (.int .i64 y) ∧ Below w.heap.size w w'
theorem Two.on {w W w' : World} {b o b' o' : Nat} {x y : Int} (h : Two w b o b' o' x y W) (hb : Below W.heap.size W w') : Two w b o b' o' x y w' := by
  obtain ⟨c0, c1, c2, c3, B⟩ := h
  refine ⟨?_, ?_, ?_, ?_, B.trans (hb.mono B.size)⟩
  · rw [hb.cell (p := ⟨b, o, none⟩) (cell_lt c0)]; exact c0
  · rw [hb.cell (p := ⟨b, o + 1, none⟩) (cell_lt c0)]; exact c1
  · rw [hb.cell (p := ⟨b', o', none⟩) (cell_lt c2)]; exact c2
  · rw [hb.cell (p := ⟨b', o' + 1, none⟩) (cell_lt c2)]; exact c3
end Go.Proofs.YtlnhagkipmcioaaDoor
