/- The cells of a block, that may be written. -/
import Derived.Test.YtbbbmdidmnhpmaaDoorBs
namespace Go.Proofs.YtbbbmdidmnhpmaaDoor
open Go.RowKit
set_option linter.unusedVariables false
/-- The cells of a block, that may be written. -/
def CG (W : World) (b : Nat) (vs : Array Value) : Prop := b < W.heap.size ∧ ∀ i v, vs[i]? = some v → W.cell? ⟨b, i, none⟩ = some v ∧ W.frozen? ⟨b, i, none⟩ = false
theorem CG.below {W W' : World} {b : Nat} {vs : Array Value} (h : CG W b vs) (hb : Below W.heap.size W W') : CG W' b vs := by
  refine ⟨Nat.lt_of_lt_of_le h.1 hb.size, fun i v hv => ?_⟩
  rw [hb.cell (p := ⟨b, i, none⟩) h.1, hb.frozen (p := ⟨b, i, none⟩) h.1]; exact h.2 i v hv
theorem CG.new (W : World) (vs : Array Value) (T : TypeId) : CG (W.alloc (.cells vs T)) W.heap.size vs :=
  ⟨by simp, fun i v hv => ⟨by rw [World.cell?_alloc_new]; exact hv, by simp [go_sem]⟩⟩
theorem CG.past {W : World} {b : Nat} {vs : Array Value} (h : CG W b vs) (o : Obj) : CG (W.alloc o) b vs :=
  h.below ((Below.refl _ _).alloc (Nat.le_refl _) _)
theorem below_drewN (w : World) (n : Nat) : Below w.heap.size w (w.drewN n) := Below.drewN' (Below.refl _ _) n
end Go.Proofs.YtbbbmdidmnhpmaaDoor
