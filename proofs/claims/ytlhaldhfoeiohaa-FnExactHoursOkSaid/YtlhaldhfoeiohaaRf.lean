/- The exact laws' own helpers over rules: a rule's copy. -/
import Derived.Test.YtlhaldhfoeiohaaRe
namespace Go.Proofs.Ytlhaldhfoeiohaa
open Go.RowKit
set_option linter.unusedVariables false
/-- The cells of a block, that may be written. -/
def CF (W : World) (b : Nat) (vs : Array Value) : Prop := b < W.heap.size ∧ ∀ i v, vs[i]? = some v → W.cell? ⟨b, i, none⟩ = some v ∧ W.frozen? ⟨b, i, none⟩ = false
theorem CF.below {W W' : World} {b : Nat} {vs : Array Value} (h : CF W b vs) (hb : Below W.heap.size W W') : CF W' b vs := by
  refine ⟨Nat.lt_of_lt_of_le h.1 hb.size, fun i v hv => ?_⟩
  rw [hb.cell (p := ⟨b, i, none⟩) h.1, hb.frozen (p := ⟨b, i, none⟩) h.1]; exact h.2 i v hv
theorem CF.new (W : World) (vs : Array Value) (T : TypeId) : CF (W.alloc (.cells vs T)) W.heap.size vs :=
  ⟨by simp, fun i v hv => ⟨by rw [World.cell?_alloc_new]; exact hv, by simp [go_sem]⟩⟩
theorem CF.past {W : World} {b : Nat} {vs : Array Value} (h : CF W b vs) (o : Obj) : CF (W.alloc o) b vs :=
  h.below ((Below.refl _ _).alloc (Nat.le_refl _) _)
theorem CF.set {W : World} {b : Nat} {vs : Array Value} (h : CF W b vs) (i : Nat) (v : Value) (hi : i < vs.size) : CF (W.setCell ⟨b, i, none⟩ v) b (vs.set! i v) := by
  refine ⟨by simpa using h.1, fun j u hu => ⟨?_, ?_⟩⟩
  · by_cases hij : j = i
    · subst hij
      simp [hi] at hu
      subst hu
      exact World.cell?_setCell_same _ _ _ (h.2 j vs[j] (by simp [hi])).1
    · rw [World.cell?_setCell_other _ _ _ _ (by simp)]
      exact (h.2 j u (by simpa [Array.getElem?_setIfInBounds, Ne.symm hij] using hu)).1
  · rw [World.frozen?_setCell]
    by_cases hij : j = i
    · subst hij; exact (h.2 j vs[j] (by simp [hi])).2
    · exact (h.2 j u (by simpa [Array.getElem?_setIfInBounds, Ne.symm hij] using hu)).2
theorem CF.other {W : World} {b b' : Nat} {vs : Array Value} (h : CF W b vs) (i : Nat) (v : Value) (hb : b ≠ b') : CF (W.setCell ⟨b', i, none⟩ v) b vs := by
  refine ⟨by simpa using h.1, fun j u hu => ⟨?_, ?_⟩⟩
  · rw [World.cell?_setCell_other _ _ _ _ (by simp)]; exact (h.2 j u hu).1
  · rw [World.frozen?_setCell]; exact (h.2 j u hu).2
theorem IsInts.setCell {w : World} {g : Nat} {l : List Int} (h : IsInts w (some ⟨g, 0, none⟩) l) {p : Addr} (hp : p.block ≠ g) (v : Value) : IsInts (w.setCell p v) (some ⟨g, 0, none⟩) l := by
  rcases h with h | ⟨b, off, h1, h2, h3⟩
  · exact .inl h
  · simp only [Option.some.injEq, Addr.mk.injEq] at h1
    obtain ⟨rfl, rfl, _⟩ := h1
    refine .inr ⟨g, 0, rfl, by simpa using h2, fun i hi => ?_⟩
    rw [World.cell?_of_block (w := w) (Below.heap_setCell _ _ _ _ (Ne.symm hp))]
    exact h3 i hi
end Go.Proofs.Ytlhaldhfoeiohaa
