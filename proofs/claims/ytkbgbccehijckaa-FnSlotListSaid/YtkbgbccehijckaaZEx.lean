/- The exact laws' own helpers over zones. -/
import Derived.Test.YtkbgbccehijckaaZn
import Derived.Laws.MakeOwn
import Derived.Deep.LoopGhost
namespace Go.Proofs.Ytkbgbccehijckaa
open Go.RowKit
set_option linter.unusedVariables false
/-- Room for so many turns, that may be written. -/
structure FT (w : World) (g n : Nat) : Prop where
  there : ∀ i, i < n * 2 → ∃ v, w.cell? ⟨g, i, none⟩ = some v
  free : ∀ i, w.frozen? ⟨g, i, none⟩ = false
  lt : g < w.heap.size
theorem FT.setCell {w : World} {g n : Nat} (h : FT w g n) (p : Addr) (v : Value) : FT (w.setCell p v) g n := by
  refine ⟨fun i hi => ?_, fun i => by rw [World.frozen?_setCell]; exact h.free i, by simpa using h.lt⟩
  obtain ⟨u, hu⟩ := h.there i hi
  exact cell?_setCell_some hu
theorem FT.below {w w' : World} {g n : Nat} (h : FT w g n) (hb : Below w.heap.size w w') : FT w' g n := by
  refine ⟨fun i hi => ?_, fun i => ?_, Nat.lt_of_lt_of_le h.lt hb.size⟩
  · rw [hb.cell (p := ⟨g, i, none⟩) h.lt]; exact h.there i hi
  · rw [hb.frozen (p := ⟨g, i, none⟩) h.lt]; exact h.free i
/-- Where turns are being copied to. -/
structure Cp (w wr : World) (ts : List (Int × Int)) (k : Nat) : Prop where
  lt : w.heap.size < wr.heap.size
  done : ∀ i, i < k → wr.cell? ⟨w.heap.size, i * 2, none⟩ = some (.int .i64 (tAt ts i)) ∧ wr.cell? ⟨w.heap.size, i * 2 + 1, none⟩ = some (.int .i64 (tSh ts i))
  there : ∀ i, i < ts.length * 2 → ∃ v, wr.cell? ⟨w.heap.size, i, none⟩ = some v
  free : ∀ i, wr.frozen? ⟨w.heap.size, i, none⟩ = false
  hb : Below w.heap.size w wr
theorem Cp.step {w wr w' : World} {ts : List (Int × Int)} {k : Nat} (h : Cp w wr ts k) (hk : k < ts.length) (hb : Below wr.heap.size wr w') :
    Cp w ((w'.setCell ⟨w.heap.size, k * 2, none⟩ (.int .i64 (tAt ts k))).setCell ⟨w.heap.size, k * 2 + 1, none⟩ (.int .i64 (tSh ts k))) ts (k + 1) := by
  obtain ⟨lt, done, there, free, hbw⟩ := h
  have hsz := hb.size
  have cc : ∀ o, w'.cell? ⟨w.heap.size, o, none⟩ = wr.cell? ⟨w.heap.size, o, none⟩ := fun o => hb.cell (p := ⟨w.heap.size, o, none⟩) lt
  have c0 : ∃ v, w'.cell? ⟨w.heap.size, k * 2, none⟩ = some v := by rw [cc]; exact there _ (by omega)
  have c1 : ∃ v, w'.cell? ⟨w.heap.size, k * 2 + 1, none⟩ = some v := by rw [cc]; exact there _ (by omega)
  obtain ⟨v0, c0⟩ := c0
  obtain ⟨v1, c1⟩ := c1
  refine ⟨by simp; omega, fun i hi => ?_, fun i hi => ?_, fun i => ?_, ?_⟩
  · by_cases hik : i = k
    · subst hik
      constructor
      · rw [World.cell?_setCell_other _ _ _ _ (by simp)]; exact World.cell?_setCell_same _ _ _ c0
      · exact World.cell?_setCell_same _ _ _ (u := v1) (by rw [World.cell?_setCell_other _ _ _ _ (by simp)]; exact c1)
    · have hlt : i < k := by omega
      constructor
      · rw [World.cell?_setCell_other _ _ _ _ (by first | (simp; done) | (simp; omega)), World.cell?_setCell_other _ _ _ _ (by first | (simp; done) | (simp; omega)), cc]; exact (done i hlt).1
      · rw [World.cell?_setCell_other _ _ _ _ (by first | (simp; done) | (simp; omega)), World.cell?_setCell_other _ _ _ _ (by first | (simp; done) | (simp; omega)), cc]; exact (done i hlt).2
  · by_cases e1 : i = k * 2 + 1
    · subst e1; exact ⟨_, World.cell?_setCell_same _ _ _ (u := v1) (by rw [World.cell?_setCell_other _ _ _ _ (by simp)]; exact c1)⟩
    · by_cases e0 : i = k * 2
      · subst e0; rw [World.cell?_setCell_other _ _ _ _ (by simp)]; exact ⟨_, World.cell?_setCell_same _ _ _ c0⟩
      · rw [World.cell?_setCell_other _ _ _ _ (by first | (simp; done) | (simp; omega)), World.cell?_setCell_other _ _ _ _ (by first | (simp; done) | (simp; omega)), cc]; exact there i hi
  · rw [World.frozen?_setCell, World.frozen?_setCell, hb.frozen (p := ⟨w.heap.size, i, none⟩) lt]; exact free i
  · exact ((hbw.trans (hb.mono (by omega))).setCell (p := ⟨w.heap.size, k * 2, none⟩) (Nat.le_refl _) _).setCell (p := ⟨w.heap.size, k * 2 + 1, none⟩) (Nat.le_refl _) _
theorem Cp.made (w : World) (ts : List (Int × Int)) (cs : Array Value) (hc : cs.size = ts.length * 2) (T : TypeId) : Cp w (w.alloc (.cells cs T)) ts 0 := by
  refine ⟨by simp, fun i hi => by omega, fun i hi => ?_, fun i => by simp, (Below.refl _ _).alloc (Nat.le_refl _) _⟩
  rw [World.cell?_alloc_new]
  exact ⟨cs[i], by simp [hc, hi]⟩
theorem IsTurns.setCell {w : World} {g : Nat} {ts : List (Int × Int)} (h : IsTurns w (some ⟨g, 0, none⟩) ts) {p : Addr} (hp : p.block ≠ g) (v : Value) : IsTurns (w.setCell p v) (some ⟨g, 0, none⟩) ts := by
  rcases h with h | ⟨b, off, h1, h2, h3⟩
  · exact .inl h
  · simp only [Option.some.injEq, Addr.mk.injEq] at h1
    obtain ⟨rfl, rfl, _⟩ := h1
    refine .inr ⟨g, 0, rfl, by simpa using h2, fun i hi => ?_⟩
    rw [World.cell?_of_block (w := w) (Below.heap_setCell _ _ _ _ (Ne.symm hp)), World.cell?_of_block (w := w) (Below.heap_setCell _ _ _ _ (Ne.symm hp))]
    exact h3 i hi
end Go.Proofs.Ytkbgbccehijckaa
