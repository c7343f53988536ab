/- How what is found is read, as it came in. -/
import Derived.Test.YtecijmdkicgemaaFrB
import Derived.Test.YtecijmdkicgemaaFo
import Derived.Lib.SmallJoins
import Derived.Deep.SlicePairs
namespace Go.Proofs.Ytecijmdkicgemaa
open Go.ChangeShapes Go.WideShapes Go.ChangeAt Go.RowKit
set_option linter.unusedVariables false
theorem fo_range (f : Nat → ByteArray) (g : Nat → Int) (n i : Nat) (h : i < n) : fS ((List.range n).map fun j => (f j, g j)) i = f i ∧ fA ((List.range n).map fun j => (f j, g j)) i = g i := by
  simp [fS, fA, h]
theorem add_addr (b off i : Nat) : (⟨b, off, none⟩ : Addr).add i = ⟨b, off + i, none⟩ := by
  by_cases h : i = 0
  · subst h; simp [Addr.add]
  · simp [Addr.add, h]
theorem isFo_open {H : Type} {enc : TypeId × Value → H} {W : World} {n : Nat} {v : Value} {y : DataW H × List MemPlace}
    (h : DataW.trod enc Try.prog W 0 (fun _ => true) true n 27 [v] = some y) : ∃ a cap l, v = .slice a (List.length l) cap ∧ FWide l ∧ IsFo W a l := by
  rcases Deep.open_slice_pairs Try.underlying27 Try.underlying69 (by kernel_rfl) rfl rfl (by kernel_rfl) (by kernel_rfl) h with ⟨hcs, _⟩ | ⟨x, len, cap, m, n', V0, V1, D0, D1, P0, P1, hcs, _, hl, hm, hmm, _, hall⟩
  · simp only [List.cons.injEq, and_true] at hcs
    exact ⟨none, 0, [], hcs, ⟨by simp, fun i hi => by simp at hi⟩, .inl rfl⟩
  · simp only [List.cons.injEq, and_true] at hcs
    have hlm : len ≤ m := by rw [hmm]; simp; omega
    have e0 : ∀ i, i < len → ∃ s : ByteArray, V0 i = .string s ∧ s.size ≤ maxLen := fun i hi => by
      obtain ⟨s, e, _, hs⟩ := DataW.trod_string Try.underlying9 (hall i (by omega)).2.2.1
      simp at e; exact ⟨s, e, hs⟩
    have e1 : ∀ i, i < len → ∃ z : Int, V1 i = .int .i64 z := fun i hi => by
      obtain ⟨z, e, _, _⟩ := DataW.trod_int Try.underlying3 (hall i (by omega)).2.2.2
      simp at e; exact ⟨z, e⟩
    have inh : Inhabited ByteArray := ⟨ByteArray.empty⟩
    obtain ⟨f, hf⟩ := Deep.choose_lt e0
    obtain ⟨g, hg⟩ := Deep.choose_lt e1
    refine ⟨some x, cap, (List.range len).map fun j => (f j, g j), by simpa using hcs, ⟨by simpa using Nat.le_trans hl hm, fun i hi => ?_⟩, ?_⟩
    · have hi' : i < len := by simpa using hi
      rw [(fo_range f g len i hi').1]; exact (hf i hi').2
    · by_cases h0 : len = 0
      · subst h0; exact .inl (by simp)
      · right
        obtain ⟨b, off, spot⟩ := x
        have hc := (hall 0 (by omega)).1
        have hspot : spot = none := by simpa [Addr.add] using World.cell?_spot hc
        subst hspot
        refine ⟨b, off, rfl, ?_, fun i hi => ?_⟩
        · rw [add_addr] at hc; exact cell_lt hc
        · have hi' : i < len := by simpa using hi
          obtain ⟨q0, q1, _, _⟩ := hall i (by omega)
          rw [add_addr, (hf i hi').1] at q0
          rw [add_addr, hg i hi'] at q1
          rw [(fo_range f g len i hi').1, (fo_range f g len i hi').2]
          exact ⟨q0, by simpa [Nat.add_assoc] using q1⟩
end Go.Proofs.Ytecijmdkicgemaa
