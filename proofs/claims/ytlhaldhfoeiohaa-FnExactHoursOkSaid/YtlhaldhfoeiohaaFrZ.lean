/- How a zone that came in is read. -/
import Derived.Test.YtlhaldhfoeiohaaFrB
import Derived.Test.YtlhaldhfoeiohaaZn
import Derived.Lib.SmallJoins
import Derived.Deep.SlicePairs
namespace Go.Proofs.Ytlhaldhfoeiohaa
open Go.ChangeShapes Go.WideShapes Go.ChangeAt Go.RowKit
set_option linter.unusedVariables false
theorem tAt_range (f g : Nat → Int) (n i : Nat) (h : i < n) : tAt ((List.range n).map fun j => (f j, g j)) i = f i ∧ tSh ((List.range n).map fun j => (f j, g j)) i = g i := by
  simp [tAt, tSh, h]
theorem add_addr (b off i : Nat) : (⟨b, off, none⟩ : Addr).add i = ⟨b, off + i, none⟩ := by
  by_cases h : i = 0
  · subst h; simp [Addr.add]
  · simp [Addr.add, h]
theorem isTurns_open {H : Type} {enc : TypeId × Value → H} {W : World} {n : Nat} {v : Value} {y : DataW H × List MemPlace}
    (h : DataW.trod enc Try.prog W 0 (fun _ => true) true n 37 [v] = some y) : ∃ a cap ts, v = .slice a (List.length ts) cap ∧ List.length ts ≤ maxLen ∧ IsTurns W a ts := by
  rcases Deep.open_slice_pairs Try.underlying37 Try.underlying69 (by kernel_rfl) rfl rfl (by kernel_rfl) (by kernel_rfl) h with ⟨hcs, _⟩ | ⟨x, len, cap, m, n', V0, V1, D0, D1, P0, P1, hcs, _, hl, hm, hmm, _, hall⟩
  · simp only [List.cons.injEq, and_true] at hcs
    exact ⟨none, 0, [], hcs, by simp, .inl rfl⟩
  · simp only [List.cons.injEq, and_true] at hcs
    have hlm : len ≤ m := by rw [hmm]; simp; omega
    have e0 : ∀ i, i < len → ∃ z : Int, V0 i = .int .i64 z := fun i hi => by
      obtain ⟨z, e, _, _⟩ := DataW.trod_int Try.underlying3 (hall i (by omega)).2.2.1
      simp at e; exact ⟨z, e⟩
    have e1 : ∀ i, i < len → ∃ z : Int, V1 i = .int .i64 z := fun i hi => by
      obtain ⟨z, e, _, _⟩ := DataW.trod_int Try.underlying3 (hall i (by omega)).2.2.2
      simp at e; exact ⟨z, e⟩
    obtain ⟨f, hf⟩ := Deep.choose_lt e0
    obtain ⟨g, hg⟩ := Deep.choose_lt e1
    refine ⟨some x, cap, (List.range len).map fun j => (f j, g j), by simpa using hcs, by simpa using Nat.le_trans hl hm, ?_⟩
    by_cases h0 : len = 0
    · subst h0; exact .inl (by simp)
    · right
      obtain ⟨b, off, spot⟩ := x
      have hc := (hall 0 (by omega)).1
      have hspot : spot = none := by simpa [Addr.add] using World.cell?_spot hc
      subst hspot
      refine ⟨b, off, rfl, ?_, fun i hi => ?_⟩
      · rw [add_addr] at hc; exact cell_lt hc
      · have hi' : i < len := by simpa using hi
        obtain ⟨q0, q1, _, _⟩ := hall i (by omega)
        rw [add_addr, hf i hi'] at q0
        rw [add_addr, hg i hi'] at q1
        rw [(tAt_range f g len i hi').1, (tAt_range f g len i hi').2]
        exact ⟨q0, by simpa [Nat.add_assoc] using q1⟩
end Go.Proofs.Ytlhaldhfoeiohaa
