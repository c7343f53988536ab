/- How a list of zones that came in is read. -/
import Derived.Test.YtlhaldhfoeiohaaFrZ
import Derived.Test.YtlhaldhfoeiohaaZl
import Derived.Deep.Slices
namespace Go.Proofs.Ytlhaldhfoeiohaa
open Go.ChangeShapes Go.WideShapes Go.ChangeAt Go.RowKit
set_option linter.unusedVariables false
theorem zAt_range (f : Nat → ZR) (n i : Nat) (h : i < n) : zAt ((List.range n).map f) i = f i := by simp [zAt, h]
set_option maxRecDepth 100000 in
theorem isZones_open {H : Type} {enc : TypeId × Value → H} {W : World} {n : Nat} {v : Value} {y : DataW H × List MemPlace}
    (h : DataW.trod enc Try.prog W 0 (fun _ => true) true n 22 [v] = some y) : ∃ a cap zs, v = .slice a (List.length zs) cap ∧ ZWide zs ∧ IsZones W a zs := by
  have hC : Try.prog.cellsOf 39 = 3 := by kernel_rfl
  have hS : Try.prog.cellsOf 9 = 1 := by kernel_rfl
  have hI : Try.prog.cellsOf 3 = 1 := by kernel_rfl
  have hT : Try.prog.cellsOf 37 = 1 := by kernel_rfl
  rcases Deep.open_slice Try.underlying22 h with ⟨hcs, _⟩ | ⟨x, len, cap, m, n', D, Pl, hcs, _, hl, hm, hmm, _, hall⟩
  · simp only [List.cons.injEq, and_true] at hcs
    exact ⟨none, 0, [], hcs, ⟨by simp, fun i hi => by simp at hi⟩, .inl rfl⟩
  · simp only [List.cons.injEq, and_true] at hcs
    have hlm : len ≤ m := by rw [hmm]; simp; omega
    have each : ∀ i, i < len → ∃ z : ZR, (∃ ta tc, W.cell? (x.add (i * 3)) = some (.string z.s) ∧ W.cell? (x.add (i * 3 + 1)) = some (.int .i64 z.sh) ∧ W.cell? (x.add (i * 3 + 2)) = some (.slice ta z.ts.length tc) ∧ IsTurns W ta z.ts) ∧ z.s.size ≤ maxLen ∧ z.ts.length ≤ maxLen := by
      intro i hi
      obtain ⟨cs', h1, h2⟩ := hall i (by omega)
      rw [hC] at h1
      obtain ⟨_, hlen, hcell⟩ := World.cells?_some h1
      obtain ⟨xs, k, hk, hxy, _, hxl, hf⟩ := DataW.trod_struct Try.underlying39 h2
      match cs', hlen with
      | [v0, v1, v2], _ =>
        have some_of : ∀ j, j < 3 → ∃ y, xs[j]? = some y := fun j hj => ⟨xs[j]'(by rw [hxl]; exact hj), List.getElem?_eq_getElem _⟩
        obtain ⟨y0, q0⟩ : ∃ y, DataW.trod enc Try.prog W 0 (fun _ => true) true k 9 [v0] = some y := by
          obtain ⟨y, hy⟩ := some_of 0 (by omega)
          have q := hf 0 _ rfl
          have q' : DataW.trod enc Try.prog W 0 (fun _ => true) true k 9 (([v0, v1, v2].drop 0).take (Try.prog.cellsOf 9)) = xs[0]? := q
          rw [hS, hy] at q'
          exact ⟨y, q'⟩
        obtain ⟨y1, q1⟩ : ∃ y, DataW.trod enc Try.prog W 0 (fun _ => true) true k 3 [v1] = some y := by
          obtain ⟨y, hy⟩ := some_of 1 (by omega)
          have q := hf 1 _ rfl
          have q' : DataW.trod enc Try.prog W 0 (fun _ => true) true k 3 (([v0, v1, v2].drop 1).take (Try.prog.cellsOf 3)) = xs[1]? := q
          rw [hI, hy] at q'
          exact ⟨y, q'⟩
        obtain ⟨y2, q2⟩ : ∃ y, DataW.trod enc Try.prog W 0 (fun _ => true) true k 37 [v2] = some y := by
          obtain ⟨y, hy⟩ := some_of 2 (by omega)
          have q := hf 2 _ rfl
          have q' : DataW.trod enc Try.prog W 0 (fun _ => true) true k 37 (([v0, v1, v2].drop 2).take (Try.prog.cellsOf 37)) = xs[2]? := q
          rw [hT, hy] at q'
          exact ⟨y, q'⟩
        obtain ⟨s, e0, _, hs⟩ := DataW.trod_string Try.underlying9 q0
        obtain ⟨sh, e1, _, _⟩ := DataW.trod_int Try.underlying3 q1
        obtain ⟨ta, tc, ts, e2, tl, tt⟩ := isTurns_open q2
        simp at e0 e1
        subst e0 e1 e2
        have c0 := hcell 0 (by omega)
        have c1 := hcell 1 (by omega)
        have c2 := hcell 2 (by omega)
        rw [Deep.add_add] at c0 c1 c2
        exact ⟨⟨s, sh, ts⟩, ⟨ta, tc, by simpa using c0, by simpa using c1, by simpa using c2, tt⟩, hs, tl⟩
    have inh : Inhabited ZR := ⟨zr0⟩
    obtain ⟨f, hf⟩ := Deep.choose_lt each
    refine ⟨some x, cap, (List.range len).map f, by simpa using hcs, ⟨by simpa using Nat.le_trans hl hm, fun i hi => ?_⟩, ?_⟩
    · have hi' : i < len := by simpa using hi
      rw [zAt_range f len i hi']
      exact (hf i hi').2
    · by_cases h0 : len = 0
      · subst h0; exact .inl (by simp)
      · right
        obtain ⟨b, off, spot⟩ := x
        obtain ⟨⟨ta, tc, hc, _⟩, _⟩ := hf 0 (by omega)
        have hspot : spot = none := by simpa [Addr.add] using World.cell?_spot hc
        subst hspot
        refine ⟨b, off, rfl, ?_, fun i hi => ?_⟩
        · rw [add_addr] at hc; exact cell_lt hc
        · have hi' : i < len := by simpa using hi
          obtain ⟨⟨ta, tc, d0, d1, d2, tt⟩, _⟩ := hf i hi'
          rw [zAt_range f len i hi']
          rw [add_addr] at d0 d1 d2
          exact ⟨ta, tc, d0, by simpa [Nat.add_assoc] using d1, by simpa [Nat.add_assoc] using d2, tt⟩
end Go.Proofs.Ytlhaldhfoeiohaa
