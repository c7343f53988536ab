/- Rules of the program: their lists, and the whole. -/
import Derived.Test.YtlhaldhfoeiohaaRw
namespace Go.Proofs.Ytlhaldhfoeiohaa
open Go.RowKit
set_option linter.unusedVariables false
/-- A rule in memory, with its lists. -/
abbrev QR (w : World) (R : Nat) (v0 v1 v2 v3 v4 v5 v6 v7 v8 : Value) (a0 : Option Addr) (ds : List (Int × Int)) (a1 : Option Addr) (da : List Int) (a2 : Option Addr) (mo : List Int) (a3 : Option Addr) (pl : List Int) (W : World) : Prop :=
  W.cell? ⟨R, 0, none⟩ = some v0 ∧ W.cell? ⟨R, 1, none⟩ = some v1 ∧ W.cell? ⟨R, 2, none⟩ = some v2 ∧ W.cell? ⟨R, 3, none⟩ = some v3 ∧ W.cell? ⟨R, 4, none⟩ = some v4 ∧ W.cell? ⟨R, 5, none⟩ = some v5 ∧ W.cell? ⟨R, 6, none⟩ = some v6 ∧ W.cell? ⟨R, 7, none⟩ = some v7 ∧ W.cell? ⟨R, 8, none⟩ = some v8 ∧ IsTurns W a0 ds ∧ IsInts W a1 da ∧ IsInts W a2 mo ∧ IsInts W a3 pl ∧ Below w.heap.size w W
section
variable {w W W' : World} {R : Nat} {v0 v1 v2 v3 v4 v5 v6 v7 v8 : Value} {a0 : Option Addr} {ds : List (Int × Int)} {a1 : Option Addr} {da : List Int} {a2 : Option Addr} {mo : List Int} {a3 : Option Addr} {pl : List Int}
theorem QR.on (h : QR w R v0 v1 v2 v3 v4 v5 v6 v7 v8 a0 ds a1 da a2 mo a3 pl W) (hb : Below W.heap.size W W') : QR w R v0 v1 v2 v3 v4 v5 v6 v7 v8 a0 ds a1 da a2 mo a3 pl W' := by
  obtain ⟨d0, d1, d2, d3, d4, d5, d6, d7, d8, T, I1, I2, I3, B⟩ := h
  have lt := cell_lt d0
  refine ⟨?_, ?_, ?_, ?_, ?_, ?_, ?_, ?_, ?_, T.below (B := 0) hb, I1.below hb, I2.below hb, I3.below hb, bstep B hb⟩ <;> (rw [hb.cell lt]; assumption)
theorem QR.new (T : TypeId) (h0 : IsTurns w a0 ds) (h1 : IsInts w a1 da) (h2 : IsInts w a2 mo) (h3 : IsInts w a3 pl) : QR w w.heap.size v0 v1 v2 v3 v4 v5 v6 v7 v8 a0 ds a1 da a2 mo a3 pl (w.alloc (.cells #[v0, v1, v2, v3, v4, v5, v6, v7, v8] T)) := by
  have hb : Below w.heap.size w (w.alloc (.cells #[v0, v1, v2, v3, v4, v5, v6, v7, v8] T)) := (Below.refl _ _).alloc (Nat.le_refl _) _
  exact ⟨by simp, by simp, by simp, by simp, by simp, by simp, by simp, by simp, by simp, h0.below (B := 0) hb, h1.below hb, h2.below hb, h3.below hb, hb⟩
theorem QR.t (h : QR w R v0 v1 v2 v3 v4 v5 v6 v7 v8 a0 ds a1 da a2 mo a3 pl W) : IsTurns W a0 ds := h.2.2.2.2.2.2.2.2.2.1
theorem QR.i1 (h : QR w R v0 v1 v2 v3 v4 v5 v6 v7 v8 a0 ds a1 da a2 mo a3 pl W) : IsInts W a1 da := h.2.2.2.2.2.2.2.2.2.2.1
theorem QR.i2 (h : QR w R v0 v1 v2 v3 v4 v5 v6 v7 v8 a0 ds a1 da a2 mo a3 pl W) : IsInts W a2 mo := h.2.2.2.2.2.2.2.2.2.2.2.1
theorem QR.i3 (h : QR w R v0 v1 v2 v3 v4 v5 v6 v7 v8 a0 ds a1 da a2 mo a3 pl W) : IsInts W a3 pl := h.2.2.2.2.2.2.2.2.2.2.2.2.1
theorem QR.b (h : QR w R v0 v1 v2 v3 v4 v5 v6 v7 v8 a0 ds a1 da a2 mo a3 pl W) : Below w.heap.size w W := h.2.2.2.2.2.2.2.2.2.2.2.2.2
end
end Go.Proofs.Ytlhaldhfoeiohaa
