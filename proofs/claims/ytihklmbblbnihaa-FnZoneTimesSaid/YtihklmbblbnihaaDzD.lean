/- What a draw of a zone and a time leaves; a zone that stands in a law. -/
import Derived.Test.YtihklmbblbnihaaZn
import Derived.Test.YtihklmbblbnihaaRd
import Derived.Test.YtihklmbblbnihaaC3
namespace Go.Proofs.Ytihklmbblbnihaa
open Go.RowKit
set_option linter.unusedVariables false
def DrewZ (w : World) (e : Ending) (w' : World) : Prop := ∃ s sh a cap ts x, e = .returned (.tuple #[.agg #[.string s, .int .i64 sh, .slice a (List.length ts) cap], .int .i64 x]) ∧ IsTurns w' a ts ∧ List.length ts ≤ 4 ∧ s.size ≤ 100 ∧ Below w.heap.size w w'
def DrewF (w : World) (e : Ending) (w' : World) : Prop := ∃ s sh a cap ts x, e = .returned (.tuple #[.agg #[.string s, .int .i64 sh, .slice a (List.length ts) cap], .int .i64 x]) ∧ IsTurns w' a ts ∧ List.length ts ≤ 4 ∧ s.size ≤ 100 ∧ Below w.heap.size w w' ∧ ∀ i, i < List.length ts → tAt ts i ≠ 0
/-- The law's own zone, in block b. -/
abbrev LZ (w0 : World) (b : Nat) (s sh sl : Value) (a : Option Addr) (ts : List (Int × Int)) (W : World) : Prop :=
  W.cell? ⟨b, 0, none⟩ = some s ∧ W.cell? ⟨b, 1, none⟩ = some sh ∧ W.cell? ⟨b, 2, none⟩ = some sl ∧ IsTurns W a ts ∧ Below w0.heap.size w0 W
theorem LZ.on {w0 W W' : World} {b : Nat} {s sh sl : Value} {a : Option Addr} {ts : List (Int × Int)} (h : LZ w0 b s sh sl a ts W) (hb : Below W.heap.size W W') : LZ w0 b s sh sl a ts W' := by
  obtain ⟨c0, c1, c2, T, B⟩ := h
  obtain ⟨d0, d1, d2⟩ := C3.on (w := W) ⟨c0, c1, c2⟩ hb
  exact ⟨d0, d1, d2, T.below (B := 0) hb, bstep B hb⟩
theorem LZ.t {w0 W : World} {b : Nat} {s sh sl : Value} {a : Option Addr} {ts : List (Int × Int)} (h : LZ w0 b s sh sl a ts W) : IsTurns W a ts := h.2.2.2.1
theorem LZ.b {w0 W : World} {b : Nat} {s sh sl : Value} {a : Option Addr} {ts : List (Int × Int)} (h : LZ w0 b s sh sl a ts W) : Below w0.heap.size w0 W := h.2.2.2.2
theorem LZ.made {w0 w : World} {s : ByteArray} {sh : Int} {n cap : Nat} {a : Option Addr} {ts : List (Int × Int)} (T : IsTurns w a ts) (B : Below w0.heap.size w0 w) (ty : TypeId) : LZ w0 w.heap.size (.string s) (.int .i64 sh) (.slice a n cap) a ts (w.alloc (.cells #[.string s, .int .i64 sh, .slice a n cap] ty)) := by
  have bz : Below w.heap.size w (w.alloc (.cells #[.string s, .int .i64 sh, .slice a n cap] ty)) := (Below.refl _ _).alloc (Nat.le_refl _) _
  obtain ⟨d0, d1, d2⟩ := C3.new w (.string s) (.int .i64 sh) (.slice a n cap) ty
  exact ⟨d0, d1, d2, T.below (B := 0) bz, bstep B bz⟩
end Go.Proofs.Ytihklmbblbnihaa
