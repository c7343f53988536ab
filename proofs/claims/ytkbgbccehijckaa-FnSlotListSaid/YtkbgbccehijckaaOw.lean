/- Rows of pairs that a call owns. -/
import Derived.Test.YtkbgbccehijckaaZn
import Derived.Deep.AppendLies
import Derived.Laws.OwnMore
namespace Go.Proofs.Ytkbgbccehijckaa
open Go.RowKit
set_option linter.unusedVariables false
/-- Pairs as cells. -/
def pcs (ts : List (Int × Int)) : List Value := ts.flatMap fun p => [.int .i64 p.1, .int .i64 p.2]
theorem pcs_len (ts : List (Int × Int)) : (pcs ts).length = ts.length * 2 := by
  induction ts with
  | nil => rfl
  | cons p ts ih => simp [pcs] at *; omega
theorem pcs_append (ts us : List (Int × Int)) : pcs (ts ++ us) = pcs ts ++ pcs us := by simp [pcs]
theorem pcs_snoc (ts : List (Int × Int)) (x y : Int) : pcs (ts ++ [(x, y)]) = pcs ts ++ [.int .i64 x, .int .i64 y] := by simp [pcs]
theorem pcs_at (ts : List (Int × Int)) : ∀ i, i < ts.length → (pcs ts)[i * 2]? = some (.int .i64 (tAt ts i)) ∧ (pcs ts)[i * 2 + 1]? = some (.int .i64 (tSh ts i)) := by
  induction ts with
  | nil => intro i hi; simp at hi
  | cons p ts ih =>
    intro i hi
    cases i with
    | zero => simp [pcs, tAt, tSh]
    | succ i =>
      have := ih i (by simpa using hi)
      simp only [pcs, List.flatMap_cons, List.cons_append, List.nil_append, show (i + 1) * 2 = i * 2 + 1 + 1 from by omega, List.getElem?_cons_succ] at *
      simpa [tAt, tSh] using this
theorem tAt_get (ts : List (Int × Int)) (i : Nat) (h : i < ts.length) : (tAt ts i, tSh ts i) = ts[i] := by
  simp [tAt, tSh, h]
abbrev OP (w : World) (B : Nat) (T : TypeId) (v : Value) (ts : List (Int × Int)) : Prop := w.ownsRow B T 2 v ts.length (pcs ts)
theorem OP.nil (w : World) (B : Nat) (T : TypeId) : OP w B T (.slice none 0 0) [] := ⟨rfl, .inl ⟨rfl, rfl⟩⟩
theorem OP.turns {w : World} {B : Nat} {T : TypeId} {v : Value} {ts : List (Int × Int)} (h : OP w B T v ts) : ∃ a cap, v = .slice a ts.length cap ∧ IsTurns w a ts := by
  rcases h.2 with ⟨rfl, h0⟩ | ⟨g, cap, cur, rfl, hB, hg, hn, hm, hs, ht⟩
  · exact ⟨none, 0, by rw [h0], .inl (List.length_eq_zero_iff.1 h0)⟩
  · refine ⟨some ⟨g, 0, none⟩, cap, rfl, .inr ⟨g, 0, rfl, (Array.getElem?_eq_some_iff.1 hg).1, fun i hi => ?_⟩⟩
    have hc := fun j hj => World.ownsRow.cellAt (w := w) (base := B) (e := T) (size := 2) (g := g) (n := ts.length) (cap := cap) (xs := pcs ts) h j hj
    have := pcs_at ts i hi
    rw [Nat.zero_add, hc _ (by omega), hc _ (by omega)]
    exact this
theorem OP.isT {w : World} {B n cap : Nat} {T : TypeId} {a : Option Addr} {ts : List (Int × Int)} (h : OP w B T (.slice a n cap) ts) : IsTurns w a ts ∧ n = ts.length := by
  obtain ⟨a', cap', e, t⟩ := h.turns
  simp only [Value.slice.injEq] at e
  obtain ⟨rfl, rfl, rfl⟩ := e
  exact ⟨t, rfl⟩
theorem OP.on {w w' : World} {B : Nat} {T : TypeId} {v : Value} {ts : List (Int × Int)} (h : OP w B T v ts) (hb : Below w.heap.size w w') : OP w' B T v ts := by
  obtain ⟨h1, h2⟩ := h
  refine ⟨h1, ?_⟩
  rcases h2 with h2 | ⟨g, cap, cur, hv, hg, hh, r⟩
  · exact .inl h2
  · exact .inr ⟨g, cap, cur, hv, hg, by rw [hb.block g (Array.getElem?_eq_some_iff.1 hh).1]; exact hh, r⟩
theorem OP.base {w : World} {B B' : Nat} {T : TypeId} {v : Value} {ts : List (Int × Int)} (h : OP w B T v ts) (hB : B' ≤ B) : OP w B' T v ts := by
  obtain ⟨h1, h2⟩ := h
  refine ⟨h1, ?_⟩
  rcases h2 with h2 | ⟨g, cap, cur, hv, hg, r⟩
  · exact .inl h2
  · exact .inr ⟨g, cap, cur, hv, by omega, r⟩
theorem OP.shape {w : World} {B : Nat} {T : TypeId} {v : Value} {ts : List (Int × Int)} (h : OP w B T v ts) (hl : 0 < ts.length) : ∃ g cap, v = .slice (some ⟨g, 0, none⟩) ts.length cap ∧ B ≤ g ∧ g < w.heap.size := by
  rcases h.2 with ⟨_, h0⟩ | ⟨g, cap, cur, rfl, hB, hg, _⟩
  · omega
  · exact ⟨g, cap, rfl, hB, (Array.getElem?_eq_some_iff.1 hg).1⟩
theorem OP.shape0 {w : World} {B : Nat} {T : TypeId} {v : Value} {ts : List (Int × Int)} (h : OP w B T v ts) : ∃ a cap, v = .slice a ts.length cap := by
  obtain ⟨a, cap, e, _⟩ := h.turns
  exact ⟨a, cap, e⟩
theorem OP.at {w : World} {B g cap : Nat} {T : TypeId} {ts : List (Int × Int)} (h : OP w B T (.slice (some ⟨g, 0, none⟩) ts.length cap) ts) {i : Nat} (hi : i < ts.length) :
    w.cell? ⟨g, i * 2, none⟩ = some (.int .i64 (tAt ts i)) ∧ w.cell? ⟨g, i * 2 + 1, none⟩ = some (.int .i64 (tSh ts i)) ∧ ∀ j, w.frozen? ⟨g, j, none⟩ = false := by
  have hc := fun j hj => World.ownsRow.cellAt (w := w) (base := B) (e := T) (size := 2) (g := g) (n := ts.length) (cap := cap) (xs := pcs ts) h j hj
  have hf := fun j => World.ownsRow.frozenAt (w := w) (base := B) (e := T) (size := 2) (g := g) (n := ts.length) (cap := cap) (xs := pcs ts) h j
  have := pcs_at ts i hi
  exact ⟨by rw [hc _ (by omega)]; exact this.1, by rw [hc _ (by omega)]; exact this.2, hf⟩
/-- A row that a slice literal lays. -/
theorem OP.made (w : World) (T : TypeId) (ts : List (Int × Int)) (cs : Array Value) (hc : cs.toList = pcs ts) (hl : ts.length ≤ maxLen) : OP (w.alloc (.cells cs T)) w.heap.size T (.slice (some ⟨w.heap.size, 0, none⟩) ts.length ts.length) ts := by
  have hz : cs.size = ts.length * 2 := by rw [← Array.length_toList, hc, pcs_len]
  refine ⟨pcs_len ts, .inr ⟨w.heap.size, ts.length, cs, rfl, Nat.le_refl _, heap_alloc_new w _, Nat.le_refl _, hl, hz, ?_⟩⟩
  rw [hc, List.take_of_length_le (by rw [pcs_len]; omega)]
end Go.Proofs.Ytkbgbccehijckaa
