/- A text cut at each stroke. -/
import Derived.Test.YtdcohpokfdaknaaDoorTx
import Derived.OwnWalk
import Derived.Deep.QuietTactic
import Derived.BigQuiet
import Derived.Deep.RegionHeld3
import Derived.Maps.AppendAt
namespace Go.Proofs.YtdcohpokfdaknaaDoor
open Go.RowKit
set_option linter.unusedVariables false
/-- Where the piece begins that stands open behind so many bytes, and the pieces ahead of it. -/
def cutA (s : ByteArray) : Nat → Nat × List ByteArray
  | 0 => (0, [])
  | i + 1 => if bt s i = 45 then (i + 1, (cutA s i).2 ++ [s.extract (cutA s i).1 i]) else cutA s i
def cut (s : ByteArray) : List ByteArray := (cutA s s.size).2 ++ [s.extract (cutA s s.size).1 s.size]
theorem cutA_yes {s : ByteArray} {i : Nat} (h : bt s i = 45) : cutA s (i + 1) = (i + 1, (cutA s i).2 ++ [s.extract (cutA s i).1 i]) := by simp [cutA, h]
theorem cutA_no {s : ByteArray} {i : Nat} (h : bt s i ≠ 45) : cutA s (i + 1) = cutA s i := by simp [cutA, h]
theorem cutA_le (s : ByteArray) (i : Nat) : (cutA s i).1 ≤ i ∧ (cutA s i).2.length ≤ i := by
  induction i with
  | zero => simp [cutA]
  | succ i ih =>
    by_cases h : bt s i = 45
    · rw [cutA_yes h]; simp; omega
    · rw [cutA_no h]; omega
/-- Texts of a call's own making, in a block from B on. -/
def OS (w : World) (B : Nat) (v : Value) (l : List ByteArray) : Prop := w.ownsRow B 9 1 v l.length (l.map Value.string)
theorem OS.below {w w' : World} {B : Nat} {v : Value} {l : List ByteArray} (h : OS w B v l) (hb : Below w.heap.size w w') : OS w' B v l := by
  obtain ⟨h1, h2⟩ := h
  refine ⟨h1, ?_⟩
  rcases h2 with h2 | ⟨g, cap, cur, a, b, c, d⟩
  · exact .inl h2
  · exact .inr ⟨g, cap, cur, a, b, (hb.block g (Array.getElem?_eq_some_iff.1 c).1).trans c, d⟩
theorem OS.at {w : World} {B : Nat} {v : Value} {l : List ByteArray} (h : OS w B v l) : ∃ a cap, v = .slice a l.length cap ∧ ∀ i t, l[i]? = some t → ∃ g, a = some ⟨g, 0, none⟩ ∧ w.cell? ⟨g, i, none⟩ = some (.string t) := by
  obtain ⟨h1, h2⟩ := h
  rcases h2 with ⟨rfl, h0⟩ | ⟨g, cap, cur, rfl, hB, hg, hn, hm, hs, ht⟩
  · exact ⟨none, 0, by rw [h0], fun i t hi => by rw [List.length_eq_zero_iff.1 h0] at hi; simp at hi⟩
  · refine ⟨some ⟨g, 0, none⟩, cap, rfl, fun i t hi => ⟨g, rfl, ?_⟩⟩
    have hc := World.ownsRow.cells (w := w) (base := B) (e := 9) (size := 1) (v := .slice (some ⟨g, 0, none⟩) l.length cap) (n := l.length) (xs := l.map Value.string) ⟨h1, .inr ⟨g, cap, cur, rfl, hB, hg, hn, hm, hs, ht⟩⟩ (g := g) rfl i (.string t) (by simp [hi])
    have ha : (⟨g, 0, none⟩ : Addr).add i = ⟨g, 0 + i, none⟩ := by unfold Addr.add; split <;> simp_all
    rw [ha] at hc
    simpa using hc
theorem strInfo : (Tryd.prog.info? 9).map (fun i => (i.zero, i.size, i.bytes)) = some (some (.string ByteArray.empty), 1, 16) := by kernel_rfl
theorem OS.lit0 (w : World) (B : Nat) (hB : B ≤ w.heap.size) : OS (w.alloc (.cells #[] 9)) B (.slice (some ⟨w.heap.size, 0, none⟩) 0 0) [] :=
  ⟨by simp, .inr ⟨w.heap.size, 0, #[], rfl, hB, heap_alloc_new w _, by simp, by unfold maxLen; omega, by simp, by simp⟩⟩
/-- What stands while a text is cut. -/
abbrev TS (W0 : World) (v : Value) (l : List ByteArray) (w' : World) : Prop := OS w' W0.heap.size v l ∧ Below W0.heap.size W0 w'
theorem TS.app {W0 W w4 : World} {v v' : Value} {l : List ByteArray} {t : ByteArray} {o : Obj} (h : TS W0 v l W)
    (hown : w4.ownsRow W0.heap.size 9 1 v' (l.length + 1) (l.map Value.string ++ [Value.string t])) (hgrow : (W.alloc o).grownBy w4 v.ownBlock) : TS W0 v' (l ++ [t]) w4 := by
  have B : Below W0.heap.size W0 w4 := (h.2.alloc h.2.size o).grown hgrow (by have := h.2.size; simp; omega) (fun k hk => (World.ownsRow.lt h.1 k hk).1)
  exact ⟨by unfold OS; simpa using hown, B⟩
end Go.Proofs.YtdcohpokfdaknaaDoor
