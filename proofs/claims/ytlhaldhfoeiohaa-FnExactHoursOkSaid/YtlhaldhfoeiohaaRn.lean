/- A rule in plain numbers, and as it lies in memory. -/
import Derived.Test.YtlhaldhfoeiohaaZn
import Derived.Test.YtlhaldhfoeiohaaOi
namespace Go.Proofs.Ytlhaldhfoeiohaa
open Go.RowKit
set_option linter.unusedVariables false
/-- A rule. -/
structure Rl where
  f : Int
  ev : Int
  ct : Int
  un : Int
  ds : List (Int × Int)
  da : List Int
  mo : List Int
  pl : List Int
  wk : Int

/-- Where a rule's lists lie. -/
structure Rm where
  a0 : Option Addr
  c0 : Nat
  a1 : Option Addr
  c1 : Nat
  a2 : Option Addr
  c2 : Nat
  a3 : Option Addr
  c3 : Nat
structure RMem (w : World) (r : Rl) (m : Rm) : Prop where
  t : IsTurns w m.a0 r.ds
  d : IsInts w m.a1 r.da
  o : IsInts w m.a2 r.mo
  p : IsInts w m.a3 r.pl
theorem RMem.below {w w' : World} {r : Rl} {m : Rm} (h : RMem w r m) (hb : Below w.heap.size w w') : RMem w' r m :=
  ⟨h.t.below (B := 0) hb, h.d.below hb, h.o.below hb, h.p.below hb⟩
/-- A block in which one of the lists lies, if it is not empty. -/
def Rm.blk (m : Rm) (r : Rl) (k : Nat) : Prop := (r.ds ≠ [] ∧ ∃ x, m.a0 = some x ∧ x.block = k) ∨ (r.da ≠ [] ∧ ∃ x, m.a1 = some x ∧ x.block = k) ∨ (r.mo ≠ [] ∧ ∃ x, m.a2 = some x ∧ x.block = k) ∨ (r.pl ≠ [] ∧ ∃ x, m.a3 = some x ∧ x.block = k)
theorem IsInts.lt {w : World} {a : Option Addr} {l : List Int} (h : IsInts w a l) (hl : l ≠ []) {x : Addr} (hx : a = some x) : x.block < w.heap.size := by
  rcases h with h | ⟨b, off, h1, h2, _⟩
  · exact absurd h hl
  · rw [h1] at hx; cases hx; exact h2
theorem IsTurns.lt {w : World} {a : Option Addr} {l : List (Int × Int)} (h : IsTurns w a l) (hl : l ≠ []) {x : Addr} (hx : a = some x) : x.block < w.heap.size := by
  rcases h with h | ⟨b, off, h1, h2, _⟩
  · exact absurd h hl
  · rw [h1] at hx; cases hx; exact h2
theorem RMem.blk_lt {w : World} {r : Rl} {m : Rm} (h : RMem w r m) {k : Nat} (hk : m.blk r k) : k < w.heap.size := by
  rcases hk with ⟨h1, x, hx, rfl⟩ | ⟨h1, x, hx, rfl⟩ | ⟨h1, x, hx, rfl⟩ | ⟨h1, x, hx, rfl⟩
  · exact h.t.lt h1 hx
  · exact h.d.lt h1 hx
  · exact h.o.lt h1 hx
  · exact h.p.lt h1 hx
theorem IsInts.same {w W : World} {a : Option Addr} {l : List Int} (h : IsInts w a l) (hs : w.heap.size ≤ W.heap.size) (hk : l ≠ [] → ∀ x, a = some x → W.heap[x.block]? = w.heap[x.block]?) : IsInts W a l := by
  rcases h with h | ⟨b, off, rfl, h2, h3⟩
  · exact .inl h
  · refine .inr ⟨b, off, rfl, by omega, fun i hi => ?_⟩
    rw [World.cell?_of_block (w := w) (a := ⟨b, off + i, none⟩) (hk (fun e => by rw [e] at hi; simp at hi) ⟨b, off, none⟩ rfl)]; exact h3 i hi
theorem IsTurns.same {w W : World} {a : Option Addr} {l : List (Int × Int)} (h : IsTurns w a l) (hs : w.heap.size ≤ W.heap.size) (hk : l ≠ [] → ∀ x, a = some x → W.heap[x.block]? = w.heap[x.block]?) : IsTurns W a l := by
  rcases h with h | ⟨b, off, rfl, h2, h3⟩
  · exact .inl h
  · refine .inr ⟨b, off, rfl, by omega, fun i hi => ?_⟩
    rw [World.cell?_of_block (w := w) (a := ⟨b, off + i * 2, none⟩) (hk (fun e => by rw [e] at hi; simp at hi) ⟨b, off, none⟩ rfl), World.cell?_of_block (w := w) (a := ⟨b, off + i * 2 + 1, none⟩) (hk (fun e => by rw [e] at hi; simp at hi) ⟨b, off, none⟩ rfl)]; exact h3 i hi
theorem RMem.same {w W : World} {r : Rl} {m : Rm} (h : RMem w r m) (hs : w.heap.size ≤ W.heap.size) (hk : ∀ k, m.blk r k → W.heap[k]? = w.heap[k]?) : RMem W r m :=
  ⟨h.t.same hs (fun hn x hx => hk _ (.inl ⟨hn, x, hx, rfl⟩)), h.d.same hs (fun hn x hx => hk _ (.inr (.inl ⟨hn, x, hx, rfl⟩))), h.o.same hs (fun hn x hx => hk _ (.inr (.inr (.inl ⟨hn, x, hx, rfl⟩)))), h.p.same hs (fun hn x hx => hk _ (.inr (.inr (.inr ⟨hn, x, hx, rfl⟩))))⟩
/-- A block that holds a rule. -/
def CB (W : World) (B : Nat) (r : Rl) (m : Rm) : Prop := W.cell? ⟨B, 0, none⟩ = some (.int .i64 r.f) ∧ W.cell? ⟨B, 1, none⟩ = some (.int .i64 r.ev) ∧ W.cell? ⟨B, 2, none⟩ = some (.int .i64 r.ct) ∧ W.cell? ⟨B, 3, none⟩ = some (.int .i64 r.un) ∧ W.cell? ⟨B, 4, none⟩ = some (.slice m.a0 r.ds.length m.c0) ∧ W.cell? ⟨B, 5, none⟩ = some (.slice m.a1 r.da.length m.c1) ∧ W.cell? ⟨B, 6, none⟩ = some (.slice m.a2 r.mo.length m.c2) ∧ W.cell? ⟨B, 7, none⟩ = some (.slice m.a3 r.pl.length m.c3) ∧ W.cell? ⟨B, 8, none⟩ = some (.int .i64 r.wk)
theorem CB.on {W W' : World} {B : Nat} {r : Rl} {m : Rm} (h : CB W B r m) (hk : W'.heap[B]? = W.heap[B]?) : CB W' B r m := by
  unfold CB at h ⊢
  have e : ∀ o, W'.cell? ⟨B, o, none⟩ = W.cell? ⟨B, o, none⟩ := fun o => World.cell?_of_block (w := W) (a := (⟨B, o, none⟩ : Addr)) hk
  simp only [e]
  exact h
theorem CB.new (w : World) (r : Rl) (m : Rm) (T : TypeId) : CB (w.alloc (.cells #[.int .i64 r.f, .int .i64 r.ev, .int .i64 r.ct, .int .i64 r.un, .slice m.a0 r.ds.length m.c0, .slice m.a1 r.da.length m.c1, .slice m.a2 r.mo.length m.c2, .slice m.a3 r.pl.length m.c3, .int .i64 r.wk] T)) w.heap.size r m := by
  unfold CB; simp
theorem CB.lt {W : World} {B : Nat} {r : Rl} {m : Rm} (h : CB W B r m) : B < W.heap.size := cell_lt h.1
end Go.Proofs.Ytlhaldhfoeiohaa
