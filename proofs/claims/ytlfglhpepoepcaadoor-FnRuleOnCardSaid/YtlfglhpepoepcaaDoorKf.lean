/- What chooses days, as function values in memory; what is asked of the functions that make and ask them. -/
import Derived.Test.YtlfglhpepoepcaaDoorKe
namespace Go.Proofs.YtlfglhpepoepcaaDoor
open Go.RowKit Go.Shelf
set_option linter.unusedVariables false

def dated (n : Int) : Value := .agg #[.int .i64 n, .int .i64 (yOf n), .int .i64 (mOf n), .int .i64 (dOf n)]
/-- A function value that says p of a day, in each world in which the blocks of K are as in w. -/
def Ch (K : Nat → Prop) (w : World) (v : Value) (p : Int → Bool) : Prop :=
  ∃ g lb, (g = 69 ∨ g = 71 ∨ g = 89 ∨ g = 93 ∨ g = 94 ∨ g = 95) ∧ v = .func (.func g) #[] lb ∧
    ∀ W : World, w.heap.size ≤ W.heap.size → (∀ k, K k → W.heap[k]? = w.heap[k]?) → ∀ n : Int, 0 ≤ n → n ≤ 3652058 →
      Calls Tryd.prog g (#[dated n] ++ lb) W fun e w' => e = .returned (.bool (p n)) ∧ Below W.heap.size W w'
theorem Ch.on {K : Nat → Prop} {w w' : World} {v : Value} {p : Int → Bool} (h : Ch K w v p) (hs : w.heap.size ≤ w'.heap.size) (hk : ∀ k, K k → w'.heap[k]? = w.heap[k]?) : Ch K w' v p := by
  obtain ⟨g, lb, hg, hv, hc⟩ := h
  exact ⟨g, lb, hg, hv, fun W h1 h2 => hc W (Nat.le_trans hs h1) (fun k hk' => (h2 k hk').trans (hk k hk'))⟩
/-- A list of such in memory. -/
structure ChL (K : Nat → Prop) (w : World) (a : Option Addr) (vs : List Value) (ps : List (Int → Bool)) : Prop where
  len : ps.length = vs.length
  mem : vs = [] ∨ ∃ b off, a = some ⟨b, off, none⟩ ∧ b < w.heap.size ∧ K b ∧ ∀ i, i < vs.length → w.cell? ⟨b, off + i, none⟩ = some (vs.getD i undef)
  ch : ∀ i, i < vs.length → Ch K w (vs.getD i undef) (ps.getD i fun _ => true)
theorem ChL.on {K : Nat → Prop} {w w' : World} {a : Option Addr} {vs : List Value} {ps : List (Int → Bool)} (h : ChL K w a vs ps) (hs : w.heap.size ≤ w'.heap.size) (hk : ∀ k, K k → w'.heap[k]? = w.heap[k]?) : ChL K w' a vs ps := by
  refine ⟨h.len, ?_, fun i hi => (h.ch i hi).on hs hk⟩
  rcases h.mem with h1 | ⟨b, off, h1, h2, h3, h4⟩
  · exact .inl h1
  · exact .inr ⟨b, off, h1, by omega, h3, fun i hi => by rw [World.cell?_of_block (w := w) (a := ⟨b, off + i, none⟩) (hk b h3)]; exact h4 i hi⟩
/-- Such that all say so just of the days that a rule chooses. -/
def ChR (K : Nat → Prop) (w : World) (a : Option Addr) (k : Nat) (r : Rl) (s : Int) : Prop :=
  ∃ vs ps, vs.length = k ∧ ChL K w a vs ps ∧ ∀ n : Int, 0 ≤ n → n ≤ 3652058 → ps.all (fun p => p n) = fitB r s n
theorem ChR.on {K : Nat → Prop} {w w' : World} {a : Option Addr} {k : Nat} {r : Rl} {s : Int} (h : ChR K w a k r s) (hs : w.heap.size ≤ w'.heap.size) (hk : ∀ k, K k → w'.heap[k]? = w.heap[k]?) : ChR K w' a k r s := by
  obtain ⟨vs, ps, h1, h2, h3⟩ := h
  exact ⟨vs, ps, h1, h2.on hs hk, h3⟩
/-- What is asked of choosersOf: K is what the list leans on: blocks that it laid, the rule's own, the table. -/
def ChoosersC : Prop := ∀ (r : Rl) (m : Rm) (s : Int) (w : World), ROk r → r.ds.length ≤ 8 → r.da.length ≤ 8 → r.mo.length ≤ 8 → RMem w r m → Tab w → 0 ≤ s → s ≤ 3652058 →
  Calls Tryd.prog 57 #[.agg #[.int .i64 r.f, .int .i64 r.ev, .int .i64 r.ct, .int .i64 r.un, .slice m.a0 r.ds.length m.c0, .slice m.a1 r.da.length m.c1, .slice m.a2 r.mo.length m.c2, .slice m.a3 r.pl.length m.c3, .int .i64 r.wk], .int .i64 s] w fun e w' => (∃ a k cap, e = .returned (.slice a k cap) ∧ k ≤ 8 ∧ ChR (fun b => m.blk r b ∧ b < w.heap.size ∨ b = 0 ∨ w.heap.size ≤ b ∧ b < w'.heap.size) w' a k r s) ∧ Below w.heap.size w w'
/-- What is asked of countingDays. -/
def CountingC : Prop := ∀ (r : Rl) (m : Rm) (s : Int) (K : Nat → Prop) (a : Option Addr) (k cap : Nat) (x y : Int) (w : World), ROk r → r.pl.length ≤ 8 → k ≤ 8 → RMem w r m → Tab w → ChR K w a k r s → (∀ j, K j → j < w.heap.size) → 0 ≤ x → y ≤ 3652058 → y ≤ x + 365 →
  Calls Tryd.prog 59 #[.agg #[.int .i64 r.f, .int .i64 r.ev, .int .i64 r.ct, .int .i64 r.un, .slice m.a0 r.ds.length m.c0, .slice m.a1 r.da.length m.c1, .slice m.a2 r.mo.length m.c2, .slice m.a3 r.pl.length m.c3, .int .i64 r.wk], .slice a k cap, .agg #[.int .i64 x, .int .i64 y]] w fun e w' => (∃ v, e = .returned v ∧ OI w' w.heap.size v (choice r s x y)) ∧ Below w.heap.size w w'
end Go.Proofs.YtlfglhpepoepcaaDoor
