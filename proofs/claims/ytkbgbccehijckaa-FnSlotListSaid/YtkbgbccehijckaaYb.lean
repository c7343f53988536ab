/- A row of pairs appended to a row that a call owns, whatever either has. -/
import Derived.Test.YtkbgbccehijckaaSk
import Derived.Laws.AppendOwn
import Derived.Laws.AppendOwnNone
namespace Go.Proofs.Ytkbgbccehijckaa
open Go.RowKit
set_option linter.unusedVariables false
theorem wpList_append_rows {P : Program} {w : World} {ops : Array Oper} {rest : List Oper} {o : Oper} {a : Act} {Q : Exit → Act → World → Prop} (hgd : o.guard = none) (s x : Operand) (t : TypeId)
    (ho : o.op = .call { callee := .builtin .append, args := #[s, x], argTypes := #[t, t] })
    (B B' : Nat) (T : TypeId) (i : TypeInfo) (z : Value) (ht : P.underlying t = some (.slice T)) (hi : P.info? T = some i) (hz : i.zero = some z)
    (hsize : i.size = 2) (hby : i.bytes = 16) (hzs : z.cells.size = 2)
    (v u : Value) (ts us : List (Int × Int)) (hs : a.eval s = v) (hown : OP w B T v ts) (hx : a.eval x = u) (hu : OP w B' T u us)
    (h63 : ts.length + us.length ≤ 4000000) (hbase : B ≤ w.heap.size)
    (h : ∀ v' w', OP w' B T v' (ts ++ us) → w.grownBy w' v.ownBlock → Below B w w' → wpList P ops Q rest (a.put o.dst v') w') : wpList P ops Q (o :: rest) a w := by
  rcases hu.2 with ⟨rfl, h0⟩ | ⟨g, cap, cur, rfl, hB, hg, _⟩
  · obtain rfl : us = [] := List.length_eq_zero_iff.1 h0
    refine wpList_append_own_none hgd s x t ho B T i 2 ht hi v ts.length (pcs ts) hs hown hx ?_
    have := h v w (by rw [List.append_nil]; exact hown) (World.grownBy.refl _ _) (Below.refl _ _)
    exact this
  · refine wpList_append_own w hgd s x t ho B T i z 2 16 ht hi hz hsize hby hzs (by omega) v ts.length (pcs ts) hs hown ⟨g, 0, none⟩ us.length cap (pcs us) hx (pcs_len us) (OP.news hu rfl) (pcs_one us) (by unfold maxLen; omega) (by omega) hbase ?_
    intro v' w' h2 h3 _
    exact h v' w' (by unfold OP; rw [pcs_append, List.length_append]; exact h2) h3 ((Below.refl _ _).grown h3 hbase (fun k hk => (World.ownsRow.lt hown k hk).1))
theorem implSortNone (cap : Nat) (w : World) : Calls Try.prog 59 #[.slice none 0 cap, .func (.func 60) #[] #[]] w fun e w' => e = .returned (.tuple #[]) ∧ w' = w := by
  have hcon := AnyF.slices_SortFunc_none srt none cap (.func (.func 60) #[] #[]) w
  change Calls Try.prog 59 _ _ _ at hcon
  exact hcon
set_option maxRecDepth 100000 in
set_option maxHeartbeats 8000000 in
theorem implCountedNone (w : World) :
    Calls Try.prog 42 #[.slice none 0 0] w fun e w' => (∃ v, e = .returned v ∧ OP w' w.heap.size 51 v []) ∧ Below w.heap.size w w' := by
  go_enter Try.func42, Try.ntmps42
  go_wp2_with fail
  with_reducible refine (implSortNone 0 w).mono ?_
  rintro e w1 ⟨rfl, rfl⟩
  have K : TL w1 w1.heap.size 0 0 (.slice none 0 0) [] (w1.alloc (.cells #[.int .i64 0, .int .i64 0, .slice none 0 0] 77)) :=
    ⟨by simp, by simp, by simp, fun i => by simp, OP.nil _ _ _, (Below.refl _ _).alloc (Nat.le_refl _) _⟩
  have IO := implInOrder w1 _ w1.heap.size none 0 [] _ K (.inl rfl) rfl (by simp) (fun i hi => by simp at hi)
  clear K
  go_wp2_with fail
  refine IO.mono ?_
  rintro e w2 ⟨rfl, c, b, v, K2⟩
  have k2 := K2.c2
  have HO2 : Hid (OP w2 w1.heap.size 51 v []) := K2.own.base (by omega)
  have HB2 : Hid (Below w1.heap.size w1 w2) := K2.bel
  clear K2 IO
  go_wp2
  go_ret
  exact ⟨⟨_, rfl, HO2.out⟩, HB2.out⟩
/-- Edges that are owned, counted. -/
theorem implCountedOwn (B : Nat) (v : Value) (es : List (Int × Int)) (w : World) (h : OP w B 74 v es) (hB : B ≤ w.heap.size) (hl : es.length ≤ 1000000) (hs : ∀ e ∈ es, -1 ≤ e.2 ∧ e.2 ≤ 1) :
    Calls Try.prog 42 #[v] w fun e w' => (∃ u, e = .returned u ∧ OP w' w.heap.size 51 u (runE (edSort es))) ∧ Below B w w' := by
  rcases h.2 with ⟨rfl, h0⟩ | ⟨g, cap, cur, rfl, hg, hh, _⟩
  · obtain rfl : es = [] := List.length_eq_zero_iff.1 h0
    have e0 : runE (edSort []) = [] := by simp [edSort, runE]
    rw [e0]
    exact (implCountedNone w).mono fun e w' ⟨⟨u, he, o⟩, b⟩ => ⟨⟨u, he, o⟩, b.mono hB⟩
  · exact implCounted B g cap es w h hg (Array.getElem?_eq_some_iff.1 hh).1 hl hs
end Go.Proofs.Ytkbgbccehijckaa
