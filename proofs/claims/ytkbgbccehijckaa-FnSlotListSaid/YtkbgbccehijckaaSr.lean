/- Spans put in order, and made few: the specification's. -/
import Derived.Test.YtkbgbccehijckaaSm
import Derived.Test.YtkbgbccehijckaaCe
import Derived.Deep.RegionHeldLaw
namespace Go.Proofs.Ytkbgbccehijckaa
open Go.RowKit
set_option linter.unusedVariables false
/-- An append at a step of a region that draws its order, nothing appended or something. -/
theorem step_append_any {P : Program} (w : World) {ops : Array Oper} {o : Oper} {a : Act} {K : Act → World → Prop} {Q : Exit → Act → World → Prop} {E : Prop} (hgd : o.guard = none) (s x : Operand) (t : TypeId)
    (ho : o.op = .call { callee := .builtin .append, args := #[s, x], argTypes := #[t, t] })
    (base : Nat) (e : TypeId) (i : TypeInfo) (z : Value) (size bytes : Nat) (ht : P.underlying t = some (.slice e)) (hi : P.info? e = some i) (hz : i.zero = some z)
    (hsize : i.size = size) (hby : i.bytes = bytes) (hzs : z.cells.size = size) (hsz : 0 < size)
    (v : Value) (n : Nat) (xs : List Value) (hs : a.eval s = v) (hown : w.ownsRow base e size v n xs)
    (ad : Addr) (m c : Nat) (news : List Value) (hx : a.eval x = .slice (some ad) m c) (hl : news.length = m * size) (hnews : ∀ j u, news[j]? = some u → w.cell? (ad.add j) = some u) (h1 : ∀ u ∈ news, u.oneCell' = true)
    (h63 : n + m ≤ maxLen) (hbytes : (n + m) * bytes ≤ 140737488355328) (hbase : base ≤ w.heap.size)
    (h : ∀ v' w', w'.ownsRow base e size v' (n + m) (xs ++ news) → w.grownBy w' v.ownBlock → K (a.put o.dst v') w') :
    if Region.wanted o (yielded ops a.tmps) = true then Oper.wp P o a w K Q else E := by
  have hw : Region.wanted o (yielded ops a.tmps) = true := by simp [Region.wanted, hgd]
  rw [if_pos hw]
  exact wp_append_own w s x t ho base e i z size bytes ht hi hz hsize hby hzs hsz v n xs hs hown ad m c news hx hl hnews h1 h63 hbytes hbase fun v' w' h2 h3 _ => h v' w' h2 h3
/-- A span of a row, and what lay ahead stays. -/
abbrev SB (w0 : World) (b o : Nat) (x y : Int) (w' : World) : Prop := w'.cell? ⟨b, o, none⟩ = some (.int .i64 x) ∧ w'.cell? ⟨b, o + 1, none⟩ = some (.int .i64 y) ∧ b < w0.heap.size ∧ Below w0.heap.size w0 w'
theorem SB.of {w0 w' : World} {b o : Nat} {x y : Int} (h0 : w0.cell? ⟨b, o, none⟩ = some (.int .i64 x)) (h1 : w0.cell? ⟨b, o + 1, none⟩ = some (.int .i64 y)) (hb : Below w0.heap.size w0 w') : SB w0 b o x y w' :=
  ⟨by rw [hb.cell (p := ⟨b, o, none⟩) (cell_lt h0)]; exact h0, by rw [hb.cell (p := ⟨b, o + 1, none⟩) (cell_lt h0)]; exact h1, cell_lt h0, hb⟩
theorem SB.alloc {w0 w' : World} {b o : Nat} {x y : Int} (h : SB w0 b o x y w') (ob : Obj) : SB w0 b o x y (w'.alloc ob) := by
  obtain ⟨a, c, l, hb⟩ := h
  have hl : b < w'.heap.size := Nat.lt_of_lt_of_le l hb.size
  exact ⟨by rw [World.cell?_alloc_past _ _ _ hl]; exact a, by rw [World.cell?_alloc_past _ _ _ hl]; exact c, l, hb.alloc hb.size ob⟩
theorem SB.grown {w0 w' w1 : World} {b o n : Nat} {x y : Int} {T : TypeId} {v : Value} {xs : List Value} (h : SB w0 b o x y w') (ho : w'.ownsRow w0.heap.size T 2 v n xs) (hg : w'.grownBy w1 v.ownBlock) : SB w0 b o x y w1 := by
  obtain ⟨a, c, l, hb⟩ := h
  have hb1 : Below w0.heap.size w0 w1 := hb.grown hg hb.size (fun k hk => (World.ownsRow.lt ho k hk).1)
  have hb2 : Below w0.heap.size w' w1 := (Below.refl _ _).grown hg hb.size (fun k hk => (World.ownsRow.lt ho k hk).1)
  exact ⟨by rw [hb2.cell (p := ⟨b, o, none⟩) l]; exact a, by rw [hb2.cell (p := ⟨b, o + 1, none⟩) l]; exact c, l, hb1⟩
theorem SBb {w0 w' : World} {b o : Nat} {x y : Int} (h : SB w0 b o x y w') : Below w0.heap.size w0 w' := h.2.2.2
theorem own_e (W : World) (B H : Nat) (T : TypeId) (hB : B ≤ W.heap.size) (hH : W.heap.size = H) : (W.alloc (.cells #[] T)).ownsRow B T 2 (.slice (some ⟨H, 0, none⟩) 0 0) 0 [] := by
  subst hH
  exact ⟨rfl, .inr ⟨W.heap.size, 0, #[], rfl, hB, heap_alloc_new W _, Nat.le_refl _, Nat.zero_le _, rfl, rfl⟩⟩
theorem two_news {w : World} {H : Nat} {x y : Int} (h0 : w.cell? ⟨H, 0, none⟩ = some (.int .i64 x)) (h1 : w.cell? ⟨H, 1, none⟩ = some (.int .i64 y)) : ∀ j u, ([.int .i64 x, .int .i64 y] : List Value)[j]? = some u → w.cell? ((⟨H, 0, none⟩ : Addr).add j) = some u := by
  intro j u hu
  rcases j with _ | _ | j
  · simp at hu; subst hu; simpa [Addr.add] using h0
  · simp at hu; subst hu; simpa [Addr.add] using h1
  · simp at hu
theorem two_far {W w1 : World} {v : Value} {E : Nat} (H : Nat) (x y : Int) (hg : W.grownBy w1 v.ownBlock) (hv : v = .slice (some ⟨E, 0, none⟩) 0 0) (hne : H ≠ E) (h0 : W.cell? ⟨H, 0, none⟩ = some (.int .i64 x)) (h1 : W.cell? ⟨H, 1, none⟩ = some (.int .i64 y)) : w1.cell? ⟨H, 0, none⟩ = some (.int .i64 x) ∧ w1.cell? ⟨H, 1, none⟩ = some (.int .i64 y) := by
  subst hv
  exact ⟨by rw [hg.cell_far ⟨H, 0, none⟩ (cell_lt h0) (by simp [Value.ownBlock]; exact hne)]; exact h0, by rw [hg.cell_far ⟨H, 1, none⟩ (cell_lt h0) (by simp [Value.ownBlock]; exact hne)]; exact h1⟩
theorem pcs_take (l : List (Int × Int)) (k : Nat) : pcs (l.take k) = (pcs l).take (k * 2) := by
  induction l generalizing k with
  | nil => simp [pcs]
  | cons p l ih =>
    cases k with
    | zero => simp [pcs]
    | succ k =>
      have := ih k
      simp only [pcs, List.take_succ_cons, List.flatMap_cons, show (k + 1) * 2 = k * 2 + 1 + 1 by omega, List.cons_append, List.nil_append, List.take_succ_cons] at *
      rw [this]
theorem pcs_drop (l : List (Int × Int)) (k : Nat) : pcs (l.drop k) = (pcs l).drop (k * 2) := by
  induction l generalizing k with
  | nil => simp [pcs]
  | cons p l ih =>
    cases k with
    | zero => simp [pcs]
    | succ k =>
      have := ih k
      simp only [pcs, List.drop_succ_cons, List.flatMap_cons, show (k + 1) * 2 = k * 2 + 1 + 1 by omega, List.cons_append, List.nil_append, List.drop_succ_cons] at *
      rw [this]
/-- The cells of a part of a row. -/
theorem part_news {w0 w' : World} {B g n c : Nat} {T : TypeId} {l : List (Int × Int)} (h : OP w0 B T (.slice (some ⟨g, 0, none⟩) n c) l) (hn : n = l.length) (hg : g < w0.heap.size) (hb : Below w0.heap.size w0 w') (k m : Nat) : ∀ j u, (pcs ((l.drop k).take m))[j]? = some u → w'.cell? ((⟨g, k * 2, none⟩ : Addr).add j) = some u := by
  subst hn
  intro j u hu
  rw [pcs_take, pcs_drop] at hu
  have hj : j < m * 2 := by
    have := (List.getElem?_eq_some_iff.1 hu).1
    simp at this; omega
  rw [List.getElem?_take, if_pos hj, List.getElem?_drop] at hu
  have hj2 : k * 2 + j < l.length * 2 := by
    have := (List.getElem?_eq_some_iff.1 hu).1
    rw [pcs_len] at this; exact this
  have hc := World.ownsRow.cellAt (w := w0) (base := B) (e := T) (size := 2) (g := g) (n := l.length) (cap := c) (xs := pcs l) h (k * 2 + j) hj2
  have e : (⟨g, k * 2, none⟩ : Addr).add j = ⟨g, k * 2 + j, none⟩ := by
    by_cases h0 : j = 0
    · subst h0; simp [Addr.add]
    · simp [Addr.add, h0]
  rw [e, hb.cell (p := ⟨g, k * 2 + j, none⟩) hg, hc]; exact hu
end Go.Proofs.Ytkbgbccehijckaa
