/- What the specification draws: any rule. -/
import Derived.Test.YtlfglhpepoepcaaDoorWd
import Derived.Test.YtlfglhpepoepcaaDoorCls
import Derived.Deep.RegionHeld3
import Derived.Deep.DeepCutAuto
import Derived.Deep.MidRow
import Derived.Deep.CutBlock
namespace Go.Proofs.YtlfglhpepoepcaaDoor
open Go.RowKit
set_option linter.unusedVariables false
/-- No list of a rule lies in a block. -/
abbrev nX (r : Rl) (m : Rm) (X : Nat) : Prop := (Value.slice m.a0 r.ds.length m.c0).ownBlock ≠ some X ∧ (Value.slice m.a1 r.da.length m.c1).ownBlock ≠ some X ∧ (Value.slice m.a2 r.mo.length m.c2).ownBlock ≠ some X ∧ (Value.slice m.a3 r.pl.length m.c3).ownBlock ≠ some X
theorem OL.keepX {B X : Nat} {r : Rl} {m : Rm} {W W' : World} (h : OL B r m W) (hx : nX r m X) (hk : ∀ g, B ≤ g → g < W.heap.size → g ≠ X → W'.heap[g]? = W.heap[g]?) : OL B r m W' :=
  ⟨h.d.keep fun g hg => hk g (h.d.blk g hg).1 (h.d.blk g hg).2 (fun e => hx.1 (e ▸ hg)), h.a.keep fun g hg => hk g (h.a.lt g hg).1 (h.a.lt g hg).2 (fun e => hx.2.1 (e ▸ hg)), h.o.keep fun g hg => hk g (h.o.lt g hg).1 (h.o.lt g hg).2 (fun e => hx.2.2.1 (e ▸ hg)), h.p.keep fun g hg => hk g (h.p.lt g hg).1 (h.p.lt g hg).2 (fun e => hx.2.2.2 (e ▸ hg)), h.q⟩
/-- What stands while any rule is drawn: the reader in block rb, the answer's block R, the rule's own block X, and its lists anywhere behind R. -/
structure RA (w0 : World) (rb R X L : Nat) (r : Rl) (m : Rm) (W : World) : Prop where
  rd : Rd W rb L
  s0 : rb < w0.heap.size
  hR : w0.heap.size ≤ R
  rx : R < X
  z : CF W R (rcs ⟨0, 0, 0, 0, [], [], [], [], 0⟩ ⟨none, 0, none, 0, none, 0, none, 0⟩)
  c : CF W X (rcs r m)
  l : OL (R + 1) r m W
  n : nX r m X
  b : But rb w0.heap.size w0 W
theorem RA.step {w0 W W' : World} {rb R X L L' : Nat} {r : Rl} {m : Rm} (h : RA w0 rb R X L r m W) (hb : But rb W.heap.size W W') (hr : Rd W' rb L') : RA w0 rb R X L' r m W' := by
  have h1 := h.s0; have h2 := h.hR; have h3 := h.rx
  exact ⟨hr, h1, h2, h3, h.z.but hb (by omega), h.c.but hb (by omega), h.l.keep fun g h4 h5 => hb.block g h5 (by omega), h.n, h.b.trans (hb.mono h.b.size)⟩
theorem RA.more {w0 W : World} {rb R X L L' : Nat} {r : Rl} {m : Rm} (h : RA w0 rb R X L r m W) (hl : L ≤ L') : RA w0 rb R X L' r m W := { h with rd := h.rd.mono hl }
theorem RA.put {w0 W : World} {rb R X L : Nat} {r r' : Rl} {m m' : Rm} (h : RA w0 rb R X L r m W) (i : Nat) (v : Value) (hi : i < 9) (hc : rcs r' m' = (rcs r m).set! i v) (hl : OL (R + 1) r' m' W) (hn : nX r' m' X) : RA w0 rb R X L r' m' (W.setCell ⟨X, i, none⟩ v) := by
  have h1 := h.s0; have h2 := h.hR; have h3 := h.rx
  refine ⟨h.rd.setCell (by show rb < X; omega) _, h1, h2, h3, h.z.other i v (by omega), ?_, hl.keepX hn fun g h4 h5 h6 => Below.heap_setCell _ _ _ _ (by show g ≠ X; exact h6), hn, h.b.setCell (p := ⟨X, i, none⟩) (.inl (by show w0.heap.size ≤ X; omega)) _⟩
  rw [hc]; exact h.c.set i v (by unfold rcs; exact hi)
theorem CF.grown {W W' : World} {b : Nat} {vs : Array Value} {row : Option Nat} (h : CF W b vs) (hg : W.grownBy W' row) (hn : some b ≠ row) : CF W' b vs := by
  refine ⟨Nat.lt_of_lt_of_le h.1 hg.size, fun i v hv => ?_⟩
  rw [hg.cell_far ⟨b, i, none⟩ h.1 hn, hg.frozen_far ⟨b, i, none⟩ h.1 hn]; exact h.2 i v hv
theorem Rd.under2 {w w' : World} {rb L : Nat} (h : Rd w rb L) (hb : Below (rb + 1) w w') : Rd w' rb L := by
  obtain ⟨p, a, len, cap, h0, h1, h2, h3, h4, h5, h6, h7⟩ := h
  refine ⟨p, a, len, cap, h0, h1, h2, Nat.lt_of_lt_of_le h3 hb.size, ?_, ?_, ?_, ?_⟩
  · rw [hb.cell (p := ⟨rb, 0, none⟩) (by simp)]; exact h4
  · rw [hb.cell (p := ⟨rb, 1, none⟩) (by simp)]; exact h5
  · rw [hb.frozen (p := ⟨rb, 1, none⟩) (by simp)]; exact h6
  · rcases h7 with h7 | ⟨b, off, h8, h9, h11⟩
    · exact .inl h7
    · refine .inr ⟨b, off, h8, h9, fun i hi => ?_⟩
      obtain ⟨z, z0, z1, z2⟩ := h11 i hi
      exact ⟨z, z0, z1, by rw [hb.cell (p := ⟨b, off + i, none⟩) (by simp; omega)]; exact z2⟩
/-- A list put in the place of another one, which had grown. -/
theorem RA.grown {w0 W w6 : World} {rb R X L : Nat} {r r' : Rl} {m m' : Rm} {row : Option Nat} (h : RA w0 rb R X L r m W) (hg : W.grownBy w6 row) (hrow : ∀ k, row = some k → R + 1 ≤ k ∧ k ≠ X) (i : Nat) (v : Value) (hi : i < 9) (hc : rcs r' m' = (rcs r m).set! i v) (hl : OL (R + 1) r' m' w6) (hn : nX r' m' X) :
    RA w0 rb R X L r' m' (w6.setCell ⟨X, i, none⟩ v) ∧ (∃ u, w6.cell? ⟨X, i, none⟩ = some u) ∧ w6.frozen? ⟨X, i, none⟩ = false := by
  have h1 := h.s0; have h2 := h.hR; have h3 := h.rx; have h4 := h.c.1
  have bR : Below (R + 1) W w6 := (Below.refl _ _).grown hg (by omega) (fun k hk => (hrow k hk).1)
  have z6 := h.z.grown hg (fun e => by have := (hrow R e.symm).1; omega)
  have c6 := h.c.grown hg (fun e => (hrow X e.symm).2 rfl)
  have rd6 : Rd w6 rb L := h.rd.under2 (bR.mono (by omega))
  have b6 : But rb w0.heap.size w0 w6 := h.b.trans (But.of_below (bR.mono (by omega)))
  have hi2 : i < (rcs r m).size := by unfold rcs; exact hi
  refine ⟨⟨rd6.setCell (by show rb < X; omega) _, h1, h2, h3, z6.other i v (by omega), ?_, hl.keepX hn fun g h4 h5 h6 => Below.heap_setCell _ _ _ _ (by show g ≠ X; exact h6), hn, b6.setCell (p := ⟨X, i, none⟩) (.inl (by show w0.heap.size ≤ X; omega)) _⟩, ⟨(rcs r m)[i], (c6.2 i (rcs r m)[i] (by simp [hi2])).1⟩, (c6.2 i (rcs r m)[i] (by simp [hi2])).2⟩
  rw [hc]; exact c6.set i v (by unfold rcs; exact hi)
theorem own_far {W0 W : World} {B : Nat} {T1 T2 : TypeId} {s1 s2 n1 n2 : Nat} {v1 v2 : Value} {x1 x2 : List Value} (h1 : W.ownsRow B T1 s1 v1 n1 x1) (h2 : W.ownsRow B T2 s2 v2 n2 x2) (hT : T1 ≠ T2) : v1.ownBlock = none ∨ v1.ownBlock ≠ v2.ownBlock := by
  rcases h1.2 with ⟨rfl, _⟩ | ⟨g, cap, cur, rfl, hB, hg, _⟩
  · exact .inl rfl
  · refine .inr fun e => ?_
    rcases h2.2 with ⟨rfl, _⟩ | ⟨g2, cap2, cur2, rfl, hB2, hg2, _⟩
    · cases e
    · simp only [Value.ownBlock, Option.some.injEq] at e
      subst e
      rw [hg] at hg2
      simp only [Option.some.injEq, Obj.cells.injEq] at hg2
      exact hT hg2.2.1
theorem ownBl (a : Option Addr) (n c : Nat) : (Value.slice a n c).ownBlock = (Value.slice a 0 0).ownBlock := by cases a <;> rfl
theorem ints_at1 (w : World) (xs : List Int) (vs : Array Value) (hv : vs = (xs.map (fun x => Value.int .i64 x)).toArray) (i : Nat) (hi : i < xs.length) : (w.alloc (.cells vs 3)).cell? ⟨w.heap.size, i, none⟩ = some (.int .i64 (xs.getD i 0)) := by
  rw [World.cell?_alloc_new, hv]
  exact ints_at xs i hi
theorem ints_at2 (w : World) (xs : List Int) (vs : Array Value) (hv : vs = (xs.map (fun x => Value.int .i64 x)).toArray) (o : Obj) (i : Nat) (hi : i < xs.length) : ((w.alloc (.cells vs 3)).alloc o).cell? ⟨w.heap.size, i, none⟩ = some (.int .i64 (xs.getD i 0)) := by
  rw [World.cell?_alloc_past _ _ _ (by simp)]
  exact ints_at1 w xs vs hv i hi
theorem iInfo : (Tryd.prog.info? 3).map (fun i => (i.zero, i.size, i.bytes)) = some (some (.int .i64 0), 1, 8) := by kernel_rfl
theorem RA.putDa {w0 W w6 : World} {rb R X L g c : Nat} {r : Rl} {m : Rm} {x : Int} (h : RA w0 rb R X L r m W) (hown : w6.ownsRow (R + 1) 3 1 (.slice (some ⟨g, 0, none⟩) (r.da.length + 1) c) (r.da.length + 1) (r.da.map (Value.int .i64) ++ [.int .i64 x])) (hg : W.grownBy w6 (Value.slice m.a1 r.da.length m.c1).ownBlock) (hat : (Value.slice m.a1 r.da.length m.c1).ownBlock = some g ∨ g = W.heap.size) :
    ∃ r' m', RA w0 rb R X L r' m' (w6.setCell ⟨X, 5, none⟩ (.slice (some ⟨g, 0, none⟩) (r.da.length + 1) c)) ∧ (Sml 3 r → Sml 4 r') ∧ (∃ u, w6.cell? ⟨X, 5, none⟩ = some u) ∧ w6.frozen? ⟨X, 5, none⟩ = false := by
  have hX := h.c.1
  have q := h.l.q
  have gX : g ≠ X := by
    rcases hat with e | e
    · intro e2; subst e2; exact h.n.2.1 e
    · omega
  have ne2 : (Value.slice m.a2 r.mo.length m.c2).ownBlock = none ∨ (Value.slice m.a2 r.mo.length m.c2).ownBlock ≠ (Value.slice m.a1 r.da.length m.c1).ownBlock := by
    rw [ownBl m.a2, ownBl m.a1]
    cases e : (Value.slice m.a1 0 0).ownBlock with
    | none => cases (Value.slice m.a2 0 0).ownBlock with
      | none => exact .inl rfl
      | some _ => exact .inr (by simp)
    | some b => exact .inr (q.1 b e)
  have ne3 : (Value.slice m.a3 r.pl.length m.c3).ownBlock = none ∨ (Value.slice m.a3 r.pl.length m.c3).ownBlock ≠ (Value.slice m.a1 r.da.length m.c1).ownBlock := by
    rw [ownBl m.a3, ownBl m.a1]
    cases e : (Value.slice m.a1 0 0).ownBlock with
    | none => cases (Value.slice m.a3 0 0).ownBlock with
      | none => exact .inl rfl
      | some _ => exact .inr (by simp)
    | some b => exact .inr (q.2.1 b e)
  have far : ∀ (a : Option Addr) (l : List Int) (cc : Nat), OI W (R + 1) (.slice a l.length cc) l → (∀ b, (Value.slice m.a1 0 0).ownBlock = some b → (Value.slice a 0 0).ownBlock ≠ some b) → (Value.slice a 0 0).ownBlock ≠ some g := fun a l cc ho hd e => by
    rcases hat with e2 | e2
    · rw [ownBl] at e2; exact hd g e2 e
    · have := (ho.lt g (by rw [ownBl]; exact e)).2; omega
  refine ⟨⟨r.f, r.ev, r.ct, r.un, r.ds, r.da ++ [x], r.mo, r.pl, r.wk⟩, ⟨m.a0, m.c0, some ⟨g, 0, none⟩, c, m.a2, m.c2, m.a3, m.c3⟩, ?_⟩
  have hv : Value.slice (some ⟨g, 0, none⟩) (r.da.length + 1) c = Value.slice (some ⟨g, 0, none⟩) (r.da ++ [x]).length c := by rw [List.length_append]; rfl
  have k := h.grown (r' := ⟨r.f, r.ev, r.ct, r.un, r.ds, r.da ++ [x], r.mo, r.pl, r.wk⟩) (m' := ⟨m.a0, m.c0, some ⟨g, 0, none⟩, c, m.a2, m.c2, m.a3, m.c3⟩) hg (fun k hk => ⟨(h.l.a.lt k hk).1, fun e => h.n.2.1 (e ▸ hk)⟩) 5 (.slice (some ⟨g, 0, none⟩) (r.da.length + 1) c) (by omega) (by rw [hv]; rfl)
    ⟨World.ownsRow.kept h.l.d hg (own_far (W0 := W) h.l.d h.l.a (by decide)), by unfold OI; rw [← hv, List.length_append, List.map_append]; exact hown, World.ownsRow.kept h.l.o hg ne2, World.ownsRow.kept h.l.p hg ne3,
      (fun b hb => by simp only [Value.ownBlock, Option.some.injEq] at hb; subst hb; exact far _ _ _ h.l.o q.1), (fun b hb => by simp only [Value.ownBlock, Option.some.injEq] at hb; subst hb; exact far _ _ _ h.l.p q.2.1), q.2.2⟩
    ⟨h.n.1, by simpa [Value.ownBlock] using gX, h.n.2.2.1, h.n.2.2.2⟩
  exact ⟨k.1, fun sm => ⟨Nat.le_trans sm.1 (by omega), by rw [List.length_append]; have := sm.2.1; simp; omega, Nat.le_trans sm.2.2.1 (by omega), Nat.le_trans sm.2.2.2.1 (by omega), sm.2.2.2.2⟩, k.2⟩
theorem RA.putPl {w0 W w6 : World} {rb R X L g c : Nat} {r : Rl} {m : Rm} {x : Int} (h : RA w0 rb R X L r m W) (hown : w6.ownsRow (R + 1) 3 1 (.slice (some ⟨g, 0, none⟩) (r.pl.length + 1) c) (r.pl.length + 1) (r.pl.map (Value.int .i64) ++ [.int .i64 x])) (hg : W.grownBy w6 (Value.slice m.a3 r.pl.length m.c3).ownBlock) (hat : (Value.slice m.a3 r.pl.length m.c3).ownBlock = some g ∨ g = W.heap.size) :
    ∃ r' m', RA w0 rb R X L r' m' (w6.setCell ⟨X, 7, none⟩ (.slice (some ⟨g, 0, none⟩) (r.pl.length + 1) c)) ∧ (Sml 3 r → Sml 4 r') ∧ (∃ u, w6.cell? ⟨X, 7, none⟩ = some u) ∧ w6.frozen? ⟨X, 7, none⟩ = false := by
  have hX := h.c.1
  have q := h.l.q
  have gX : g ≠ X := by
    rcases hat with e | e
    · intro e2; subst e2; exact h.n.2.2.2 e
    · omega
  have ne1 : (Value.slice m.a1 r.da.length m.c1).ownBlock = none ∨ (Value.slice m.a1 r.da.length m.c1).ownBlock ≠ (Value.slice m.a3 r.pl.length m.c3).ownBlock := by
    rw [ownBl m.a1, ownBl m.a3]
    cases e : (Value.slice m.a1 0 0).ownBlock with
    | none => exact .inl rfl
    | some b => exact .inr (fun e2 => q.2.1 b e e2.symm)
  have ne2 : (Value.slice m.a2 r.mo.length m.c2).ownBlock = none ∨ (Value.slice m.a2 r.mo.length m.c2).ownBlock ≠ (Value.slice m.a3 r.pl.length m.c3).ownBlock := by
    rw [ownBl m.a2, ownBl m.a3]
    cases e : (Value.slice m.a2 0 0).ownBlock with
    | none => exact .inl rfl
    | some b => exact .inr (fun e2 => q.2.2 b e e2.symm)
  have far : ∀ (a : Option Addr) (l : List Int) (cc : Nat), OI W (R + 1) (.slice a l.length cc) l → (∀ b, (Value.slice a 0 0).ownBlock = some b → (Value.slice m.a3 0 0).ownBlock ≠ some b) → (Value.slice a 0 0).ownBlock ≠ some g := fun a l cc ho hd e => by
    rcases hat with e2 | e2
    · rw [ownBl] at e2; exact hd g e e2
    · have := (ho.lt g (by rw [ownBl]; exact e)).2; omega
  refine ⟨⟨r.f, r.ev, r.ct, r.un, r.ds, r.da, r.mo, r.pl ++ [x], r.wk⟩, ⟨m.a0, m.c0, m.a1, m.c1, m.a2, m.c2, some ⟨g, 0, none⟩, c⟩, ?_⟩
  have hv : Value.slice (some ⟨g, 0, none⟩) (r.pl.length + 1) c = Value.slice (some ⟨g, 0, none⟩) (r.pl ++ [x]).length c := by rw [List.length_append]; rfl
  have k := h.grown (r' := ⟨r.f, r.ev, r.ct, r.un, r.ds, r.da, r.mo, r.pl ++ [x], r.wk⟩) (m' := ⟨m.a0, m.c0, m.a1, m.c1, m.a2, m.c2, some ⟨g, 0, none⟩, c⟩) hg (fun k hk => ⟨(h.l.p.lt k hk).1, fun e => h.n.2.2.2 (e ▸ hk)⟩) 7 (.slice (some ⟨g, 0, none⟩) (r.pl.length + 1) c) (by omega) (by rw [hv]; rfl)
    ⟨World.ownsRow.kept h.l.d hg (own_far (W0 := W) h.l.d h.l.p (by decide)), World.ownsRow.kept h.l.a hg ne1, World.ownsRow.kept h.l.o hg ne2, by unfold OI; rw [← hv, List.length_append, List.map_append]; exact hown,
      q.1, (fun b hb e => by simp only [Value.ownBlock, Option.some.injEq] at e; subst e; exact far _ _ _ h.l.a q.2.1 hb), (fun b hb e => by simp only [Value.ownBlock, Option.some.injEq] at e; subst e; exact far _ _ _ h.l.o q.2.2 hb)⟩
    ⟨h.n.1, h.n.2.1, h.n.2.2.1, by simpa [Value.ownBlock] using gX⟩
  exact ⟨k.1, fun sm => ⟨Nat.le_trans sm.1 (by omega), Nat.le_trans sm.2.1 (by omega), Nat.le_trans sm.2.2.1 (by omega), by rw [List.length_append]; have := sm.2.2.2.1; simp; omega, sm.2.2.2.2⟩, k.2⟩
theorem RA.putDs {w0 W w6 : World} {rb R X L g c : Nat} {r : Rl} {m : Rm} {x y : Int} (h : RA w0 rb R X L r m W) (hown : w6.ownsRow (R + 1) 38 2 (.slice (some ⟨g, 0, none⟩) (r.ds.length + 1) c) (r.ds.length + 1) (pcs r.ds ++ [.int .i64 x, .int .i64 y])) (hg : W.grownBy w6 (Value.slice m.a0 r.ds.length m.c0).ownBlock) (hat : (Value.slice m.a0 r.ds.length m.c0).ownBlock = some g ∨ g = W.heap.size) :
    ∃ r' m', RA w0 rb R X L r' m' (w6.setCell ⟨X, 4, none⟩ (.slice (some ⟨g, 0, none⟩) (r.ds.length + 1) c)) ∧ (Sml 3 r → Sml 4 r') ∧ (∃ u, w6.cell? ⟨X, 4, none⟩ = some u) ∧ w6.frozen? ⟨X, 4, none⟩ = false := by
  have hX := h.c.1
  have gX : g ≠ X := by
    rcases hat with e | e
    · intro e2; subst e2; exact h.n.1 e
    · omega
  refine ⟨⟨r.f, r.ev, r.ct, r.un, r.ds ++ [(x, y)], r.da, r.mo, r.pl, r.wk⟩, ⟨some ⟨g, 0, none⟩, c, m.a1, m.c1, m.a2, m.c2, m.a3, m.c3⟩, ?_⟩
  have hv : Value.slice (some ⟨g, 0, none⟩) (r.ds.length + 1) c = Value.slice (some ⟨g, 0, none⟩) (r.ds ++ [(x, y)]).length c := by rw [List.length_append]; rfl
  have k := h.grown (r' := ⟨r.f, r.ev, r.ct, r.un, r.ds ++ [(x, y)], r.da, r.mo, r.pl, r.wk⟩) (m' := ⟨some ⟨g, 0, none⟩, c, m.a1, m.c1, m.a2, m.c2, m.a3, m.c3⟩) hg (fun k hk => ⟨(h.l.d.blk k hk).1, fun e => h.n.1 (e ▸ hk)⟩) 4 (.slice (some ⟨g, 0, none⟩) (r.ds.length + 1) c) (by omega) (by rw [hv]; rfl)
    ⟨by unfold OP; rw [← hv, List.length_append, pcs_append]; exact hown, World.ownsRow.kept h.l.a hg (own_far (W0 := W) h.l.a h.l.d (by decide)), World.ownsRow.kept h.l.o hg (own_far (W0 := W) h.l.o h.l.d (by decide)), World.ownsRow.kept h.l.p hg (own_far (W0 := W) h.l.p h.l.d (by decide)), h.l.q⟩
    ⟨by simpa [Value.ownBlock] using gX, h.n.2.1, h.n.2.2.1, h.n.2.2.2⟩
  exact ⟨k.1, fun sm => ⟨by rw [List.length_append]; have := sm.1; simp; omega, Nat.le_trans sm.2.1 (by omega), Nat.le_trans sm.2.2.1 (by omega), Nat.le_trans sm.2.2.2.1 (by omega), sm.2.2.2.2⟩, k.2⟩
set_option maxRecDepth 100000 in
set_option maxHeartbeats 16000000 in
theorem anyrule_any (w : World) (rb L : Nat) (h : Rd w rb L) (hL : L ≤ 1099511400000) :
    Calls Tryd.prog 34 #[.pointer (some ⟨rb, 0, none⟩)] w fun e w' => (∃ r m, e = .returned (.agg (rcs r m)) ∧ OL w.heap.size r m w' ∧ Sml 4 r) ∧ Rd w' rb (L + 64) ∧ But rb w.heap.size w w' := by
  have hs := h.size
  have bz : Below w.heap.size w (w.alloc (.cells (rcs ⟨0, 0, 0, 0, [], [], [], [], 0⟩ ⟨none, 0, none, 0, none, 0, none, 0⟩) 26)) := (Below.refl _ _).alloc (Nat.le_refl _) _
  have h0 := h.below bz
  have Z0 : CF (w.alloc (.cells (rcs ⟨0, 0, 0, 0, [], [], [], [], 0⟩ ⟨none, 0, none, 0, none, 0, none, 0⟩) 26)) w.heap.size (rcs ⟨0, 0, 0, 0, [], [], [], [], 0⟩ ⟨none, 0, none, 0, none, 0, none, 0⟩) := CF.new w _ _
  have S0 : Hid ((w.alloc (.cells (rcs ⟨0, 0, 0, 0, [], [], [], [], 0⟩ ⟨none, 0, none, 0, none, 0, none, 0⟩) 26)).heap.size = w.heap.size + 1) := by unfold Hid; simp
  have HW0 : Hid (w.alloc (.cells (rcs ⟨0, 0, 0, 0, [], [], [], [], 0⟩ ⟨none, 0, none, 0, none, 0, none, 0⟩) 26) = w.alloc (.cells #[.int .i64 0, .int .i64 0, .int .i64 0, .int .i64 0, .slice none 0 0, .slice none 0 0, .slice none 0 0, .slice none 0 0, .int .i64 0] 26)) := rfl
  generalize w.alloc (.cells (rcs ⟨0, 0, 0, 0, [], [], [], [], 0⟩ ⟨none, 0, none, 0, none, 0, none, 0⟩) 26) = W0 at bz h0 Z0 S0 HW0
  clear h
  go_enter Tryd.func34, Tryd.ntmps34
  go_wp2_with fail
  rw [← HW0.out]
  refine (rule_any W0 rb L h0 (by omega)).mono ?_
  rintro e w1 ⟨⟨r, m, rfl, O1, sm⟩, hr1, hb1⟩
  have hrc : rcs r m = #[.int .i64 r.f, .int .i64 r.ev, .int .i64 r.ct, .int .i64 r.un, .slice m.a0 r.ds.length m.c0, .slice m.a1 r.da.length m.c1, .slice m.a2 r.mo.length m.c2, .slice m.a3 r.pl.length m.c3, .int .i64 r.wk] := rfl
  rw [hrc]
  clear hrc
  have ss := S0.out
  have k1 := hb1.size
  have K0 : Hid (RA w rb w.heap.size w1.heap.size (L + 60) r m (w1.alloc (.cells #[.int .i64 r.f, .int .i64 r.ev, .int .i64 r.ct, .int .i64 r.un, .slice m.a0 r.ds.length m.c0, .slice m.a1 r.da.length m.c1, .slice m.a2 r.mo.length m.c2, .slice m.a3 r.pl.length m.c3, .int .i64 r.wk] 26))) := by
    have bA : Below w1.heap.size w1 (w1.alloc (.cells #[.int .i64 r.f, .int .i64 r.ev, .int .i64 r.ct, .int .i64 r.un, .slice m.a0 r.ds.length m.c0, .slice m.a1 r.da.length m.c1, .slice m.a2 r.mo.length m.c2, .slice m.a3 r.pl.length m.c3, .int .i64 r.wk] 26)) := (Below.refl _ _).alloc (Nat.le_refl _) _
    have ne : ∀ v : Value, (∀ g, v.ownBlock = some g → g < w1.heap.size) → v.ownBlock ≠ some w1.heap.size := fun v hv e => by have := hv _ e; omega
    exact ⟨hr1.below bA, hs, Nat.le_refl _, by omega, (Z0.but hb1 (by omega)).below bA, CF.new _ _ _, (O1.down (by omega)).keep fun g h4 h5 => bA.block g h5, ⟨ne _ fun g hg => (O1.d.blk g hg).2, ne _ fun g hg => (O1.a.lt g hg).2, ne _ fun g hg => (O1.o.lt g hg).2, ne _ fun g hg => (O1.p.lt g hg).2⟩, (But.of_below bz).trans ((hb1.mono (by omega)).trans ((But.of_below bA).mono (by omega)))⟩
  clear hr1 hb1 bz Z0 S0 HW0 ss k1 O1 h0
  go_wp2_with fail
  generalize w1.alloc (.cells #[.int .i64 r.f, .int .i64 r.ev, .int .i64 r.ct, .int .i64 r.un, .slice m.a0 r.ds.length m.c0, .slice m.a1 r.da.length m.c1, .slice m.a2 r.mo.length m.c2, .slice m.a3 r.pl.length m.c3, .int .i64 r.wk] 26) = W1 at K0 ⊢
  generalize w1.heap.size = X at K0 ⊢
  refine (pick_pos _ W1 rb _ K0.out.rd (by omega) (by omega)).mono ?_
  rintro e w4 ⟨⟨sw, rfl, _, _⟩, hr4, hb4⟩
  have K1 : Hid (RA w rb w.heap.size X (L + 61) r m w4) := K0.out.step hb4 hr4
  clear hr4 hb4 K0
  go_upto_block 0 with fail
  go_cut [3] (fun p wc => p = .pointer (some ⟨X, 0, none⟩) ∧ ∃ r m, RA w rb w.heap.size X (L + 63) r m wc ∧ Sml 4 r)
  case first =>
    have rd := K1.out.rd
    have SM : Hid (Sml 3 r) := sm
    have SM4 : Hid (Sml 4 r) := ⟨by have := sm.1; omega, by have := sm.2.1; omega, by have := sm.2.2.1; omega, by have := sm.2.2.2; omega⟩
    by_cases e0 : sw = 0
    · subst e0
      go_wp2_with fail
      refine (one_list w4 rb _ rd (by omega) 3 [0, 5, 2] rfl (by omega) (by omega) _ rfl).mono ?_
      rintro e w5 ⟨⟨x, rfl, _⟩, hr5, hb5⟩
      have K5 := K1.out.step hb5 hr5
      have c2 := (K5.c.2 0 _ rfl).1
      have f2 := (K5.c.2 0 _ rfl).2
      have fin : Hid (∃ r m, RA w rb w.heap.size X (L + 63) r m (w5.setCell ⟨X, 0, none⟩ (.int .i64 x)) ∧ Sml 4 r) := ⟨⟨x, r.ev, r.ct, r.un, r.ds, r.da, r.mo, r.pl, r.wk⟩, m, (RA.put (r' := ⟨x, r.ev, r.ct, r.un, r.ds, r.da, r.mo, r.pl, r.wk⟩) (m' := m) K5 0 (.int .i64 x) (by omega) rfl (K5.l.re rfl rfl rfl rfl) K5.n).more (by omega), SM4.out⟩
      clear K5 hr5 hb5 K1 rd
      go_wp2
      go_meet
      case rel => exact ⟨rfl, fin.out⟩
    by_cases e1 : sw = 1
    · subst e1
      go_wp2_with fail
      refine (one_list w4 rb _ rd (by omega) 3 [0, 100, 101] rfl (by omega) (by omega) _ rfl).mono ?_
      rintro e w5 ⟨⟨x, rfl, _⟩, hr5, hb5⟩
      have K5 := K1.out.step hb5 hr5
      have c2 := (K5.c.2 1 _ rfl).1
      have f2 := (K5.c.2 1 _ rfl).2
      have fin : Hid (∃ r m, RA w rb w.heap.size X (L + 63) r m (w5.setCell ⟨X, 1, none⟩ (.int .i64 x)) ∧ Sml 4 r) := ⟨⟨r.f, x, r.ct, r.un, r.ds, r.da, r.mo, r.pl, r.wk⟩, m, (RA.put (r' := ⟨r.f, x, r.ct, r.un, r.ds, r.da, r.mo, r.pl, r.wk⟩) (m' := m) K5 1 (.int .i64 x) (by omega) rfl (K5.l.re rfl rfl rfl rfl) K5.n).more (by omega), SM4.out⟩
      clear K5 hr5 hb5 K1 rd
      go_wp2
      go_meet
      case rel => exact ⟨rfl, fin.out⟩
    by_cases e2 : sw = 2
    · subst e2
      go_wp2_with fail
      refine (one_list w4 rb _ rd (by omega) 3 [-1, 500, 501] rfl (by omega) (by omega) _ rfl).mono ?_
      rintro e w5 ⟨⟨x, rfl, _⟩, hr5, hb5⟩
      have K5 := K1.out.step hb5 hr5
      have c2 := (K5.c.2 2 _ rfl).1
      have f2 := (K5.c.2 2 _ rfl).2
      have fin : Hid (∃ r m, RA w rb w.heap.size X (L + 63) r m (w5.setCell ⟨X, 2, none⟩ (.int .i64 x)) ∧ Sml 4 r) := ⟨⟨r.f, r.ev, x, r.un, r.ds, r.da, r.mo, r.pl, r.wk⟩, m, (RA.put (r' := ⟨r.f, r.ev, x, r.un, r.ds, r.da, r.mo, r.pl, r.wk⟩) (m' := m) K5 2 (.int .i64 x) (by omega) rfl (K5.l.re rfl rfl rfl rfl) K5.n).more (by omega), SM4.out⟩
      clear K5 hr5 hb5 K1 rd
      go_wp2
      go_meet
      case rel => exact ⟨rfl, fin.out⟩
    have h0 : (sw == 0) = false := beq_eq_false_iff_ne.2 e0
    have h1 : (sw == 1) = false := beq_eq_false_iff_ne.2 e1
    have h2 : (sw == 2) = false := beq_eq_false_iff_ne.2 e2
    clear e0 e1 e2
    by_cases e3 : sw = 3
    · subst e3
      clear h0 h1 h2
      go_upto_region 10 with fail
      obtain ⟨i0, hi, hz0, hz1, hz2⟩ := info_parts byInfo
      have hXs := K1.out.c.1
      have hXb : X ≠ rb := by have := K1.out.s0; have := K1.out.hR; have := K1.out.rx; omega
      have hrs : rb < w4.heap.size := by have := K1.out.s0; have := K1.out.hR; have := K1.out.rx; omega
      have HFX : Hid (∀ w', But rb w4.heap.size w4 w' → w'.cell? ⟨X, 4, none⟩ = some (.slice m.a0 r.ds.length m.c0)) := fun w' hb => by rw [hb.cell (p := ⟨X, 4, none⟩) hXs hXb]; exact (K1.out.c.2 4 _ rfl).1
      have HD : Hid (But rb w4.heap.size w4 w4.drew) := But.of_below ((Below.refl _ _).drew)
      have rdd : Rd w4.drew rb (L + 61) := K1.out.rd.below ((Below.refl _ _).drew)
      refine region_last #[{ dst := some 28, op := Op.fieldAddr 26 (Operand.tmp 3) 4, type := 0, pos := "l12_draw.go:305", after := #[], guard := none }, { dst := some 29, op := Op.load 23 (Operand.tmp 28), type := 23, pos := "l12_draw.go:305", after := #[{ on := 0, ground := Ground.data }], guard := none }, { dst := some 30, op := Op.move (Operand.tmp 0), type := 44, pos := "l12_draw.go:305", after := #[], guard := none }, { dst := some 31, op := Op.buildSlice 24 3 #[(0, Operand.const (Value.int IntKind.i64 0)), (1, Operand.const (Value.int IntKind.i64 6)), (2, Operand.const (Value.int IntKind.i64 (-54)))], type := 24, pos := "l12_draw.go:305", after := #[], guard := none }, { dst := some 32, op := Op.call { callee := Callee.value (Operand.func 37), args := #[Operand.tmp 30, Operand.tmp 31], argTypes := #[44, 24] }, type := 3, pos := "l12_draw.go:305", after := #[{ on := 2, ground := Ground.data }, { on := 3, ground := Ground.data }], guard := none }, { dst := some 33, op := Op.move (Operand.tmp 0), type := 44, pos := "l12_draw.go:305", after := #[], guard := none }, { dst := some 34, op := Op.buildSlice 24 2 #[(0, Operand.const (Value.int IntKind.i64 6)), (1, Operand.const (Value.int IntKind.i64 7))], type := 24, pos := "l12_draw.go:305", after := #[], guard := none }, { dst := some 35, op := Op.call { callee := Callee.value (Operand.func 37), args := #[Operand.tmp 33, Operand.tmp 34], argTypes := #[44, 24] }, type := 3, pos := "l12_draw.go:305", after := #[{ on := 5, ground := Ground.data }, { on := 6, ground := Ground.data }, { on := 4, ground := Ground.chain }], guard := none }, { dst := some 36, op := Op.build 38 #[(0, Operand.tmp 32), (1, Operand.tmp 35)], type := 38, pos := "l12_draw.go:305", after := #[{ on := 4, ground := Ground.data }, { on := 7, ground := Ground.data }], guard := none }, { dst := some 37, op := Op.buildSlice 23 1 #[(0, Operand.tmp 36)], type := 23, pos := "l12_draw.go:305", after := #[{ on := 8, ground := Ground.data }], guard := none }, { dst := some 38, op := Op.call { callee := Callee.builtin Builtin.append, args := #[Operand.tmp 29, Operand.tmp 37], argTypes := #[23, 23] }, type := 23, pos := "l12_draw.go:305", after := #[{ on := 1, ground := Ground.data }, { on := 9, ground := Ground.data }, { on := 7, ground := Ground.chain }], guard := none }, { dst := some 39, op := Op.fieldAddr 26 (Operand.tmp 3) 4, type := 0, pos := "l12_draw.go:305", after := #[{ on := 0, ground := Ground.phase }, { on := 1, ground := Ground.phase }, { on := 2, ground := Ground.phase }, { on := 3, ground := Ground.phase }, { on := 4, ground := Ground.phase }, { on := 5, ground := Ground.phase }, { on := 6, ground := Ground.phase }, { on := 7, ground := Ground.phase }, { on := 8, ground := Ground.phase }, { on := 9, ground := Ground.phase }, { on := 10, ground := Ground.phase }], guard := none }] ({ dst := none, op := Op.store 23 (Operand.tmp 39) (Operand.tmp 38), type := 0, pos := "l12_draw.go:305", after := #[{ on := 11, ground := Ground.data }, { on := 10, ground := Ground.data }, { on := 10, ground := Ground.chain }, { on := 0, ground := Ground.phase }, { on := 1, ground := Ground.phase }, { on := 2, ground := Ground.phase }, { on := 3, ground := Ground.phase }, { on := 4, ground := Ground.phase }, { on := 5, ground := Ground.phase }, { on := 6, ground := Ground.phase }, { on := 7, ground := Ground.phase }, { on := 8, ground := Ground.phase }, { on := 9, ground := Ground.phase }, { on := 10, ground := Ground.phase }], guard := none }) (fun w' => w'.cell? ⟨X, 4, none⟩ = some (.slice m.a0 r.ds.length m.c0)) rfl (by kernel_rfl) (by kernel_rfl) (HFX.out _ HD.out) (fun hHeld => ?_)
      refine wpAnyH_take (i := 0) (oi := { dst := some 28, op := Op.fieldAddr 26 (Operand.tmp 3) 4, type := 0, pos := "l12_draw.go:305", after := #[], guard := none }) (v := ?_) rfl (by kernel_rfl) (by kernel_rfl) (by kernel_rfl) (fun _ _ _ h => h) (Or.inl ⟨by rfl, ?_⟩) hHeld ?_
      rotate_left
      · (intro w7 hC7; go_simp; first | done | rfl)
      (try simp only [Act.put, List.setIfInBounds_toArray, List.set_cons_zero, List.set_cons_succ])
      refine wpAnyH_take (i := 1) (oi := { dst := some 29, op := Op.load 23 (Operand.tmp 28), type := 23, pos := "l12_draw.go:305", after := #[{ on := 0, ground := Ground.data }], guard := none }) (v := ?_) rfl (by kernel_rfl) (by kernel_rfl) (by kernel_rfl) (fun _ _ _ h => h) (Or.inl ⟨by rfl, ?_⟩) hHeld ?_
      rotate_left
      · (intro w7 hC7; go_simp; first | done | rfl)
      (try simp only [Act.put, List.setIfInBounds_toArray, List.set_cons_zero, List.set_cons_succ])
      refine wpAnyH_take (i := 2) (oi := { dst := some 30, op := Op.move (Operand.tmp 0), type := 44, pos := "l12_draw.go:305", after := #[], guard := none }) (v := ?_) rfl (by kernel_rfl) (by kernel_rfl) (by kernel_rfl) (fun _ _ _ h => h) (Or.inl ⟨by rfl, ?_⟩) hHeld ?_
      rotate_left
      · (intro w7 hC7; go_simp; first | done | rfl)
      (try simp only [Act.put, List.setIfInBounds_toArray, List.set_cons_zero, List.set_cons_succ])
      refine wpAnyH_take (i := 5) (oi := { dst := some 33, op := Op.move (Operand.tmp 0), type := 44, pos := "l12_draw.go:305", after := #[], guard := none }) (v := ?_) rfl (by kernel_rfl) (by kernel_rfl) (by kernel_rfl) (fun _ _ _ h => h) (Or.inl ⟨by rfl, ?_⟩) hHeld ?_
      rotate_left
      · (intro w7 hC7; go_simp; first | done | rfl)
      (try simp only [Act.put, List.setIfInBounds_toArray, List.set_cons_zero, List.set_cons_succ])
      refine wpAnyH_ready (rs := [3, 6]) (by kernel_rfl) (by simp) ?_
      refine AllReadyH.cons (o := { dst := some 31, op := Op.buildSlice 24 3 #[(0, Operand.const (Value.int IntKind.i64 0)), (1, Operand.const (Value.int IntKind.i64 6)), (2, Operand.const (Value.int IntKind.i64 (-54)))], type := 24, pos := "l12_draw.go:305", after := #[], guard := none }) rfl (fun K hK => ?_) ?_
      · go_simp
        refine hK.out _ _ (HFX.out _ (But.alloc HD.out HD.out.size _)) (fun hHeld => ?_)
        clear hK K
        (try simp only [Act.put, List.setIfInBounds_toArray, List.set_cons_zero, List.set_cons_succ])
        refine wpAnyH_ready (rs := [4, 6]) (by kernel_rfl) (by simp) ?_
        refine AllReadyH.cons (o := { dst := some 32, op := Op.call { callee := Callee.value (Operand.func 37), args := #[Operand.tmp 30, Operand.tmp 31], argTypes := #[44, 24] }, type := 3, pos := "l12_draw.go:305", after := #[{ on := 2, ground := Ground.data }, { on := 3, ground := Ground.data }], guard := none }) rfl (fun K hK => ?_) ?_
        · go_simp
          go_at_call 37
          refine (one_list w4.drew rb _ rdd (by omega) 3 [0, 6, -54] rfl (by omega) (by omega) _ rfl).mono ?_
          rintro e w5 ⟨⟨x, rfl, _⟩, hr5, hb5⟩
          have S5 : But rb w4.heap.size w4 w5 := HD.out.trans (hb5.mono (Nat.le_refl _))
          refine hK.out _ _ (HFX.out _ S5) (fun hHeld => ?_)
          clear hK K
          (try simp only [Act.put, List.setIfInBounds_toArray, List.set_cons_zero, List.set_cons_succ])
          refine wpAnyH_ready (rs := [6]) (by kernel_rfl) (by simp) ?_
          refine AllReadyH.cons (o := { dst := some 34, op := Op.buildSlice 24 2 #[(0, Operand.const (Value.int IntKind.i64 6)), (1, Operand.const (Value.int IntKind.i64 7))], type := 24, pos := "l12_draw.go:305", after := #[], guard := none }) rfl (fun K hK => ?_) ?_
          · go_simp
            refine hK.out _ _ (HFX.out _ (But.alloc S5 S5.size _)) (fun hHeld => ?_)
            clear hK K
            (try simp only [Act.put, List.setIfInBounds_toArray, List.set_cons_zero, List.set_cons_succ])
            refine wpAnyH_ready (rs := [7]) (by kernel_rfl) (by simp) ?_
            refine AllReadyH.cons (o := { dst := some 35, op := Op.call { callee := Callee.value (Operand.func 37), args := #[Operand.tmp 33, Operand.tmp 34], argTypes := #[44, 24] }, type := 3, pos := "l12_draw.go:305", after := #[{ on := 5, ground := Ground.data }, { on := 6, ground := Ground.data }, { on := 4, ground := Ground.chain }], guard := none }) rfl (fun K hK => ?_) ?_
            · go_simp
              go_at_call 37
              refine (one_list w5 rb _ hr5 (by omega) 2 [6, 7] rfl (by omega) (by omega) _ rfl).mono ?_
              rintro e w8 ⟨⟨y, rfl, _⟩, hr8, hb8⟩
              have S8 : But rb w4.heap.size w4 w8 := S5.trans (hb8.mono S5.size)
              refine hK.out _ _ (HFX.out _ S8) (fun hHeld => ?_)
              clear hK K
              (try simp only [Act.put, List.setIfInBounds_toArray, List.set_cons_zero, List.set_cons_succ])
              refine wpAnyH_take (i := 8) (oi := { dst := some 36, op := Op.build 38 #[(0, Operand.tmp 32), (1, Operand.tmp 35)], type := 38, pos := "l12_draw.go:305", after := #[{ on := 4, ground := Ground.data }, { on := 7, ground := Ground.data }], guard := none }) (v := ?_) rfl (by kernel_rfl) (by kernel_rfl) (by kernel_rfl) (fun _ _ _ h => h) (Or.inl ⟨by rfl, ?_⟩) hHeld ?_
              rotate_left
              · (intro w7 hC7; go_simp; first | done | rfl)
              (try simp only [Act.put, List.setIfInBounds_toArray, List.set_cons_zero, List.set_cons_succ])
              have bA : Below w8.heap.size w8 (w8.alloc (.cells #[.int .i64 x, .int .i64 y] 38)) := (Below.refl _ _).alloc (Nat.le_refl _) _
              have KA := (K1.out.step S8 hr8).step (But.of_below bA) (hr8.below bA)
              have hXa := KA.c.1
              have hRX := KA.rx
              refine wpAnyH_ready (rs := [9]) (by kernel_rfl) (by simp) ?_
              refine AllReadyH.cons (o := { dst := some 37, op := Op.buildSlice 23 1 #[(0, Operand.tmp 36)], type := 23, pos := "l12_draw.go:305", after := #[{ on := 8, ground := Ground.data }], guard := none }) rfl (fun K hK => ?_) ?_
              · go_simp
                refine hK.out _ _ ((KA.c.2 4 _ rfl).1) (fun hHeld => ?_)
                clear hK K
                (try simp only [Act.put, List.setIfInBounds_toArray, List.set_cons_zero, List.set_cons_succ])
                refine wpAnyH_ready (rs := [10]) (by kernel_rfl) (by simp) ?_
                refine AllReadyH.cons (o := { dst := some 38, op := Op.call { callee := Callee.builtin Builtin.append, args := #[Operand.tmp 29, Operand.tmp 37], argTypes := #[23, 23] }, type := 23, pos := "l12_draw.go:305", after := #[{ on := 1, ground := Ground.data }, { on := 9, ground := Ground.data }, { on := 7, ground := Ground.chain }], guard := none }) rfl (fun K hK => ?_) ?_
                · refine step_append_lies _ (by rfl) _ _ _ (by rfl) (w.heap.size + 1) 38 i0 (.agg #[.int .i64 0, .int .i64 0]) 2 16 Tryd.underlying23 hi hz0 hz1 hz2 rfl (by omega) (.slice m.a0 r.ds.length m.c0) r.ds.length (pcs r.ds) (by rfl) KA.l.d ⟨w8.heap.size, 0, none⟩ 1 1 [.int .i64 x, .int .i64 y] (by rfl) (by rfl) (World.news_of_block (heap_alloc_new w8 _)) (by simp [Value.oneCell']) (by omega) (by have := SM.out.1; unfold maxLen; omega) (by have := SM.out.1; omega) (by omega) _ rfl ?_
                  intro g c6 w6 o6 hgrow hat hlt6
                  have FIN := Hid.mk' (RA.putDs KA o6 hgrow hat)
                  have S6 : w6.cell? ⟨X, 4, none⟩ = some (.slice m.a0 r.ds.length m.c0) := by rw [hgrow.cell_far ⟨X, 4, none⟩ hXa (fun e => KA.n.1 e.symm)]; exact (KA.c.2 4 _ rfl).1
                  clear KA o6 hgrow hat bA
                  refine hK.out _ _ S6 (fun hHeld => ?_)
                  clear hK K
                  (try simp only [Act.put, List.setIfInBounds_toArray, List.set_cons_zero, List.set_cons_succ])
                  refine wpAnyH_take (i := 11) (oi := { dst := some 39, op := Op.fieldAddr 26 (Operand.tmp 3) 4, type := 0, pos := "l12_draw.go:305", after := #[{ on := 0, ground := Ground.phase }, { on := 1, ground := Ground.phase }, { on := 2, ground := Ground.phase }, { on := 3, ground := Ground.phase }, { on := 4, ground := Ground.phase }, { on := 5, ground := Ground.phase }, { on := 6, ground := Ground.phase }, { on := 7, ground := Ground.phase }, { on := 8, ground := Ground.phase }, { on := 9, ground := Ground.phase }, { on := 10, ground := Ground.phase }], guard := none }) (v := ?_) rfl (by kernel_rfl) (by kernel_rfl) (by kernel_rfl) (fun _ _ _ h => h) (Or.inl ⟨by rfl, ?_⟩) hHeld ?_
                  rotate_left
                  · (intro w7 hC7; go_simp; first | done | rfl)
                  (try simp only [Act.put, List.setIfInBounds_toArray, List.set_cons_zero, List.set_cons_succ])
                  refine wpAnyH_done (by kernel_rfl) ?_ _
                  simp only [Ql]
                  obtain ⟨r', m', KF, hsm, ⟨u6, hu6⟩, hf6⟩ := FIN.out
                  have HKF := Hid.mk' KF
                  clear KF FIN S6 hHeld
                  go_simp
                  go_wp2
                  go_meet
                  case rel => exact ⟨rfl, r', m', HKF.out.more (by omega), hsm SM.out⟩
                exact AllReadyH.nil
              exact AllReadyH.nil
            exact AllReadyH.nil
          exact AllReadyH.nil
        refine AllReadyH.cons (o := { dst := some 34, op := Op.buildSlice 24 2 #[(0, Operand.const (Value.int IntKind.i64 6)), (1, Operand.const (Value.int IntKind.i64 7))], type := 24, pos := "l12_draw.go:305", after := #[], guard := none }) rfl (fun K hK => ?_) ?_
        · go_simp
          refine hK.out _ _ (HFX.out _ (But.alloc (But.alloc HD.out HD.out.size _) (by simp) _)) (fun hHeld => ?_)
          clear hK K
          (try simp only [Act.put, List.setIfInBounds_toArray, List.set_cons_zero, List.set_cons_succ])
          have bW1 : Below w4.heap.size w4.drew (w4.drew.alloc (.cells #[.int .i64 0, .int .i64 6, .int .i64 (-54)] 3)) := (Below.refl w4.heap.size w4.drew).alloc (Nat.le_refl w4.heap.size) _
          have bW : Below w4.heap.size w4.drew ((w4.drew.alloc (.cells #[.int .i64 0, .int .i64 6, .int .i64 (-54)] 3)).alloc (.cells #[.int .i64 6, .int .i64 7] 3)) := bW1.alloc (by simp) _
          have SW : But rb w4.heap.size w4 ((w4.drew.alloc (.cells #[.int .i64 0, .int .i64 6, .int .i64 (-54)] 3)).alloc (.cells #[.int .i64 6, .int .i64 7] 3)) := HD.out.trans (But.of_below bW)
          have rdW : Rd ((w4.drew.alloc (.cells #[.int .i64 0, .int .i64 6, .int .i64 (-54)] 3)).alloc (.cells #[.int .i64 6, .int .i64 7] 3)) rb (L + 61) := rdd.below bW
          have hA1 : (w4.drew.alloc (.cells #[.int .i64 0, .int .i64 6, .int .i64 (-54)] 3)).heap.size = w4.heap.size + 1 := by simp
          have CL1 : ∀ i, i < 3 → ((w4.drew.alloc (.cells #[.int .i64 0, .int .i64 6, .int .i64 (-54)] 3)).alloc (.cells #[.int .i64 6, .int .i64 7] 3)).cell? ⟨w4.heap.size, i, none⟩ = some (.int .i64 (([0, 6, -54] : List Int).getD i 0)) := fun i hi => by
            exact ints_at2 w4.drew [0, 6, -54] _ rfl _ i hi
          have CL2 : ∀ i, i < 2 → ((w4.drew.alloc (.cells #[.int .i64 0, .int .i64 6, .int .i64 (-54)] 3)).alloc (.cells #[.int .i64 6, .int .i64 7] 3)).cell? ⟨(w4.heap.size + 1), i, none⟩ = some (.int .i64 (([6, 7] : List Int).getD i 0)) := fun i hi => by
            rw [← hA1]; exact ints_at1 _ [6, 7] _ rfl i hi
          have szW : ((w4.drew.alloc (.cells #[.int .i64 0, .int .i64 6, .int .i64 (-54)] 3)).alloc (.cells #[.int .i64 6, .int .i64 7] 3)).heap.size = w4.heap.size + 1 + 1 := by simp
          refine wpAnyH_ready (rs := [4]) (by kernel_rfl) (by simp) ?_
          refine AllReadyH.cons (o := { dst := some 32, op := Op.call { callee := Callee.value (Operand.func 37), args := #[Operand.tmp 30, Operand.tmp 31], argTypes := #[44, 24] }, type := 3, pos := "l12_draw.go:305", after := #[{ on := 2, ground := Ground.data }, { on := 3, ground := Ground.data }], guard := none }) rfl (fun K hK => ?_) ?_
          · go_simp
            go_at_call 37
            refine (one_any ((w4.drew.alloc (.cells #[.int .i64 0, .int .i64 6, .int .i64 (-54)] 3)).alloc (.cells #[.int .i64 6, .int .i64 7] 3)) rb _ rdW (by omega) w4.heap.size 3 3 [0, 6, -54] rfl (by omega) (by omega) (by omega) (by omega) CL1).mono ?_
            rintro e w5 ⟨⟨x, rfl, _⟩, hr5, hb5⟩
            have S5 : But rb w4.heap.size w4 w5 := SW.trans (hb5.mono (by omega))
            have CL3 : ∀ i, i < 2 → w5.cell? ⟨(w4.heap.size + 1), i, none⟩ = some (.int .i64 (([6, 7] : List Int).getD i 0)) := fun i hi => by rw [hb5.cell (p := ⟨(w4.heap.size + 1), i, none⟩) (by show (w4.heap.size + 1) < _; omega) (by show (w4.heap.size + 1) ≠ rb; omega)]; exact CL2 i hi
            have sz5 := hb5.size
            rw [szW] at sz5
            refine hK.out _ _ (HFX.out _ S5) (fun hHeld => ?_)
            clear hK K
            (try simp only [Act.put, List.setIfInBounds_toArray, List.set_cons_zero, List.set_cons_succ])
            refine wpAnyH_ready (rs := [7]) (by kernel_rfl) (by simp) ?_
            refine AllReadyH.cons (o := { dst := some 35, op := Op.call { callee := Callee.value (Operand.func 37), args := #[Operand.tmp 33, Operand.tmp 34], argTypes := #[44, 24] }, type := 3, pos := "l12_draw.go:305", after := #[{ on := 5, ground := Ground.data }, { on := 6, ground := Ground.data }, { on := 4, ground := Ground.chain }], guard := none }) rfl (fun K hK => ?_) ?_
            · go_simp
              go_at_call 37
              refine (one_any w5 rb _ hr5 (by omega) (w4.heap.size + 1) 2 2 [6, 7] rfl (by omega) (by omega) (by omega) (by omega) CL3).mono ?_
              rintro e w8 ⟨⟨y, rfl, _⟩, hr8, hb8⟩
              have S8 : But rb w4.heap.size w4 w8 := S5.trans (hb8.mono S5.size)
              refine hK.out _ _ (HFX.out _ S8) (fun hHeld => ?_)
              clear hK K
              (try simp only [Act.put, List.setIfInBounds_toArray, List.set_cons_zero, List.set_cons_succ])
              refine wpAnyH_take (i := 8) (oi := { dst := some 36, op := Op.build 38 #[(0, Operand.tmp 32), (1, Operand.tmp 35)], type := 38, pos := "l12_draw.go:305", after := #[{ on := 4, ground := Ground.data }, { on := 7, ground := Ground.data }], guard := none }) (v := ?_) rfl (by kernel_rfl) (by kernel_rfl) (by kernel_rfl) (fun _ _ _ h => h) (Or.inl ⟨by rfl, ?_⟩) hHeld ?_
              rotate_left
              · (intro w7 hC7; go_simp; first | done | rfl)
              (try simp only [Act.put, List.setIfInBounds_toArray, List.set_cons_zero, List.set_cons_succ])
              have bA : Below w8.heap.size w8 (w8.alloc (.cells #[.int .i64 x, .int .i64 y] 38)) := (Below.refl _ _).alloc (Nat.le_refl _) _
              have KA := (K1.out.step S8 hr8).step (But.of_below bA) (hr8.below bA)
              have hXa := KA.c.1
              have hRX := KA.rx
              refine wpAnyH_ready (rs := [9]) (by kernel_rfl) (by simp) ?_
              refine AllReadyH.cons (o := { dst := some 37, op := Op.buildSlice 23 1 #[(0, Operand.tmp 36)], type := 23, pos := "l12_draw.go:305", after := #[{ on := 8, ground := Ground.data }], guard := none }) rfl (fun K hK => ?_) ?_
              · go_simp
                refine hK.out _ _ ((KA.c.2 4 _ rfl).1) (fun hHeld => ?_)
                clear hK K
                (try simp only [Act.put, List.setIfInBounds_toArray, List.set_cons_zero, List.set_cons_succ])
                refine wpAnyH_ready (rs := [10]) (by kernel_rfl) (by simp) ?_
                refine AllReadyH.cons (o := { dst := some 38, op := Op.call { callee := Callee.builtin Builtin.append, args := #[Operand.tmp 29, Operand.tmp 37], argTypes := #[23, 23] }, type := 23, pos := "l12_draw.go:305", after := #[{ on := 1, ground := Ground.data }, { on := 9, ground := Ground.data }, { on := 7, ground := Ground.chain }], guard := none }) rfl (fun K hK => ?_) ?_
                · refine step_append_lies _ (by rfl) _ _ _ (by rfl) (w.heap.size + 1) 38 i0 (.agg #[.int .i64 0, .int .i64 0]) 2 16 Tryd.underlying23 hi hz0 hz1 hz2 rfl (by omega) (.slice m.a0 r.ds.length m.c0) r.ds.length (pcs r.ds) (by rfl) KA.l.d ⟨w8.heap.size, 0, none⟩ 1 1 [.int .i64 x, .int .i64 y] (by rfl) (by rfl) (World.news_of_block (heap_alloc_new w8 _)) (by simp [Value.oneCell']) (by omega) (by have := SM.out.1; unfold maxLen; omega) (by have := SM.out.1; omega) (by omega) _ rfl ?_
                  intro g c6 w6 o6 hgrow hat hlt6
                  have FIN := Hid.mk' (RA.putDs KA o6 hgrow hat)
                  have S6 : w6.cell? ⟨X, 4, none⟩ = some (.slice m.a0 r.ds.length m.c0) := by rw [hgrow.cell_far ⟨X, 4, none⟩ hXa (fun e => KA.n.1 e.symm)]; exact (KA.c.2 4 _ rfl).1
                  clear KA o6 hgrow hat bA
                  refine hK.out _ _ S6 (fun hHeld => ?_)
                  clear hK K
                  (try simp only [Act.put, List.setIfInBounds_toArray, List.set_cons_zero, List.set_cons_succ])
                  refine wpAnyH_take (i := 11) (oi := { dst := some 39, op := Op.fieldAddr 26 (Operand.tmp 3) 4, type := 0, pos := "l12_draw.go:305", after := #[{ on := 0, ground := Ground.phase }, { on := 1, ground := Ground.phase }, { on := 2, ground := Ground.phase }, { on := 3, ground := Ground.phase }, { on := 4, ground := Ground.phase }, { on := 5, ground := Ground.phase }, { on := 6, ground := Ground.phase }, { on := 7, ground := Ground.phase }, { on := 8, ground := Ground.phase }, { on := 9, ground := Ground.phase }, { on := 10, ground := Ground.phase }], guard := none }) (v := ?_) rfl (by kernel_rfl) (by kernel_rfl) (by kernel_rfl) (fun _ _ _ h => h) (Or.inl ⟨by rfl, ?_⟩) hHeld ?_
                  rotate_left
                  · (intro w7 hC7; go_simp; first | done | rfl)
                  (try simp only [Act.put, List.setIfInBounds_toArray, List.set_cons_zero, List.set_cons_succ])
                  refine wpAnyH_done (by kernel_rfl) ?_ _
                  simp only [Ql]
                  obtain ⟨r', m', KF, hsm, ⟨u6, hu6⟩, hf6⟩ := FIN.out
                  have HKF := Hid.mk' KF
                  clear KF FIN S6 hHeld
                  go_simp
                  go_wp2
                  go_meet
                  case rel => exact ⟨rfl, r', m', HKF.out.more (by omega), hsm SM.out⟩
                exact AllReadyH.nil
              exact AllReadyH.nil
            exact AllReadyH.nil
          exact AllReadyH.nil
        exact AllReadyH.nil
      refine AllReadyH.cons (o := { dst := some 34, op := Op.buildSlice 24 2 #[(0, Operand.const (Value.int IntKind.i64 6)), (1, Operand.const (Value.int IntKind.i64 7))], type := 24, pos := "l12_draw.go:305", after := #[], guard := none }) rfl (fun K hK => ?_) ?_
      · go_simp
        refine hK.out _ _ (HFX.out _ (But.alloc HD.out HD.out.size _)) (fun hHeld => ?_)
        clear hK K
        (try simp only [Act.put, List.setIfInBounds_toArray, List.set_cons_zero, List.set_cons_succ])
        refine wpAnyH_ready (rs := [3]) (by kernel_rfl) (by simp) ?_
        refine AllReadyH.cons (o := { dst := some 31, op := Op.buildSlice 24 3 #[(0, Operand.const (Value.int IntKind.i64 0)), (1, Operand.const (Value.int IntKind.i64 6)), (2, Operand.const (Value.int IntKind.i64 (-54)))], type := 24, pos := "l12_draw.go:305", after := #[], guard := none }) rfl (fun K hK => ?_) ?_
        · go_simp
          refine hK.out _ _ (HFX.out _ (But.alloc (But.alloc HD.out HD.out.size _) (by simp) _)) (fun hHeld => ?_)
          clear hK K
          (try simp only [Act.put, List.setIfInBounds_toArray, List.set_cons_zero, List.set_cons_succ])
          have bW1 : Below w4.heap.size w4.drew (w4.drew.alloc (.cells #[.int .i64 6, .int .i64 7] 3)) := (Below.refl w4.heap.size w4.drew).alloc (Nat.le_refl w4.heap.size) _
          have bW : Below w4.heap.size w4.drew ((w4.drew.alloc (.cells #[.int .i64 6, .int .i64 7] 3)).alloc (.cells #[.int .i64 0, .int .i64 6, .int .i64 (-54)] 3)) := bW1.alloc (by simp) _
          have SW : But rb w4.heap.size w4 ((w4.drew.alloc (.cells #[.int .i64 6, .int .i64 7] 3)).alloc (.cells #[.int .i64 0, .int .i64 6, .int .i64 (-54)] 3)) := HD.out.trans (But.of_below bW)
          have rdW : Rd ((w4.drew.alloc (.cells #[.int .i64 6, .int .i64 7] 3)).alloc (.cells #[.int .i64 0, .int .i64 6, .int .i64 (-54)] 3)) rb (L + 61) := rdd.below bW
          have hA1 : (w4.drew.alloc (.cells #[.int .i64 6, .int .i64 7] 3)).heap.size = w4.heap.size + 1 := by simp
          have CL1 : ∀ i, i < 3 → ((w4.drew.alloc (.cells #[.int .i64 6, .int .i64 7] 3)).alloc (.cells #[.int .i64 0, .int .i64 6, .int .i64 (-54)] 3)).cell? ⟨(w4.heap.size + 1), i, none⟩ = some (.int .i64 (([0, 6, -54] : List Int).getD i 0)) := fun i hi => by
            rw [← hA1]; exact ints_at1 _ [0, 6, -54] _ rfl i hi
          have CL2 : ∀ i, i < 2 → ((w4.drew.alloc (.cells #[.int .i64 6, .int .i64 7] 3)).alloc (.cells #[.int .i64 0, .int .i64 6, .int .i64 (-54)] 3)).cell? ⟨w4.heap.size, i, none⟩ = some (.int .i64 (([6, 7] : List Int).getD i 0)) := fun i hi => by
            exact ints_at2 w4.drew [6, 7] _ rfl _ i hi
          have szW : ((w4.drew.alloc (.cells #[.int .i64 6, .int .i64 7] 3)).alloc (.cells #[.int .i64 0, .int .i64 6, .int .i64 (-54)] 3)).heap.size = w4.heap.size + 1 + 1 := by simp
          refine wpAnyH_ready (rs := [4]) (by kernel_rfl) (by simp) ?_
          refine AllReadyH.cons (o := { dst := some 32, op := Op.call { callee := Callee.value (Operand.func 37), args := #[Operand.tmp 30, Operand.tmp 31], argTypes := #[44, 24] }, type := 3, pos := "l12_draw.go:305", after := #[{ on := 2, ground := Ground.data }, { on := 3, ground := Ground.data }], guard := none }) rfl (fun K hK => ?_) ?_
          · go_simp
            go_at_call 37
            refine (one_any ((w4.drew.alloc (.cells #[.int .i64 6, .int .i64 7] 3)).alloc (.cells #[.int .i64 0, .int .i64 6, .int .i64 (-54)] 3)) rb _ rdW (by omega) (w4.heap.size + 1) 3 3 [0, 6, -54] rfl (by omega) (by omega) (by omega) (by omega) CL1).mono ?_
            rintro e w5 ⟨⟨x, rfl, _⟩, hr5, hb5⟩
            have S5 : But rb w4.heap.size w4 w5 := SW.trans (hb5.mono (by omega))
            have CL3 : ∀ i, i < 2 → w5.cell? ⟨w4.heap.size, i, none⟩ = some (.int .i64 (([6, 7] : List Int).getD i 0)) := fun i hi => by rw [hb5.cell (p := ⟨w4.heap.size, i, none⟩) (by show w4.heap.size < _; omega) (by show w4.heap.size ≠ rb; omega)]; exact CL2 i hi
            have sz5 := hb5.size
            rw [szW] at sz5
            refine hK.out _ _ (HFX.out _ S5) (fun hHeld => ?_)
            clear hK K
            (try simp only [Act.put, List.setIfInBounds_toArray, List.set_cons_zero, List.set_cons_succ])
            refine wpAnyH_ready (rs := [7]) (by kernel_rfl) (by simp) ?_
            refine AllReadyH.cons (o := { dst := some 35, op := Op.call { callee := Callee.value (Operand.func 37), args := #[Operand.tmp 33, Operand.tmp 34], argTypes := #[44, 24] }, type := 3, pos := "l12_draw.go:305", after := #[{ on := 5, ground := Ground.data }, { on := 6, ground := Ground.data }, { on := 4, ground := Ground.chain }], guard := none }) rfl (fun K hK => ?_) ?_
            · go_simp
              go_at_call 37
              refine (one_any w5 rb _ hr5 (by omega) w4.heap.size 2 2 [6, 7] rfl (by omega) (by omega) (by omega) (by omega) CL3).mono ?_
              rintro e w8 ⟨⟨y, rfl, _⟩, hr8, hb8⟩
              have S8 : But rb w4.heap.size w4 w8 := S5.trans (hb8.mono S5.size)
              refine hK.out _ _ (HFX.out _ S8) (fun hHeld => ?_)
              clear hK K
              (try simp only [Act.put, List.setIfInBounds_toArray, List.set_cons_zero, List.set_cons_succ])
              refine wpAnyH_take (i := 8) (oi := { dst := some 36, op := Op.build 38 #[(0, Operand.tmp 32), (1, Operand.tmp 35)], type := 38, pos := "l12_draw.go:305", after := #[{ on := 4, ground := Ground.data }, { on := 7, ground := Ground.data }], guard := none }) (v := ?_) rfl (by kernel_rfl) (by kernel_rfl) (by kernel_rfl) (fun _ _ _ h => h) (Or.inl ⟨by rfl, ?_⟩) hHeld ?_
              rotate_left
              · (intro w7 hC7; go_simp; first | done | rfl)
              (try simp only [Act.put, List.setIfInBounds_toArray, List.set_cons_zero, List.set_cons_succ])
              have bA : Below w8.heap.size w8 (w8.alloc (.cells #[.int .i64 x, .int .i64 y] 38)) := (Below.refl _ _).alloc (Nat.le_refl _) _
              have KA := (K1.out.step S8 hr8).step (But.of_below bA) (hr8.below bA)
              have hXa := KA.c.1
              have hRX := KA.rx
              refine wpAnyH_ready (rs := [9]) (by kernel_rfl) (by simp) ?_
              refine AllReadyH.cons (o := { dst := some 37, op := Op.buildSlice 23 1 #[(0, Operand.tmp 36)], type := 23, pos := "l12_draw.go:305", after := #[{ on := 8, ground := Ground.data }], guard := none }) rfl (fun K hK => ?_) ?_
              · go_simp
                refine hK.out _ _ ((KA.c.2 4 _ rfl).1) (fun hHeld => ?_)
                clear hK K
                (try simp only [Act.put, List.setIfInBounds_toArray, List.set_cons_zero, List.set_cons_succ])
                refine wpAnyH_ready (rs := [10]) (by kernel_rfl) (by simp) ?_
                refine AllReadyH.cons (o := { dst := some 38, op := Op.call { callee := Callee.builtin Builtin.append, args := #[Operand.tmp 29, Operand.tmp 37], argTypes := #[23, 23] }, type := 23, pos := "l12_draw.go:305", after := #[{ on := 1, ground := Ground.data }, { on := 9, ground := Ground.data }, { on := 7, ground := Ground.chain }], guard := none }) rfl (fun K hK => ?_) ?_
                · refine step_append_lies _ (by rfl) _ _ _ (by rfl) (w.heap.size + 1) 38 i0 (.agg #[.int .i64 0, .int .i64 0]) 2 16 Tryd.underlying23 hi hz0 hz1 hz2 rfl (by omega) (.slice m.a0 r.ds.length m.c0) r.ds.length (pcs r.ds) (by rfl) KA.l.d ⟨w8.heap.size, 0, none⟩ 1 1 [.int .i64 x, .int .i64 y] (by rfl) (by rfl) (World.news_of_block (heap_alloc_new w8 _)) (by simp [Value.oneCell']) (by omega) (by have := SM.out.1; unfold maxLen; omega) (by have := SM.out.1; omega) (by omega) _ rfl ?_
                  intro g c6 w6 o6 hgrow hat hlt6
                  have FIN := Hid.mk' (RA.putDs KA o6 hgrow hat)
                  have S6 : w6.cell? ⟨X, 4, none⟩ = some (.slice m.a0 r.ds.length m.c0) := by rw [hgrow.cell_far ⟨X, 4, none⟩ hXa (fun e => KA.n.1 e.symm)]; exact (KA.c.2 4 _ rfl).1
                  clear KA o6 hgrow hat bA
                  refine hK.out _ _ S6 (fun hHeld => ?_)
                  clear hK K
                  (try simp only [Act.put, List.setIfInBounds_toArray, List.set_cons_zero, List.set_cons_succ])
                  refine wpAnyH_take (i := 11) (oi := { dst := some 39, op := Op.fieldAddr 26 (Operand.tmp 3) 4, type := 0, pos := "l12_draw.go:305", after := #[{ on := 0, ground := Ground.phase }, { on := 1, ground := Ground.phase }, { on := 2, ground := Ground.phase }, { on := 3, ground := Ground.phase }, { on := 4, ground := Ground.phase }, { on := 5, ground := Ground.phase }, { on := 6, ground := Ground.phase }, { on := 7, ground := Ground.phase }, { on := 8, ground := Ground.phase }, { on := 9, ground := Ground.phase }, { on := 10, ground := Ground.phase }], guard := none }) (v := ?_) rfl (by kernel_rfl) (by kernel_rfl) (by kernel_rfl) (fun _ _ _ h => h) (Or.inl ⟨by rfl, ?_⟩) hHeld ?_
                  rotate_left
                  · (intro w7 hC7; go_simp; first | done | rfl)
                  (try simp only [Act.put, List.setIfInBounds_toArray, List.set_cons_zero, List.set_cons_succ])
                  refine wpAnyH_done (by kernel_rfl) ?_ _
                  simp only [Ql]
                  obtain ⟨r', m', KF, hsm, ⟨u6, hu6⟩, hf6⟩ := FIN.out
                  have HKF := Hid.mk' KF
                  clear KF FIN S6 hHeld
                  go_simp
                  go_wp2
                  go_meet
                  case rel => exact ⟨rfl, r', m', HKF.out.more (by omega), hsm SM.out⟩
                exact AllReadyH.nil
              exact AllReadyH.nil
            exact AllReadyH.nil
          exact AllReadyH.nil
        exact AllReadyH.nil
      exact AllReadyH.nil
    have h3 : (sw == 3) = false := beq_eq_false_iff_ne.2 e3
    by_cases e4 : sw = 4
    · subst e4
      clear h0 h1 h2 h3
      go_upto_region 12 with fail
      obtain ⟨i0, hi, hz0, hz1, hz2⟩ := info_parts iInfo
      have hXs := K1.out.c.1
      have hXb : X ≠ rb := by have := K1.out.s0; have := K1.out.hR; have := K1.out.rx; omega
      have hrs : rb < w4.heap.size := by have := K1.out.s0; have := K1.out.hR; have := K1.out.rx; omega
      have HFX : Hid (∀ w', But rb w4.heap.size w4 w' → w'.cell? ⟨X, 5, none⟩ = some (.slice m.a1 r.da.length m.c1)) := fun w' hb => by rw [hb.cell (p := ⟨X, 5, none⟩) hXs hXb]; exact (K1.out.c.2 5 _ rfl).1
      have HD : Hid (But rb w4.heap.size w4 w4.drew) := But.of_below ((Below.refl _ _).drew)
      have rdd : Rd w4.drew rb (L + 61) := K1.out.rd.below ((Below.refl _ _).drew)
      refine region_last #[{ dst := some 42, op := Op.fieldAddr 26 (Operand.tmp 3) 5, type := 0, pos := "l12_draw.go:307", after := #[], guard := none }, { dst := some 43, op := Op.load 24 (Operand.tmp 42), type := 24, pos := "l12_draw.go:307", after := #[{ on := 0, ground := Ground.data }], guard := none }, { dst := some 44, op := Op.move (Operand.tmp 0), type := 44, pos := "l12_draw.go:307", after := #[], guard := none }, { dst := some 45, op := Op.buildSlice 24 3 #[(0, Operand.const (Value.int IntKind.i64 0)), (1, Operand.const (Value.int IntKind.i64 32)), (2, Operand.const (Value.int IntKind.i64 31))], type := 24, pos := "l12_draw.go:307", after := #[], guard := none }, { dst := some 46, op := Op.call { callee := Callee.value (Operand.func 37), args := #[Operand.tmp 44, Operand.tmp 45], argTypes := #[44, 24] }, type := 3, pos := "l12_draw.go:307", after := #[{ on := 2, ground := Ground.data }, { on := 3, ground := Ground.data }], guard := none }, { dst := some 47, op := Op.buildSlice 24 1 #[(0, Operand.tmp 46)], type := 24, pos := "l12_draw.go:307", after := #[{ on := 4, ground := Ground.data }], guard := none }, { dst := some 48, op := Op.call { callee := Callee.builtin Builtin.append, args := #[Operand.tmp 43, Operand.tmp 47], argTypes := #[24, 24] }, type := 24, pos := "l12_draw.go:307", after := #[{ on := 1, ground := Ground.data }, { on := 5, ground := Ground.data }, { on := 4, ground := Ground.chain }], guard := none }, { dst := some 49, op := Op.fieldAddr 26 (Operand.tmp 3) 5, type := 0, pos := "l12_draw.go:307", after := #[{ on := 0, ground := Ground.phase }, { on := 1, ground := Ground.phase }, { on := 2, ground := Ground.phase }, { on := 3, ground := Ground.phase }, { on := 4, ground := Ground.phase }, { on := 5, ground := Ground.phase }, { on := 6, ground := Ground.phase }], guard := none }] ({ dst := none, op := Op.store 24 (Operand.tmp 49) (Operand.tmp 48), type := 0, pos := "l12_draw.go:307", after := #[{ on := 7, ground := Ground.data }, { on := 6, ground := Ground.data }, { on := 6, ground := Ground.chain }, { on := 0, ground := Ground.phase }, { on := 1, ground := Ground.phase }, { on := 2, ground := Ground.phase }, { on := 3, ground := Ground.phase }, { on := 4, ground := Ground.phase }, { on := 5, ground := Ground.phase }, { on := 6, ground := Ground.phase }], guard := none }) (fun w' => w'.cell? ⟨X, 5, none⟩ = some (.slice m.a1 r.da.length m.c1)) rfl (by kernel_rfl) (by kernel_rfl) (HFX.out _ HD.out) (fun hHeld => ?_)
      refine wpAnyH_take (i := 0) (oi := { dst := some 42, op := Op.fieldAddr 26 (Operand.tmp 3) 5, type := 0, pos := "l12_draw.go:307", after := #[], guard := none }) (v := ?_) rfl (by kernel_rfl) (by kernel_rfl) (by kernel_rfl) (fun _ _ _ h => h) (Or.inl ⟨by rfl, ?_⟩) hHeld ?_
      rotate_left
      · (intro w7 hC7; go_simp; first | done | rfl)
      (try simp only [Act.put, List.setIfInBounds_toArray, List.set_cons_zero, List.set_cons_succ])
      refine wpAnyH_take (i := 1) (oi := { dst := some 43, op := Op.load 24 (Operand.tmp 42), type := 24, pos := "l12_draw.go:307", after := #[{ on := 0, ground := Ground.data }], guard := none }) (v := ?_) rfl (by kernel_rfl) (by kernel_rfl) (by kernel_rfl) (fun _ _ _ h => h) (Or.inl ⟨by rfl, ?_⟩) hHeld ?_
      rotate_left
      · (intro w7 hC7; go_simp; first | done | rfl)
      (try simp only [Act.put, List.setIfInBounds_toArray, List.set_cons_zero, List.set_cons_succ])
      refine wpAnyH_take (i := 2) (oi := { dst := some 44, op := Op.move (Operand.tmp 0), type := 44, pos := "l12_draw.go:307", after := #[], guard := none }) (v := ?_) rfl (by kernel_rfl) (by kernel_rfl) (by kernel_rfl) (fun _ _ _ h => h) (Or.inl ⟨by rfl, ?_⟩) hHeld ?_
      rotate_left
      · (intro w7 hC7; go_simp; first | done | rfl)
      (try simp only [Act.put, List.setIfInBounds_toArray, List.set_cons_zero, List.set_cons_succ])
      refine wpAnyH_ready (rs := [3]) (by kernel_rfl) (by simp) ?_
      refine AllReadyH.cons (o := { dst := some 45, op := Op.buildSlice 24 3 #[(0, Operand.const (Value.int IntKind.i64 0)), (1, Operand.const (Value.int IntKind.i64 32)), (2, Operand.const (Value.int IntKind.i64 31))], type := 24, pos := "l12_draw.go:307", after := #[], guard := none }) rfl (fun K hK => ?_) ?_
      · go_simp
        refine hK.out _ _ (HFX.out _ (But.alloc HD.out HD.out.size _)) (fun hHeld => ?_)
        clear hK K
        (try simp only [Act.put, List.setIfInBounds_toArray, List.set_cons_zero, List.set_cons_succ])
        refine wpAnyH_ready (rs := [4]) (by kernel_rfl) (by simp) ?_
        refine AllReadyH.cons (o := { dst := some 46, op := Op.call { callee := Callee.value (Operand.func 37), args := #[Operand.tmp 44, Operand.tmp 45], argTypes := #[44, 24] }, type := 3, pos := "l12_draw.go:307", after := #[{ on := 2, ground := Ground.data }, { on := 3, ground := Ground.data }], guard := none }) rfl (fun K hK => ?_) ?_
        · go_simp
          go_at_call 37
          refine (one_list w4.drew rb _ rdd (by omega) 3 [0, 32, 31] rfl (by omega) (by omega) _ rfl).mono ?_
          rintro e w5 ⟨⟨x, rfl, _⟩, hr5, hb5⟩
          have S5 : But rb w4.heap.size w4 w5 := HD.out.trans (hb5.mono (Nat.le_refl _))
          refine hK.out _ _ (HFX.out _ S5) (fun hHeld => ?_)
          clear hK K
          (try simp only [Act.put, List.setIfInBounds_toArray, List.set_cons_zero, List.set_cons_succ])
          have bA : Below w5.heap.size w5 (w5.alloc (.cells #[.int .i64 x] 3)) := (Below.refl _ _).alloc (Nat.le_refl _) _
          have KA := (K1.out.step S5 hr5).step (But.of_below bA) (hr5.below bA)
          have hXa := KA.c.1
          have hRX := KA.rx
          refine wpAnyH_ready (rs := [5]) (by kernel_rfl) (by simp) ?_
          refine AllReadyH.cons (o := { dst := some 47, op := Op.buildSlice 24 1 #[(0, Operand.tmp 46)], type := 24, pos := "l12_draw.go:307", after := #[{ on := 4, ground := Ground.data }], guard := none }) rfl (fun K hK => ?_) ?_
          · go_simp
            refine hK.out _ _ ((KA.c.2 5 _ rfl).1) (fun hHeld => ?_)
            clear hK K
            (try simp only [Act.put, List.setIfInBounds_toArray, List.set_cons_zero, List.set_cons_succ])
            refine wpAnyH_ready (rs := [6]) (by kernel_rfl) (by simp) ?_
            refine AllReadyH.cons (o := { dst := some 48, op := Op.call { callee := Callee.builtin Builtin.append, args := #[Operand.tmp 43, Operand.tmp 47], argTypes := #[24, 24] }, type := 24, pos := "l12_draw.go:307", after := #[{ on := 1, ground := Ground.data }, { on := 5, ground := Ground.data }, { on := 4, ground := Ground.chain }], guard := none }) rfl (fun K hK => ?_) ?_
            · refine step_append_lies _ (by rfl) _ _ _ (by rfl) (w.heap.size + 1) 3 i0 (.int .i64 0) 1 8 Tryd.underlying24 hi hz0 hz1 hz2 rfl (by omega) (.slice m.a1 r.da.length m.c1) r.da.length (r.da.map (Value.int .i64)) (by rfl) KA.l.a ⟨w5.heap.size, 0, none⟩ 1 1 [.int .i64 x] (by rfl) (by rfl) (World.news_of_block (heap_alloc_new w5 _)) (by simp [Value.oneCell']) (by omega) (by have := SM.out.2.1; unfold maxLen; omega) (by have := SM.out.2.1; omega) (by omega) _ rfl ?_
              intro g c6 w6 o6 hgrow hat hlt6
              have FIN := Hid.mk' (RA.putDa KA o6 hgrow hat)
              have S6 : w6.cell? ⟨X, 5, none⟩ = some (.slice m.a1 r.da.length m.c1) := by rw [hgrow.cell_far ⟨X, 5, none⟩ hXa (fun e => KA.n.2.1 e.symm)]; exact (KA.c.2 5 _ rfl).1
              clear KA o6 hgrow hat bA
              refine hK.out _ _ S6 (fun hHeld => ?_)
              clear hK K
              (try simp only [Act.put, List.setIfInBounds_toArray, List.set_cons_zero, List.set_cons_succ])
              refine wpAnyH_take (i := 7) (oi := { dst := some 49, op := Op.fieldAddr 26 (Operand.tmp 3) 5, type := 0, pos := "l12_draw.go:307", after := #[{ on := 0, ground := Ground.phase }, { on := 1, ground := Ground.phase }, { on := 2, ground := Ground.phase }, { on := 3, ground := Ground.phase }, { on := 4, ground := Ground.phase }, { on := 5, ground := Ground.phase }, { on := 6, ground := Ground.phase }], guard := none }) (v := ?_) rfl (by kernel_rfl) (by kernel_rfl) (by kernel_rfl) (fun _ _ _ h => h) (Or.inl ⟨by rfl, ?_⟩) hHeld ?_
              rotate_left
              · (intro w7 hC7; go_simp; first | done | rfl)
              (try simp only [Act.put, List.setIfInBounds_toArray, List.set_cons_zero, List.set_cons_succ])
              refine wpAnyH_done (by kernel_rfl) ?_ _
              simp only [Ql]
              obtain ⟨r', m', KF, hsm, ⟨u6, hu6⟩, hf6⟩ := FIN.out
              have HKF := Hid.mk' KF
              clear KF FIN S6 hHeld
              go_simp
              go_wp2
              go_meet
              case rel => exact ⟨rfl, r', m', HKF.out.more (by omega), hsm SM.out⟩
            exact AllReadyH.nil
          exact AllReadyH.nil
        exact AllReadyH.nil
      exact AllReadyH.nil
    have h4 : (sw == 4) = false := beq_eq_false_iff_ne.2 e4
    by_cases e5 : sw = 5
    · subst e5
      clear h0 h1 h2 h3 h4
      go_upto_region 14 with fail
      obtain ⟨i0, hi, hz0, hz1, hz2⟩ := info_parts iInfo
      have hXs := K1.out.c.1
      have hXb : X ≠ rb := by have := K1.out.s0; have := K1.out.hR; have := K1.out.rx; omega
      have hrs : rb < w4.heap.size := by have := K1.out.s0; have := K1.out.hR; have := K1.out.rx; omega
      have HFX : Hid (∀ w', But rb w4.heap.size w4 w' → w'.cell? ⟨X, 7, none⟩ = some (.slice m.a3 r.pl.length m.c3)) := fun w' hb => by rw [hb.cell (p := ⟨X, 7, none⟩) hXs hXb]; exact (K1.out.c.2 7 _ rfl).1
      have HD : Hid (But rb w4.heap.size w4 w4.drew) := But.of_below ((Below.refl _ _).drew)
      have rdd : Rd w4.drew rb (L + 61) := K1.out.rd.below ((Below.refl _ _).drew)
      refine region_last #[{ dst := some 52, op := Op.fieldAddr 26 (Operand.tmp 3) 7, type := 0, pos := "l12_draw.go:309", after := #[], guard := none }, { dst := some 53, op := Op.load 24 (Operand.tmp 52), type := 24, pos := "l12_draw.go:309", after := #[{ on := 0, ground := Ground.data }], guard := none }, { dst := some 54, op := Op.move (Operand.tmp 0), type := 44, pos := "l12_draw.go:309", after := #[], guard := none }, { dst := some 55, op := Op.buildSlice 24 3 #[(0, Operand.const (Value.int IntKind.i64 0)), (1, Operand.const (Value.int IntKind.i64 367)), (2, Operand.const (Value.int IntKind.i64 1))], type := 24, pos := "l12_draw.go:309", after := #[], guard := none }, { dst := some 56, op := Op.call { callee := Callee.value (Operand.func 37), args := #[Operand.tmp 54, Operand.tmp 55], argTypes := #[44, 24] }, type := 3, pos := "l12_draw.go:309", after := #[{ on := 2, ground := Ground.data }, { on := 3, ground := Ground.data }], guard := none }, { dst := some 57, op := Op.buildSlice 24 1 #[(0, Operand.tmp 56)], type := 24, pos := "l12_draw.go:309", after := #[{ on := 4, ground := Ground.data }], guard := none }, { dst := some 58, op := Op.call { callee := Callee.builtin Builtin.append, args := #[Operand.tmp 53, Operand.tmp 57], argTypes := #[24, 24] }, type := 24, pos := "l12_draw.go:309", after := #[{ on := 1, ground := Ground.data }, { on := 5, ground := Ground.data }, { on := 4, ground := Ground.chain }], guard := none }, { dst := some 59, op := Op.fieldAddr 26 (Operand.tmp 3) 7, type := 0, pos := "l12_draw.go:309", after := #[{ on := 0, ground := Ground.phase }, { on := 1, ground := Ground.phase }, { on := 2, ground := Ground.phase }, { on := 3, ground := Ground.phase }, { on := 4, ground := Ground.phase }, { on := 5, ground := Ground.phase }, { on := 6, ground := Ground.phase }], guard := none }] ({ dst := none, op := Op.store 24 (Operand.tmp 59) (Operand.tmp 58), type := 0, pos := "l12_draw.go:309", after := #[{ on := 7, ground := Ground.data }, { on := 6, ground := Ground.data }, { on := 6, ground := Ground.chain }, { on := 0, ground := Ground.phase }, { on := 1, ground := Ground.phase }, { on := 2, ground := Ground.phase }, { on := 3, ground := Ground.phase }, { on := 4, ground := Ground.phase }, { on := 5, ground := Ground.phase }, { on := 6, ground := Ground.phase }], guard := none }) (fun w' => w'.cell? ⟨X, 7, none⟩ = some (.slice m.a3 r.pl.length m.c3)) rfl (by kernel_rfl) (by kernel_rfl) (HFX.out _ HD.out) (fun hHeld => ?_)
      refine wpAnyH_take (i := 0) (oi := { dst := some 52, op := Op.fieldAddr 26 (Operand.tmp 3) 7, type := 0, pos := "l12_draw.go:309", after := #[], guard := none }) (v := ?_) rfl (by kernel_rfl) (by kernel_rfl) (by kernel_rfl) (fun _ _ _ h => h) (Or.inl ⟨by rfl, ?_⟩) hHeld ?_
      rotate_left
      · (intro w7 hC7; go_simp; first | done | rfl)
      (try simp only [Act.put, List.setIfInBounds_toArray, List.set_cons_zero, List.set_cons_succ])
      refine wpAnyH_take (i := 1) (oi := { dst := some 53, op := Op.load 24 (Operand.tmp 52), type := 24, pos := "l12_draw.go:309", after := #[{ on := 0, ground := Ground.data }], guard := none }) (v := ?_) rfl (by kernel_rfl) (by kernel_rfl) (by kernel_rfl) (fun _ _ _ h => h) (Or.inl ⟨by rfl, ?_⟩) hHeld ?_
      rotate_left
      · (intro w7 hC7; go_simp; first | done | rfl)
      (try simp only [Act.put, List.setIfInBounds_toArray, List.set_cons_zero, List.set_cons_succ])
      refine wpAnyH_take (i := 2) (oi := { dst := some 54, op := Op.move (Operand.tmp 0), type := 44, pos := "l12_draw.go:309", after := #[], guard := none }) (v := ?_) rfl (by kernel_rfl) (by kernel_rfl) (by kernel_rfl) (fun _ _ _ h => h) (Or.inl ⟨by rfl, ?_⟩) hHeld ?_
      rotate_left
      · (intro w7 hC7; go_simp; first | done | rfl)
      (try simp only [Act.put, List.setIfInBounds_toArray, List.set_cons_zero, List.set_cons_succ])
      refine wpAnyH_ready (rs := [3]) (by kernel_rfl) (by simp) ?_
      refine AllReadyH.cons (o := { dst := some 55, op := Op.buildSlice 24 3 #[(0, Operand.const (Value.int IntKind.i64 0)), (1, Operand.const (Value.int IntKind.i64 367)), (2, Operand.const (Value.int IntKind.i64 1))], type := 24, pos := "l12_draw.go:309", after := #[], guard := none }) rfl (fun K hK => ?_) ?_
      · go_simp
        refine hK.out _ _ (HFX.out _ (But.alloc HD.out HD.out.size _)) (fun hHeld => ?_)
        clear hK K
        (try simp only [Act.put, List.setIfInBounds_toArray, List.set_cons_zero, List.set_cons_succ])
        refine wpAnyH_ready (rs := [4]) (by kernel_rfl) (by simp) ?_
        refine AllReadyH.cons (o := { dst := some 56, op := Op.call { callee := Callee.value (Operand.func 37), args := #[Operand.tmp 54, Operand.tmp 55], argTypes := #[44, 24] }, type := 3, pos := "l12_draw.go:309", after := #[{ on := 2, ground := Ground.data }, { on := 3, ground := Ground.data }], guard := none }) rfl (fun K hK => ?_) ?_
        · go_simp
          go_at_call 37
          refine (one_list w4.drew rb _ rdd (by omega) 3 [0, 367, 1] rfl (by omega) (by omega) _ rfl).mono ?_
          rintro e w5 ⟨⟨x, rfl, _⟩, hr5, hb5⟩
          have S5 : But rb w4.heap.size w4 w5 := HD.out.trans (hb5.mono (Nat.le_refl _))
          refine hK.out _ _ (HFX.out _ S5) (fun hHeld => ?_)
          clear hK K
          (try simp only [Act.put, List.setIfInBounds_toArray, List.set_cons_zero, List.set_cons_succ])
          have bA : Below w5.heap.size w5 (w5.alloc (.cells #[.int .i64 x] 3)) := (Below.refl _ _).alloc (Nat.le_refl _) _
          have KA := (K1.out.step S5 hr5).step (But.of_below bA) (hr5.below bA)
          have hXa := KA.c.1
          have hRX := KA.rx
          refine wpAnyH_ready (rs := [5]) (by kernel_rfl) (by simp) ?_
          refine AllReadyH.cons (o := { dst := some 57, op := Op.buildSlice 24 1 #[(0, Operand.tmp 56)], type := 24, pos := "l12_draw.go:309", after := #[{ on := 4, ground := Ground.data }], guard := none }) rfl (fun K hK => ?_) ?_
          · go_simp
            refine hK.out _ _ ((KA.c.2 7 _ rfl).1) (fun hHeld => ?_)
            clear hK K
            (try simp only [Act.put, List.setIfInBounds_toArray, List.set_cons_zero, List.set_cons_succ])
            refine wpAnyH_ready (rs := [6]) (by kernel_rfl) (by simp) ?_
            refine AllReadyH.cons (o := { dst := some 58, op := Op.call { callee := Callee.builtin Builtin.append, args := #[Operand.tmp 53, Operand.tmp 57], argTypes := #[24, 24] }, type := 24, pos := "l12_draw.go:309", after := #[{ on := 1, ground := Ground.data }, { on := 5, ground := Ground.data }, { on := 4, ground := Ground.chain }], guard := none }) rfl (fun K hK => ?_) ?_
            · refine step_append_lies _ (by rfl) _ _ _ (by rfl) (w.heap.size + 1) 3 i0 (.int .i64 0) 1 8 Tryd.underlying24 hi hz0 hz1 hz2 rfl (by omega) (.slice m.a3 r.pl.length m.c3) r.pl.length (r.pl.map (Value.int .i64)) (by rfl) KA.l.p ⟨w5.heap.size, 0, none⟩ 1 1 [.int .i64 x] (by rfl) (by rfl) (World.news_of_block (heap_alloc_new w5 _)) (by simp [Value.oneCell']) (by omega) (by have := SM.out.2.2.2; unfold maxLen; omega) (by have := SM.out.2.2.2; omega) (by omega) _ rfl ?_
              intro g c6 w6 o6 hgrow hat hlt6
              have FIN := Hid.mk' (RA.putPl KA o6 hgrow hat)
              have S6 : w6.cell? ⟨X, 7, none⟩ = some (.slice m.a3 r.pl.length m.c3) := by rw [hgrow.cell_far ⟨X, 7, none⟩ hXa (fun e => KA.n.2.2.2 e.symm)]; exact (KA.c.2 7 _ rfl).1
              clear KA o6 hgrow hat bA
              refine hK.out _ _ S6 (fun hHeld => ?_)
              clear hK K
              (try simp only [Act.put, List.setIfInBounds_toArray, List.set_cons_zero, List.set_cons_succ])
              refine wpAnyH_take (i := 7) (oi := { dst := some 59, op := Op.fieldAddr 26 (Operand.tmp 3) 7, type := 0, pos := "l12_draw.go:309", after := #[{ on := 0, ground := Ground.phase }, { on := 1, ground := Ground.phase }, { on := 2, ground := Ground.phase }, { on := 3, ground := Ground.phase }, { on := 4, ground := Ground.phase }, { on := 5, ground := Ground.phase }, { on := 6, ground := Ground.phase }], guard := none }) (v := ?_) rfl (by kernel_rfl) (by kernel_rfl) (by kernel_rfl) (fun _ _ _ h => h) (Or.inl ⟨by rfl, ?_⟩) hHeld ?_
              rotate_left
              · (intro w7 hC7; go_simp; first | done | rfl)
              (try simp only [Act.put, List.setIfInBounds_toArray, List.set_cons_zero, List.set_cons_succ])
              refine wpAnyH_done (by kernel_rfl) ?_ _
              simp only [Ql]
              obtain ⟨r', m', KF, hsm, ⟨u6, hu6⟩, hf6⟩ := FIN.out
              have HKF := Hid.mk' KF
              clear KF FIN S6 hHeld
              go_simp
              go_wp2
              go_meet
              case rel => exact ⟨rfl, r', m', HKF.out.more (by omega), hsm SM.out⟩
            exact AllReadyH.nil
          exact AllReadyH.nil
        exact AllReadyH.nil
      exact AllReadyH.nil
    have h5 : (sw == 5) = false := beq_eq_false_iff_ne.2 e5
    clear e3 e4 e5
    go_wp2
    go_meet
    case rel => exact ⟨rfl, r, m, K1.out.more (by omega), SM4.out⟩
  clear K1
  obtain ⟨rfl, hc⟩ := hcut
  obtain ⟨r, m, K, sm⟩ := hc
  generalize wc = wz at K ⊢
  have HK : Hid (RA w rb w.heap.size X (L + 63) r m wz) := K
  have c0 : wz.cell? ⟨X, 0, none⟩ = some (.int .i64 r.f) := (K.c.2 0 _ rfl).1
  have c1 : wz.cell? ⟨X, 1, none⟩ = some (.int .i64 r.ev) := (K.c.2 1 _ rfl).1
  have c2 : wz.cell? ⟨X, 2, none⟩ = some (.int .i64 r.ct) := (K.c.2 2 _ rfl).1
  have c3 : wz.cell? ⟨X, 3, none⟩ = some (.int .i64 r.un) := (K.c.2 3 _ rfl).1
  have c4 : wz.cell? ⟨X, 4, none⟩ = some (.slice m.a0 r.ds.length m.c0) := (K.c.2 4 _ rfl).1
  have c5 : wz.cell? ⟨X, 5, none⟩ = some (.slice m.a1 r.da.length m.c1) := (K.c.2 5 _ rfl).1
  have c6 : wz.cell? ⟨X, 6, none⟩ = some (.slice m.a2 r.mo.length m.c2) := (K.c.2 6 _ rfl).1
  have c7 : wz.cell? ⟨X, 7, none⟩ = some (.slice m.a3 r.pl.length m.c3) := (K.c.2 7 _ rfl).1
  have c8 : wz.cell? ⟨X, 8, none⟩ = some (.int .i64 r.wk) := (K.c.2 8 _ rfl).1
  have z0 : wz.cell? ⟨w.heap.size, 0, none⟩ = some (.int .i64 0) := (K.z.2 0 _ rfl).1
  have y0 : wz.frozen? ⟨w.heap.size, 0, none⟩ = false := (K.z.2 0 _ rfl).2
  have z1 : wz.cell? ⟨w.heap.size, 1, none⟩ = some (.int .i64 0) := (K.z.2 1 _ rfl).1
  have y1 : wz.frozen? ⟨w.heap.size, 1, none⟩ = false := (K.z.2 1 _ rfl).2
  have z2 : wz.cell? ⟨w.heap.size, 2, none⟩ = some (.int .i64 0) := (K.z.2 2 _ rfl).1
  have y2 : wz.frozen? ⟨w.heap.size, 2, none⟩ = false := (K.z.2 2 _ rfl).2
  have z3 : wz.cell? ⟨w.heap.size, 3, none⟩ = some (.int .i64 0) := (K.z.2 3 _ rfl).1
  have y3 : wz.frozen? ⟨w.heap.size, 3, none⟩ = false := (K.z.2 3 _ rfl).2
  have z4 : wz.cell? ⟨w.heap.size, 4, none⟩ = some (.slice none 0 0) := (K.z.2 4 _ rfl).1
  have y4 : wz.frozen? ⟨w.heap.size, 4, none⟩ = false := (K.z.2 4 _ rfl).2
  have z5 : wz.cell? ⟨w.heap.size, 5, none⟩ = some (.slice none 0 0) := (K.z.2 5 _ rfl).1
  have y5 : wz.frozen? ⟨w.heap.size, 5, none⟩ = false := (K.z.2 5 _ rfl).2
  have z6 : wz.cell? ⟨w.heap.size, 6, none⟩ = some (.slice none 0 0) := (K.z.2 6 _ rfl).1
  have y6 : wz.frozen? ⟨w.heap.size, 6, none⟩ = false := (K.z.2 6 _ rfl).2
  have z7 : wz.cell? ⟨w.heap.size, 7, none⟩ = some (.slice none 0 0) := (K.z.2 7 _ rfl).1
  have y7 : wz.frozen? ⟨w.heap.size, 7, none⟩ = false := (K.z.2 7 _ rfl).2
  have z8 : wz.cell? ⟨w.heap.size, 8, none⟩ = some (.int .i64 0) := (K.z.2 8 _ rfl).1
  have y8 : wz.frozen? ⟨w.heap.size, 8, none⟩ = false := (K.z.2 8 _ rfl).2
  have hXw : w.heap.size < X := K.rx
  clear K
  go_wp2
  refine bodyPost_ret (v := .agg #[.int .i64 r.f, .int .i64 r.ev, .int .i64 r.ct, .int .i64 r.un, .slice m.a0 r.ds.length m.c0, .slice m.a1 r.da.length m.c1, .slice m.a2 r.mo.length m.c2, .slice m.a3 r.pl.length m.c3, .int .i64 r.wk]) (by simp [results, Tryd.results34, go_sem, *]) rfl ⟨⟨r, m, rfl, ?_, sm⟩, ?_, ?_⟩
  · refine OL.down (B := w.heap.size + 1) ?_ (by omega)
    repeat (first | with_reducible exact HK.out.l | with_reducible refine OL.low ?_ (by show w.heap.size < w.heap.size + 1; omega) _)
  · refine Rd.mono (L := L + 63) ?_ (by omega)
    repeat (first | with_reducible exact HK.out.rd | with_reducible refine Rd.setCell ?_ (by show rb < w.heap.size; exact hs) _)
  · iterate 9 refine But.setCell ?_ (Or.inl (by show w.heap.size ≤ w.heap.size; exact Nat.le_refl _)) _
    exact HK.out.b
end Go.Proofs.YtlfglhpepoepcaaDoor
namespace Go.Proofs.YtlfglhpepoepcaaDoor
open Go.RowKit
set_option linter.unusedVariables false
/-- What stands while a rule and two days are drawn: the answer's block R, the reader in the next, the rule's own block X, and its lists. -/
structure RD (w0 : World) (X L : Nat) (r : Rl) (m : Rm) (W : World) : Prop where
  rd : Rd W (w0.heap.size + 1) L
  z : CF W w0.heap.size (rcs ⟨0, 0, 0, 0, [], [], [], [], 0⟩ ⟨none, 0, none, 0, none, 0, none, 0⟩)
  c : CF W X (rcs r m)
  rx : w0.heap.size + 1 < X
  l : OL (w0.heap.size + 2) r m W
  b : But (w0.heap.size + 1) w0.heap.size w0 W
theorem RD.step {w0 W W' : World} {X L L' : Nat} {r : Rl} {m : Rm} (h : RD w0 X L r m W) (hb : But (w0.heap.size + 1) W.heap.size W W') (hr : Rd W' (w0.heap.size + 1) L') : RD w0 X L' r m W' := by
  have h3 := h.rx
  exact ⟨hr, h.z.but hb (by omega), h.c.but hb (by omega), h3, h.l.keep fun g h4 h5 => hb.block g h5 (by omega), h.b.trans (hb.mono h.b.size)⟩
theorem RD.al {w0 W : World} {X L : Nat} {r : Rl} {m : Rm} (h : RD w0 X L r m W) (o : Obj) : RD w0 X L r m (W.alloc o) :=
  h.step (But.of_below ((Below.refl _ _).alloc (Nat.le_refl _) o)) (h.rd.below ((Below.refl _ _).alloc (Nat.le_refl _) o))
theorem RD.dr {w0 W : World} {X L : Nat} {r : Rl} {m : Rm} (h : RD w0 X L r m W) : RD w0 X L r m W.drew :=
  h.step (But.of_below (Below.refl _ _).drew) (h.rd.below (Below.refl _ _).drew)
theorem size_setCells_own (b : Nat) : ∀ (vs : List Value) (o : Nat) (w : World), (w.setCells b o vs).heap.size = w.heap.size := by
  intro vs
  induction vs with
  | nil => intro o w; rfl
  | cons v vs ih => intro o w; rw [World.setCells, ih]; simp
theorem CF.setCells {W : World} {b : Nat} {xs : Array Value} (h : CF W b xs) (vs : Array Value) (hs : vs.size = xs.size) : CF (W.setCells b 0 vs.toList) b vs := by
  refine ⟨by rw [size_setCells_own]; exact h.1, fun i v hv => ⟨?_, ?_⟩⟩
  · have hi : i < vs.toList.length := by have := (Array.getElem?_eq_some_iff.1 hv).1; simpa using this
    have := World.cell?_setCells_in b vs.toList 0 W (fun j hj => by
      have hj2 : j < xs.size := by rw [← hs]; simpa using hj
      have := (h.2 j xs[j] (by simp [hj2])).1
      rw [Nat.zero_add, this]; rfl) i hi
    rw [Nat.zero_add] at this
    rw [this]
    obtain ⟨h1, h2⟩ := Array.getElem?_eq_some_iff.1 hv
    simp [h2]
  · rw [World.frozen?_setCells]
    have hi : i < xs.size := by rw [← hs]; exact (Array.getElem?_eq_some_iff.1 hv).1
    exact (h.2 i xs[i] (by simp [hi])).2
theorem CF.apart {b b' : Nat} {xs : Array Value} (hb : b ≠ b') : ∀ (vs : List Value) (o : Nat) (W : World), CF W b xs → CF (W.setCells b' o vs) b xs := by
  intro vs
  induction vs with
  | nil => intro o W h; exact h
  | cons v vs ih => intro o W h; exact ih (o + 1) _ (h.other o v hb)
theorem OL.setCells {B b : Nat} {r : Rl} {m : Rm} (hb : b < B) : ∀ (vs : List Value) (o : Nat) (W : World), OL B r m W → OL B r m (W.setCells b o vs) := by
  intro vs
  induction vs with
  | nil => intro o W h; exact h
  | cons v vs ih => intro o W h; exact ih (o + 1) _ (h.low (p := ⟨b, o, none⟩) hb v)
theorem But.setCells {rb B b : Nat} {w : World} (hb : B ≤ b) : ∀ (vs : List Value) (o : Nat) (W : World), But rb B w W → But rb B w (W.setCells b o vs) := by
  intro vs
  induction vs with
  | nil => intro o W h; exact h
  | cons v vs ih => intro o W h; exact ih (o + 1) _ (h.setCell (p := ⟨b, o, none⟩) (.inl hb) v)
theorem CF.range {W : World} {b : Nat} {xs : Array Value} (h : CF W b xs) : W.rangeAt b 0 xs.toList := fun j v hv => by
  rw [Nat.zero_add]; exact (h.2 j v (by simpa using hv)).1
theorem CF.there {W : World} {b : Nat} {xs : Array Value} (h : CF W b xs) (n : Nat) (hn : n = xs.size) : W.there b 0 n := fun j hj => by
  have hj2 : j < xs.size := by omega
  obtain ⟨h1, h2⟩ := h.2 j xs[j] (by simp [hj2])
  rw [Nat.zero_add]
  exact ⟨by rw [h1]; rfl, h2⟩
theorem step_store_mid {P : Program} {w : World} {ops : Array Oper} {o : Oper} {a : Act} {K : Act → World → Prop} {Q : Exit → Act → World → Prop} {E : Prop} (hgd : o.guard = none) (ty : TypeId) (x y : Operand) (ho : o.op = .store ty x y)
    (b off : Nat) (cells : Array Value) (hx : a.eval x = .pointer (some ⟨b, off, none⟩)) (hy : a.eval y = .agg cells)
    (ht : w.there b off cells.size) (hi : (P.info? ty).map (·.size) = some cells.size) (h1 : cells.all (·.oneCell') = true)
    (h : K (a.put o.dst undef) (w.setCells b off cells.toList)) : if Region.wanted o (yielded ops a.tmps) = true then Oper.wp P o a w K Q else E := by
  have hw : Region.wanted o (yielded ops a.tmps) = true := by simp [Region.wanted, hgd]
  rw [if_pos hw]
  exact wp_store_mid ty x y ho b off cells hx hy ht hi h1 h
theorem ruleSize : (Tryd.prog.info? 26).map (fun i => i.size) = some 9 := by kernel_rfl
theorem start_any (w : World) (rb L : Nat) (h : Rd w rb L) (hL : L ≤ 1099511627776) :
    Calls Tryd.prog 35 #[.pointer (some ⟨rb, 0, none⟩)] w fun e w' => (∃ r : Int, e = .returned (.int .i64 r) ∧ 739600 ≤ r ∧ r ≤ 739855) ∧ Rd w' rb (L + 1) ∧ But rb w.heap.size w w' := by
  go_enter Tryd.func35, Tryd.ntmps35
  go_wp2_with fail
  refine (pick_pos _ w rb L h hL (by omega)).mono ?_
  rintro e w1 ⟨⟨x, rfl, x0, x1⟩, r1, b1⟩
  have g1 := IntWalk.i64_in (739600 + x) (by omega)
  go_wp2
  go_ret
  exact ⟨⟨_, rfl, by omega, by omega⟩, r1, b1⟩
set_option maxRecDepth 100000 in
set_option maxHeartbeats 16000000 in
theorem drawRuleDays (w : World) (a : Option Addr) (len cap : Nat) (h : IsCode w a len cap) :
    Calls Tryd.prog 17 #[.slice a len cap] w fun e w' => ∃ r m s t, e = .returned (.tuple #[.agg (rcs r m), .int .i64 s, .int .i64 t]) ∧ OL w.heap.size r m w' ∧ Sml 4 r ∧ (-1 ≤ s ∧ s ≤ 3652058) ∧ (0 ≤ t ∧ t ≤ 3652058) ∧ Below w.heap.size w w' := by
  have bz : Below w.heap.size w (w.alloc (.cells (rcs ⟨0, 0, 0, 0, [], [], [], [], 0⟩ ⟨none, 0, none, 0, none, 0, none, 0⟩) 26)) := (Below.refl _ _).alloc (Nat.le_refl _) _
  have h0 : IsCode (w.alloc (.cells (rcs ⟨0, 0, 0, 0, [], [], [], [], 0⟩ ⟨none, 0, none, 0, none, 0, none, 0⟩) 26)) a len cap := h.below bz
  have Z0 : CF (w.alloc (.cells (rcs ⟨0, 0, 0, 0, [], [], [], [], 0⟩ ⟨none, 0, none, 0, none, 0, none, 0⟩) 26)) w.heap.size (rcs ⟨0, 0, 0, 0, [], [], [], [], 0⟩ ⟨none, 0, none, 0, none, 0, none, 0⟩) := CF.new w _ _
  have S0 : Hid ((w.alloc (.cells (rcs ⟨0, 0, 0, 0, [], [], [], [], 0⟩ ⟨none, 0, none, 0, none, 0, none, 0⟩) 26)).heap.size = w.heap.size + 1) := by unfold Hid; simp
  have HW0 : Hid (w.alloc (.cells (rcs ⟨0, 0, 0, 0, [], [], [], [], 0⟩ ⟨none, 0, none, 0, none, 0, none, 0⟩) 26) = w.alloc (.cells #[.int .i64 0, .int .i64 0, .int .i64 0, .int .i64 0, .slice none 0 0, .slice none 0 0, .slice none 0 0, .slice none 0 0, .int .i64 0] 26)) := rfl
  generalize w.alloc (.cells (rcs ⟨0, 0, 0, 0, [], [], [], [], 0⟩ ⟨none, 0, none, 0, none, 0, none, 0⟩) 26) = W0 at bz h0 Z0 S0 HW0
  clear h
  go_enter Tryd.func17, Tryd.ntmps17
  go_wp2_with fail
  rw [← HW0.out]
  refine (open_any W0 a len cap h0).mono ?_
  rintro e w1 ⟨rfl, r1, b1⟩
  have hs1 := r1.size
  have ss := S0.out
  rw [ss] at r1 hs1
  have Z1 := Z0.below b1
  have B1 : Below w.heap.size w w1 := bz.trans (b1.mono (by omega))
  clear h0 Z0 S0 HW0
  go_wp2_with fail
  refine (anyrule_any w1 _ 0 r1 (by omega)).mono ?_
  rintro e w2 ⟨⟨r, m, rfl, O2, sm⟩, r2, b2⟩
  have hrc : rcs r m = #[.int .i64 r.f, .int .i64 r.ev, .int .i64 r.ct, .int .i64 r.un, .slice m.a0 r.ds.length m.c0, .slice m.a1 r.da.length m.c1, .slice m.a2 r.mo.length m.c2, .slice m.a3 r.pl.length m.c3, .int .i64 r.wk] := rfl
  rw [hrc]
  clear hrc
  have SM : Hid (Sml 4 r) := sm
  have k2 := b2.size
  have K3 : Hid (RD w w2.heap.size 64 r m (w2.alloc (.cells #[.int .i64 r.f, .int .i64 r.ev, .int .i64 r.ct, .int .i64 r.un, .slice m.a0 r.ds.length m.c0, .slice m.a1 r.da.length m.c1, .slice m.a2 r.mo.length m.c2, .slice m.a3 r.pl.length m.c3, .int .i64 r.wk] 26))) := by
    have bA : Below w2.heap.size w2 (w2.alloc (.cells #[.int .i64 r.f, .int .i64 r.ev, .int .i64 r.ct, .int .i64 r.un, .slice m.a0 r.ds.length m.c0, .slice m.a1 r.da.length m.c1, .slice m.a2 r.mo.length m.c2, .slice m.a3 r.pl.length m.c3, .int .i64 r.wk] 26)) := (Below.refl _ _).alloc (Nat.le_refl _) _
    exact ⟨by simpa using r2.below bA, (Z1.but b2 (by omega)).below bA, CF.new _ _ _, by omega, (O2.down (by omega)).keep fun g h4 h5 => bA.block g h5, ((But.of_below B1).trans (b2.mono (by omega))).trans ((But.of_below bA).mono (by omega))⟩
  clear r1 b1 hs1 ss Z1 B1 bz r2 b2 O2 sm
  go_wp2_with fail
  generalize w2.alloc (.cells #[.int .i64 r.f, .int .i64 r.ev, .int .i64 r.ct, .int .i64 r.un, .slice m.a0 r.ds.length m.c0, .slice m.a1 r.da.length m.c1, .slice m.a2 r.mo.length m.c2, .slice m.a3 r.pl.length m.c3, .int .i64 r.wk] 26) = W3 at K3 ⊢
  generalize w2.heap.size = X at K3 ⊢
  refine (start_any W3 _ _ K3.out.rd (by omega)).mono ?_
  rintro e w4 ⟨⟨s, rfl, s0, s1⟩, r4, b4⟩
  have K4 : Hid (RD w X 65 r m w4) := K3.out.step b4 r4
  clear K3 r4 b4
  go_wp2_with fail
  refine (pick_pos _ w4 _ _ K4.out.rd (by omega) (by omega)).mono ?_
  rintro e w5 ⟨⟨q, rfl, q0, q1⟩, r5, b5⟩
  have K5 : Hid (RD w X 66 r m w5) := K4.out.step b5 r5
  clear K4 r5 b5
  by_cases e0 : q = 0
  · subst e0
    go_upto_region 5 with fail
    have KD : Hid (RD w X 66 r m w5.drew) := K5.out.dr
    refine wp_region_held_drew (S := (fun w' => CF w' X #[.int .i64 r.f, .int .i64 r.ev, .int .i64 r.ct, .int .i64 r.un, .slice m.a0 r.ds.length m.c0, .slice m.a1 r.da.length m.c1, .slice m.a2 r.mo.length m.c2, .slice m.a3 r.pl.length m.c3, .int .i64 r.wk])) (by kernel_rfl) KD.out.c (fun hHeld => ?_)
    refine wpAnyH_take (i := 0) (oi := { dst := some 17, op := Op.load 26 (Operand.tmp 6), type := 26, pos := "l12_draw.go:344", after := #[], guard := none }) (v := .agg ([.int .i64 r.f, .int .i64 r.ev, .int .i64 r.ct, .int .i64 r.un, .slice m.a0 r.ds.length m.c0, .slice m.a1 r.da.length m.c1, .slice m.a2 r.mo.length m.c2, .slice m.a3 r.pl.length m.c3, .int .i64 r.wk] : List Value).toArray) rfl (by kernel_rfl) (by kernel_rfl) (by kernel_rfl) (fun _ _ _ h => h) (yieldsIf_load_mid rfl 26 (.tmp 6) rfl X 0 rfl [.int .i64 r.f, .int .i64 r.ev, .int .i64 r.ct, .int .i64 r.un, .slice m.a0 r.ds.length m.c0, .slice m.a1 r.da.length m.c1, .slice m.a2 r.mo.length m.c2, .slice m.a3 r.pl.length m.c3, .int .i64 r.wk] _ (fun w' hb => CF.range hb) Tryd.underlying26 rfl ruleSize) hHeld ?_
    (try simp only [Act.put, List.setIfInBounds_toArray, List.set_cons_zero, List.set_cons_succ])
    refine wpAnyH_take (i := 1) (oi := { dst := some 18, op := Op.move (Operand.tmp 5), type := 44, pos := "l12_draw.go:344", after := #[], guard := none }) (v := ?_) rfl (by kernel_rfl) (by kernel_rfl) (by kernel_rfl) (fun _ _ _ h => h) (Or.inl ⟨by rfl, ?_⟩) hHeld ?_
    rotate_left
    · (intro w7 hC7; go_simp; first | done | rfl)
    (try simp only [Act.put, List.setIfInBounds_toArray, List.set_cons_zero, List.set_cons_succ])
    refine wpAnyH_take (i := 4) (oi := { dst := some 21, op := Op.move (Operand.tmp 5), type := 44, pos := "l12_draw.go:344", after := #[], guard := none }) (v := ?_) rfl (by kernel_rfl) (by kernel_rfl) (by kernel_rfl) (fun _ _ _ h => h) (Or.inl ⟨by rfl, ?_⟩) hHeld ?_
    rotate_left
    · (intro w7 hC7; go_simp; first | done | rfl)
    (try simp only [Act.put, List.setIfInBounds_toArray, List.set_cons_zero, List.set_cons_succ])
    refine wpAnyH_ready (rs := [2, 5]) (by kernel_rfl) (by simp) ?_
    refine AllReadyH.cons (o := { dst := some 19, op := Op.buildSlice 24 4 #[(0, Operand.const (Value.int IntKind.i64 0)), (1, Operand.const (Value.int IntKind.i64 3652053)), (2, Operand.const (Value.int IntKind.i64 (-1))), (3, Operand.const (Value.int IntKind.i64 5))], type := 24, pos := "l12_draw.go:344", after := #[], guard := none }) rfl (fun K hK => ?_) ?_
    · go_simp
      refine hK.out _ _ (KD.out.al _).c (fun hHeld => ?_)
      clear hK K
      (try simp only [Act.put, List.setIfInBounds_toArray, List.set_cons_zero, List.set_cons_succ])
      refine wpAnyH_ready (rs := [3, 5]) (by kernel_rfl) (by simp) ?_
      refine AllReadyH.cons (o := { dst := some 20, op := Op.call { callee := Callee.value (Operand.func 37), args := #[Operand.tmp 18, Operand.tmp 19], argTypes := #[44, 24] }, type := 3, pos := "l12_draw.go:344", after := #[{ on := 1, ground := Ground.data }, { on := 2, ground := Ground.data }], guard := none }) rfl (fun K hK => ?_) ?_
      · go_simp
        go_at_call 37
        refine (one_list w5.drew _ _ KD.out.rd (by omega) 4 [0, 3652053, -1, 5] rfl (by omega) (by omega) _ rfl).mono ?_
        rintro e w6 ⟨⟨x, rfl, hx⟩, hr6, hb6⟩
        have K6 : Hid (RD w X 67 r m w6) := KD.out.step hb6 hr6
        refine hK.out _ _ K6.out.c (fun hHeld => ?_)
        clear hK K
        (try simp only [Act.put, List.setIfInBounds_toArray, List.set_cons_zero, List.set_cons_succ])
        refine wpAnyH_ready (rs := [5]) (by kernel_rfl) (by simp) ?_
        refine AllReadyH.cons (o := { dst := some 22, op := Op.buildSlice 24 4 #[(0, Operand.const (Value.int IntKind.i64 3652058)), (1, Operand.const (Value.int IntKind.i64 400)), (2, Operand.const (Value.int IntKind.i64 11001)), (3, Operand.const (Value.int IntKind.i64 11000))], type := 24, pos := "l12_draw.go:344", after := #[], guard := none }) rfl (fun K hK => ?_) ?_
        · go_simp
          refine hK.out _ _ (K6.out.al _).c (fun hHeld => ?_)
          clear hK K
          (try simp only [Act.put, List.setIfInBounds_toArray, List.set_cons_zero, List.set_cons_succ])
          refine wpAnyH_ready (rs := [6]) (by kernel_rfl) (by simp) ?_
          refine AllReadyH.cons (o := { dst := some 23, op := Op.call { callee := Callee.value (Operand.func 37), args := #[Operand.tmp 21, Operand.tmp 22], argTypes := #[44, 24] }, type := 3, pos := "l12_draw.go:344", after := #[{ on := 4, ground := Ground.data }, { on := 5, ground := Ground.data }, { on := 3, ground := Ground.chain }], guard := none }) rfl (fun K hK => ?_) ?_
          · go_simp
            go_at_call 37
            refine (one_list w6 _ _ K6.out.rd (by omega) 4 [3652058, 400, 11001, 11000] rfl (by omega) (by omega) _ rfl).mono ?_
            rintro e w8 ⟨⟨y, rfl, hy⟩, hr8, hb8⟩
            have K8 : Hid (RD w X 68 r m w8) := K6.out.step hb8 hr8
            refine hK.out _ _ K8.out.c (fun hHeld => ?_)
            clear hK K
            (try simp only [Act.put, List.setIfInBounds_toArray, List.set_cons_zero, List.set_cons_succ])
            refine wpAnyH_ready (rs := [7]) (by kernel_rfl) (by simp) ?_
            refine AllReadyH.cons (o := { dst := none, op := Op.store 26 (Operand.tmp 2) (Operand.tmp 17), type := 0, pos := "l12_draw.go:344", after := #[{ on := 0, ground := Ground.data }, { on := 6, ground := Ground.chain }, { on := 0, ground := Ground.phase }, { on := 1, ground := Ground.textOnly Departure.lateStores }, { on := 2, ground := Ground.textOnly Departure.lateStores }, { on := 3, ground := Ground.textOnly Departure.lateStoresUnsure }, { on := 4, ground := Ground.textOnly Departure.lateStores }, { on := 5, ground := Ground.textOnly Departure.lateStores }, { on := 6, ground := Ground.textOnly Departure.lateStoresUnsure }], guard := none }) rfl (fun K hK => ?_) ?_
            · refine step_store_mid (by rfl) 26 _ _ (by rfl) w.heap.size 0 #[.int .i64 r.f, .int .i64 r.ev, .int .i64 r.ct, .int .i64 r.un, .slice m.a0 r.ds.length m.c0, .slice m.a1 r.da.length m.c1, .slice m.a2 r.mo.length m.c2, .slice m.a3 r.pl.length m.c3, .int .i64 r.wk] (by rfl) (by rfl) (K8.out.z.there _ rfl) ruleSize (by simp [Value.oneCell']) ?_
              have SX : CF (w8.setCells w.heap.size 0 (#[.int .i64 r.f, .int .i64 r.ev, .int .i64 r.ct, .int .i64 r.un, .slice m.a0 r.ds.length m.c0, .slice m.a1 r.da.length m.c1, .slice m.a2 r.mo.length m.c2, .slice m.a3 r.pl.length m.c3, .int .i64 r.wk] : Array Value).toList) X #[.int .i64 r.f, .int .i64 r.ev, .int .i64 r.ct, .int .i64 r.un, .slice m.a0 r.ds.length m.c0, .slice m.a1 r.da.length m.c1, .slice m.a2 r.mo.length m.c2, .slice m.a3 r.pl.length m.c3, .int .i64 r.wk] := CF.apart (by have := K8.out.rx; omega) _ _ _ K8.out.c
              have FR : CF (w8.setCells w.heap.size 0 (#[.int .i64 r.f, .int .i64 r.ev, .int .i64 r.ct, .int .i64 r.un, .slice m.a0 r.ds.length m.c0, .slice m.a1 r.da.length m.c1, .slice m.a2 r.mo.length m.c2, .slice m.a3 r.pl.length m.c3, .int .i64 r.wk] : Array Value).toList) w.heap.size #[.int .i64 r.f, .int .i64 r.ev, .int .i64 r.ct, .int .i64 r.un, .slice m.a0 r.ds.length m.c0, .slice m.a1 r.da.length m.c1, .slice m.a2 r.mo.length m.c2, .slice m.a3 r.pl.length m.c3, .int .i64 r.wk] := K8.out.z.setCells #[.int .i64 r.f, .int .i64 r.ev, .int .i64 r.ct, .int .i64 r.un, .slice m.a0 r.ds.length m.c0, .slice m.a1 r.da.length m.c1, .slice m.a2 r.mo.length m.c2, .slice m.a3 r.pl.length m.c3, .int .i64 r.wk] rfl
              have FIN : Hid (OL w.heap.size r m (w8.setCells w.heap.size 0 (#[.int .i64 r.f, .int .i64 r.ev, .int .i64 r.ct, .int .i64 r.un, .slice m.a0 r.ds.length m.c0, .slice m.a1 r.da.length m.c1, .slice m.a2 r.mo.length m.c2, .slice m.a3 r.pl.length m.c3, .int .i64 r.wk] : Array Value).toList) ∧ Below w.heap.size w (w8.setCells w.heap.size 0 (#[.int .i64 r.f, .int .i64 r.ev, .int .i64 r.ct, .int .i64 r.un, .slice m.a0 r.ds.length m.c0, .slice m.a1 r.da.length m.c1, .slice m.a2 r.mo.length m.c2, .slice m.a3 r.pl.length m.c3, .int .i64 r.wk] : Array Value).toList)) := ⟨(OL.setCells (by omega) _ _ _ K8.out.l).down (by omega), (But.setCells (Nat.le_refl _) _ _ _ K8.out.b).below (by omega)⟩
              generalize w8.setCells w.heap.size 0 (#[.int .i64 r.f, .int .i64 r.ev, .int .i64 r.ct, .int .i64 r.un, .slice m.a0 r.ds.length m.c0, .slice m.a1 r.da.length m.c1, .slice m.a2 r.mo.length m.c2, .slice m.a3 r.pl.length m.c3, .int .i64 r.wk] : Array Value).toList = WF at SX FR FIN ⊢
              refine hK.out _ _ SX (fun hHeld => ?_)
              clear hK K
              (try simp only [Act.put])
              refine wpAnyH_take (i := 8) (oi := { dst := some 3, op := Op.assign (Operand.tmp 20), type := 3, pos := "l12_draw.go:344", after := #[{ on := 3, ground := Ground.data }, { on := 7, ground := Ground.chain }, { on := 0, ground := Ground.phase }, { on := 1, ground := Ground.phase }, { on := 2, ground := Ground.phase }, { on := 3, ground := Ground.phase }, { on := 4, ground := Ground.textOnly Departure.lateStores }, { on := 5, ground := Ground.textOnly Departure.lateStores }, { on := 6, ground := Ground.textOnly Departure.lateStoresUnsure }, { on := 7, ground := Ground.phase }], guard := none }) (v := ?_) rfl (by kernel_rfl) (by kernel_rfl) (by kernel_rfl) (fun _ _ _ h => h) (Or.inl ⟨by rfl, ?_⟩) hHeld ?_
              rotate_left
              · (intro w7 hC7; go_simp; first | done | rfl)
              (try simp only [Act.put, List.setIfInBounds_toArray, List.set_cons_zero, List.set_cons_succ])
              refine wpAnyH_take (i := 9) (oi := { dst := some 4, op := Op.assign (Operand.tmp 23), type := 3, pos := "l12_draw.go:344", after := #[{ on := 6, ground := Ground.data }, { on := 8, ground := Ground.chain }, { on := 0, ground := Ground.phase }, { on := 1, ground := Ground.phase }, { on := 2, ground := Ground.phase }, { on := 3, ground := Ground.phase }, { on := 4, ground := Ground.phase }, { on := 5, ground := Ground.phase }, { on := 6, ground := Ground.phase }, { on := 7, ground := Ground.phase }, { on := 8, ground := Ground.phase }], guard := none }) (v := ?_) rfl (by kernel_rfl) (by kernel_rfl) (by kernel_rfl) (fun _ _ _ h => h) (Or.inl ⟨by rfl, ?_⟩) hHeld ?_
              rotate_left
              · (intro w7 hC7; go_simp; first | done | rfl)
              (try simp only [Act.put, List.setIfInBounds_toArray, List.set_cons_zero, List.set_cons_succ])
              refine wpAnyH_done (by kernel_rfl) ?_ _
              have z0 := (FR.2 0 _ rfl).1
              have z1 := (FR.2 1 _ rfl).1
              have z2 := (FR.2 2 _ rfl).1
              have z3 := (FR.2 3 _ rfl).1
              have z4 := (FR.2 4 _ rfl).1
              have z5 := (FR.2 5 _ rfl).1
              have z6 := (FR.2 6 _ rfl).1
              have z7 := (FR.2 7 _ rfl).1
              have z8 := (FR.2 8 _ rfl).1
              clear SX FR hHeld
              go_wp2
              refine bodyPost_ret (v := .tuple #[.agg #[.int .i64 r.f, .int .i64 r.ev, .int .i64 r.ct, .int .i64 r.un, .slice m.a0 r.ds.length m.c0, .slice m.a1 r.da.length m.c1, .slice m.a2 r.mo.length m.c2, .slice m.a3 r.pl.length m.c3, .int .i64 r.wk], .int .i64 x, .int .i64 y]) (by simp [results, Tryd.results17, go_sem, *]) rfl ⟨r, m, _, _, rfl, FIN.out.1, SM.out, ?_, ?_, FIN.out.2⟩
              · simp only [List.mem_cons, List.not_mem_nil, or_false] at hx; omega
              · simp only [List.mem_cons, List.not_mem_nil, or_false] at hy; omega
            exact AllReadyH.nil
          exact AllReadyH.nil
        exact AllReadyH.nil
      refine AllReadyH.cons (o := { dst := some 22, op := Op.buildSlice 24 4 #[(0, Operand.const (Value.int IntKind.i64 3652058)), (1, Operand.const (Value.int IntKind.i64 400)), (2, Operand.const (Value.int IntKind.i64 11001)), (3, Operand.const (Value.int IntKind.i64 11000))], type := 24, pos := "l12_draw.go:344", after := #[], guard := none }) rfl (fun K hK => ?_) ?_
      · go_simp
        refine hK.out _ _ ((KD.out.al _).al _).c (fun hHeld => ?_)
        clear hK K
        (try simp only [Act.put, List.setIfInBounds_toArray, List.set_cons_zero, List.set_cons_succ])
        have KW : Hid (RD w X 66 r m ((w5.drew.alloc (.cells #[.int .i64 0, .int .i64 3652053, .int .i64 (-1), .int .i64 5] 3)).alloc (.cells #[.int .i64 3652058, .int .i64 400, .int .i64 11001, .int .i64 11000] 3))) := (KD.out.al _).al _
        have hA1 : (w5.drew.alloc (.cells #[.int .i64 0, .int .i64 3652053, .int .i64 (-1), .int .i64 5] 3)).heap.size = w5.heap.size + 1 := by simp
        have CL1 : ∀ i, i < 4 → ((w5.drew.alloc (.cells #[.int .i64 0, .int .i64 3652053, .int .i64 (-1), .int .i64 5] 3)).alloc (.cells #[.int .i64 3652058, .int .i64 400, .int .i64 11001, .int .i64 11000] 3)).cell? ⟨w5.heap.size, i, none⟩ = some (.int .i64 (([0, 3652053, -1, 5] : List Int).getD i 0)) := fun i hi => by
          exact ints_at2 w5.drew [0, 3652053, -1, 5] _ rfl _ i hi
        have CL2 : ∀ i, i < 4 → ((w5.drew.alloc (.cells #[.int .i64 0, .int .i64 3652053, .int .i64 (-1), .int .i64 5] 3)).alloc (.cells #[.int .i64 3652058, .int .i64 400, .int .i64 11001, .int .i64 11000] 3)).cell? ⟨(w5.heap.size + 1), i, none⟩ = some (.int .i64 (([3652058, 400, 11001, 11000] : List Int).getD i 0)) := fun i hi => by
          rw [← hA1]; exact ints_at1 _ [3652058, 400, 11001, 11000] _ rfl i hi
        have szW : ((w5.drew.alloc (.cells #[.int .i64 0, .int .i64 3652053, .int .i64 (-1), .int .i64 5] 3)).alloc (.cells #[.int .i64 3652058, .int .i64 400, .int .i64 11001, .int .i64 11000] 3)).heap.size = w5.heap.size + 1 + 1 := by simp
        have hrs := K5.out.rx
        have hXs := K5.out.c.1
        refine wpAnyH_ready (rs := [3]) (by kernel_rfl) (by simp) ?_
        refine AllReadyH.cons (o := { dst := some 20, op := Op.call { callee := Callee.value (Operand.func 37), args := #[Operand.tmp 18, Operand.tmp 19], argTypes := #[44, 24] }, type := 3, pos := "l12_draw.go:344", after := #[{ on := 1, ground := Ground.data }, { on := 2, ground := Ground.data }], guard := none }) rfl (fun K hK => ?_) ?_
        · go_simp
          go_at_call 37
          refine (one_any ((w5.drew.alloc (.cells #[.int .i64 0, .int .i64 3652053, .int .i64 (-1), .int .i64 5] 3)).alloc (.cells #[.int .i64 3652058, .int .i64 400, .int .i64 11001, .int .i64 11000] 3)) _ _ KW.out.rd (by omega) w5.heap.size 4 4 [0, 3652053, -1, 5] rfl (by omega) (by omega) (by omega) (by omega) CL1).mono ?_
          rintro e w6 ⟨⟨x, rfl, hx⟩, hr6, hb6⟩
          have K6 : Hid (RD w X 67 r m w6) := KW.out.step hb6 hr6
          have CL3 : ∀ i, i < 4 → w6.cell? ⟨(w5.heap.size + 1), i, none⟩ = some (.int .i64 (([3652058, 400, 11001, 11000] : List Int).getD i 0)) := fun i hi => by rw [hb6.cell (p := ⟨(w5.heap.size + 1), i, none⟩) (by show (w5.heap.size + 1) < _; omega) (by show (w5.heap.size + 1) ≠ w.heap.size + 1; omega)]; exact CL2 i hi
          have sz6 := hb6.size
          rw [szW] at sz6
          refine hK.out _ _ K6.out.c (fun hHeld => ?_)
          clear hK K
          (try simp only [Act.put, List.setIfInBounds_toArray, List.set_cons_zero, List.set_cons_succ])
          refine wpAnyH_ready (rs := [6]) (by kernel_rfl) (by simp) ?_
          refine AllReadyH.cons (o := { dst := some 23, op := Op.call { callee := Callee.value (Operand.func 37), args := #[Operand.tmp 21, Operand.tmp 22], argTypes := #[44, 24] }, type := 3, pos := "l12_draw.go:344", after := #[{ on := 4, ground := Ground.data }, { on := 5, ground := Ground.data }, { on := 3, ground := Ground.chain }], guard := none }) rfl (fun K hK => ?_) ?_
          · go_simp
            go_at_call 37
            refine (one_any w6 _ _ K6.out.rd (by omega) (w5.heap.size + 1) 4 4 [3652058, 400, 11001, 11000] rfl (by omega) (by omega) (by omega) (by omega) CL3).mono ?_
            rintro e w8 ⟨⟨y, rfl, hy⟩, hr8, hb8⟩
            have K8 : Hid (RD w X 68 r m w8) := K6.out.step hb8 hr8
            refine hK.out _ _ K8.out.c (fun hHeld => ?_)
            clear hK K
            (try simp only [Act.put, List.setIfInBounds_toArray, List.set_cons_zero, List.set_cons_succ])
            refine wpAnyH_ready (rs := [7]) (by kernel_rfl) (by simp) ?_
            refine AllReadyH.cons (o := { dst := none, op := Op.store 26 (Operand.tmp 2) (Operand.tmp 17), type := 0, pos := "l12_draw.go:344", after := #[{ on := 0, ground := Ground.data }, { on := 6, ground := Ground.chain }, { on := 0, ground := Ground.phase }, { on := 1, ground := Ground.textOnly Departure.lateStores }, { on := 2, ground := Ground.textOnly Departure.lateStores }, { on := 3, ground := Ground.textOnly Departure.lateStoresUnsure }, { on := 4, ground := Ground.textOnly Departure.lateStores }, { on := 5, ground := Ground.textOnly Departure.lateStores }, { on := 6, ground := Ground.textOnly Departure.lateStoresUnsure }], guard := none }) rfl (fun K hK => ?_) ?_
            · refine step_store_mid (by rfl) 26 _ _ (by rfl) w.heap.size 0 #[.int .i64 r.f, .int .i64 r.ev, .int .i64 r.ct, .int .i64 r.un, .slice m.a0 r.ds.length m.c0, .slice m.a1 r.da.length m.c1, .slice m.a2 r.mo.length m.c2, .slice m.a3 r.pl.length m.c3, .int .i64 r.wk] (by rfl) (by rfl) (K8.out.z.there _ rfl) ruleSize (by simp [Value.oneCell']) ?_
              have SX : CF (w8.setCells w.heap.size 0 (#[.int .i64 r.f, .int .i64 r.ev, .int .i64 r.ct, .int .i64 r.un, .slice m.a0 r.ds.length m.c0, .slice m.a1 r.da.length m.c1, .slice m.a2 r.mo.length m.c2, .slice m.a3 r.pl.length m.c3, .int .i64 r.wk] : Array Value).toList) X #[.int .i64 r.f, .int .i64 r.ev, .int .i64 r.ct, .int .i64 r.un, .slice m.a0 r.ds.length m.c0, .slice m.a1 r.da.length m.c1, .slice m.a2 r.mo.length m.c2, .slice m.a3 r.pl.length m.c3, .int .i64 r.wk] := CF.apart (by have := K8.out.rx; omega) _ _ _ K8.out.c
              have FR : CF (w8.setCells w.heap.size 0 (#[.int .i64 r.f, .int .i64 r.ev, .int .i64 r.ct, .int .i64 r.un, .slice m.a0 r.ds.length m.c0, .slice m.a1 r.da.length m.c1, .slice m.a2 r.mo.length m.c2, .slice m.a3 r.pl.length m.c3, .int .i64 r.wk] : Array Value).toList) w.heap.size #[.int .i64 r.f, .int .i64 r.ev, .int .i64 r.ct, .int .i64 r.un, .slice m.a0 r.ds.length m.c0, .slice m.a1 r.da.length m.c1, .slice m.a2 r.mo.length m.c2, .slice m.a3 r.pl.length m.c3, .int .i64 r.wk] := K8.out.z.setCells #[.int .i64 r.f, .int .i64 r.ev, .int .i64 r.ct, .int .i64 r.un, .slice m.a0 r.ds.length m.c0, .slice m.a1 r.da.length m.c1, .slice m.a2 r.mo.length m.c2, .slice m.a3 r.pl.length m.c3, .int .i64 r.wk] rfl
              have FIN : Hid (OL w.heap.size r m (w8.setCells w.heap.size 0 (#[.int .i64 r.f, .int .i64 r.ev, .int .i64 r.ct, .int .i64 r.un, .slice m.a0 r.ds.length m.c0, .slice m.a1 r.da.length m.c1, .slice m.a2 r.mo.length m.c2, .slice m.a3 r.pl.length m.c3, .int .i64 r.wk] : Array Value).toList) ∧ Below w.heap.size w (w8.setCells w.heap.size 0 (#[.int .i64 r.f, .int .i64 r.ev, .int .i64 r.ct, .int .i64 r.un, .slice m.a0 r.ds.length m.c0, .slice m.a1 r.da.length m.c1, .slice m.a2 r.mo.length m.c2, .slice m.a3 r.pl.length m.c3, .int .i64 r.wk] : Array Value).toList)) := ⟨(OL.setCells (by omega) _ _ _ K8.out.l).down (by omega), (But.setCells (Nat.le_refl _) _ _ _ K8.out.b).below (by omega)⟩
              generalize w8.setCells w.heap.size 0 (#[.int .i64 r.f, .int .i64 r.ev, .int .i64 r.ct, .int .i64 r.un, .slice m.a0 r.ds.length m.c0, .slice m.a1 r.da.length m.c1, .slice m.a2 r.mo.length m.c2, .slice m.a3 r.pl.length m.c3, .int .i64 r.wk] : Array Value).toList = WF at SX FR FIN ⊢
              refine hK.out _ _ SX (fun hHeld => ?_)
              clear hK K
              (try simp only [Act.put])
              refine wpAnyH_take (i := 8) (oi := { dst := some 3, op := Op.assign (Operand.tmp 20), type := 3, pos := "l12_draw.go:344", after := #[{ on := 3, ground := Ground.data }, { on := 7, ground := Ground.chain }, { on := 0, ground := Ground.phase }, { on := 1, ground := Ground.phase }, { on := 2, ground := Ground.phase }, { on := 3, ground := Ground.phase }, { on := 4, ground := Ground.textOnly Departure.lateStores }, { on := 5, ground := Ground.textOnly Departure.lateStores }, { on := 6, ground := Ground.textOnly Departure.lateStoresUnsure }, { on := 7, ground := Ground.phase }], guard := none }) (v := ?_) rfl (by kernel_rfl) (by kernel_rfl) (by kernel_rfl) (fun _ _ _ h => h) (Or.inl ⟨by rfl, ?_⟩) hHeld ?_
              rotate_left
              · (intro w7 hC7; go_simp; first | done | rfl)
              (try simp only [Act.put, List.setIfInBounds_toArray, List.set_cons_zero, List.set_cons_succ])
              refine wpAnyH_take (i := 9) (oi := { dst := some 4, op := Op.assign (Operand.tmp 23), type := 3, pos := "l12_draw.go:344", after := #[{ on := 6, ground := Ground.data }, { on := 8, ground := Ground.chain }, { on := 0, ground := Ground.phase }, { on := 1, ground := Ground.phase }, { on := 2, ground := Ground.phase }, { on := 3, ground := Ground.phase }, { on := 4, ground := Ground.phase }, { on := 5, ground := Ground.phase }, { on := 6, ground := Ground.phase }, { on := 7, ground := Ground.phase }, { on := 8, ground := Ground.phase }], guard := none }) (v := ?_) rfl (by kernel_rfl) (by kernel_rfl) (by kernel_rfl) (fun _ _ _ h => h) (Or.inl ⟨by rfl, ?_⟩) hHeld ?_
              rotate_left
              · (intro w7 hC7; go_simp; first | done | rfl)
              (try simp only [Act.put, List.setIfInBounds_toArray, List.set_cons_zero, List.set_cons_succ])
              refine wpAnyH_done (by kernel_rfl) ?_ _
              have z0 := (FR.2 0 _ rfl).1
              have z1 := (FR.2 1 _ rfl).1
              have z2 := (FR.2 2 _ rfl).1
              have z3 := (FR.2 3 _ rfl).1
              have z4 := (FR.2 4 _ rfl).1
              have z5 := (FR.2 5 _ rfl).1
              have z6 := (FR.2 6 _ rfl).1
              have z7 := (FR.2 7 _ rfl).1
              have z8 := (FR.2 8 _ rfl).1
              clear SX FR hHeld
              go_wp2
              refine bodyPost_ret (v := .tuple #[.agg #[.int .i64 r.f, .int .i64 r.ev, .int .i64 r.ct, .int .i64 r.un, .slice m.a0 r.ds.length m.c0, .slice m.a1 r.da.length m.c1, .slice m.a2 r.mo.length m.c2, .slice m.a3 r.pl.length m.c3, .int .i64 r.wk], .int .i64 x, .int .i64 y]) (by simp [results, Tryd.results17, go_sem, *]) rfl ⟨r, m, _, _, rfl, FIN.out.1, SM.out, ?_, ?_, FIN.out.2⟩
              · simp only [List.mem_cons, List.not_mem_nil, or_false] at hx; omega
              · simp only [List.mem_cons, List.not_mem_nil, or_false] at hy; omega
            exact AllReadyH.nil
          exact AllReadyH.nil
        exact AllReadyH.nil
      exact AllReadyH.nil
    refine AllReadyH.cons (o := { dst := some 22, op := Op.buildSlice 24 4 #[(0, Operand.const (Value.int IntKind.i64 3652058)), (1, Operand.const (Value.int IntKind.i64 400)), (2, Operand.const (Value.int IntKind.i64 11001)), (3, Operand.const (Value.int IntKind.i64 11000))], type := 24, pos := "l12_draw.go:344", after := #[], guard := none }) rfl (fun K hK => ?_) ?_
    · go_simp
      refine hK.out _ _ (KD.out.al _).c (fun hHeld => ?_)
      clear hK K
      (try simp only [Act.put, List.setIfInBounds_toArray, List.set_cons_zero, List.set_cons_succ])
      refine wpAnyH_ready (rs := [2]) (by kernel_rfl) (by simp) ?_
      refine AllReadyH.cons (o := { dst := some 19, op := Op.buildSlice 24 4 #[(0, Operand.const (Value.int IntKind.i64 0)), (1, Operand.const (Value.int IntKind.i64 3652053)), (2, Operand.const (Value.int IntKind.i64 (-1))), (3, Operand.const (Value.int IntKind.i64 5))], type := 24, pos := "l12_draw.go:344", after := #[], guard := none }) rfl (fun K hK => ?_) ?_
      · go_simp
        refine hK.out _ _ ((KD.out.al _).al _).c (fun hHeld => ?_)
        clear hK K
        (try simp only [Act.put, List.setIfInBounds_toArray, List.set_cons_zero, List.set_cons_succ])
        have KW : Hid (RD w X 66 r m ((w5.drew.alloc (.cells #[.int .i64 3652058, .int .i64 400, .int .i64 11001, .int .i64 11000] 3)).alloc (.cells #[.int .i64 0, .int .i64 3652053, .int .i64 (-1), .int .i64 5] 3))) := (KD.out.al _).al _
        have hA1 : (w5.drew.alloc (.cells #[.int .i64 3652058, .int .i64 400, .int .i64 11001, .int .i64 11000] 3)).heap.size = w5.heap.size + 1 := by simp
        have CL1 : ∀ i, i < 4 → ((w5.drew.alloc (.cells #[.int .i64 3652058, .int .i64 400, .int .i64 11001, .int .i64 11000] 3)).alloc (.cells #[.int .i64 0, .int .i64 3652053, .int .i64 (-1), .int .i64 5] 3)).cell? ⟨(w5.heap.size + 1), i, none⟩ = some (.int .i64 (([0, 3652053, -1, 5] : List Int).getD i 0)) := fun i hi => by
          rw [← hA1]; exact ints_at1 _ [0, 3652053, -1, 5] _ rfl i hi
        have CL2 : ∀ i, i < 4 → ((w5.drew.alloc (.cells #[.int .i64 3652058, .int .i64 400, .int .i64 11001, .int .i64 11000] 3)).alloc (.cells #[.int .i64 0, .int .i64 3652053, .int .i64 (-1), .int .i64 5] 3)).cell? ⟨w5.heap.size, i, none⟩ = some (.int .i64 (([3652058, 400, 11001, 11000] : List Int).getD i 0)) := fun i hi => by
          exact ints_at2 w5.drew [3652058, 400, 11001, 11000] _ rfl _ i hi
        have szW : ((w5.drew.alloc (.cells #[.int .i64 3652058, .int .i64 400, .int .i64 11001, .int .i64 11000] 3)).alloc (.cells #[.int .i64 0, .int .i64 3652053, .int .i64 (-1), .int .i64 5] 3)).heap.size = w5.heap.size + 1 + 1 := by simp
        have hrs := K5.out.rx
        have hXs := K5.out.c.1
        refine wpAnyH_ready (rs := [3]) (by kernel_rfl) (by simp) ?_
        refine AllReadyH.cons (o := { dst := some 20, op := Op.call { callee := Callee.value (Operand.func 37), args := #[Operand.tmp 18, Operand.tmp 19], argTypes := #[44, 24] }, type := 3, pos := "l12_draw.go:344", after := #[{ on := 1, ground := Ground.data }, { on := 2, ground := Ground.data }], guard := none }) rfl (fun K hK => ?_) ?_
        · go_simp
          go_at_call 37
          refine (one_any ((w5.drew.alloc (.cells #[.int .i64 3652058, .int .i64 400, .int .i64 11001, .int .i64 11000] 3)).alloc (.cells #[.int .i64 0, .int .i64 3652053, .int .i64 (-1), .int .i64 5] 3)) _ _ KW.out.rd (by omega) (w5.heap.size + 1) 4 4 [0, 3652053, -1, 5] rfl (by omega) (by omega) (by omega) (by omega) CL1).mono ?_
          rintro e w6 ⟨⟨x, rfl, hx⟩, hr6, hb6⟩
          have K6 : Hid (RD w X 67 r m w6) := KW.out.step hb6 hr6
          have CL3 : ∀ i, i < 4 → w6.cell? ⟨w5.heap.size, i, none⟩ = some (.int .i64 (([3652058, 400, 11001, 11000] : List Int).getD i 0)) := fun i hi => by rw [hb6.cell (p := ⟨w5.heap.size, i, none⟩) (by show w5.heap.size < _; omega) (by show w5.heap.size ≠ w.heap.size + 1; omega)]; exact CL2 i hi
          have sz6 := hb6.size
          rw [szW] at sz6
          refine hK.out _ _ K6.out.c (fun hHeld => ?_)
          clear hK K
          (try simp only [Act.put, List.setIfInBounds_toArray, List.set_cons_zero, List.set_cons_succ])
          refine wpAnyH_ready (rs := [6]) (by kernel_rfl) (by simp) ?_
          refine AllReadyH.cons (o := { dst := some 23, op := Op.call { callee := Callee.value (Operand.func 37), args := #[Operand.tmp 21, Operand.tmp 22], argTypes := #[44, 24] }, type := 3, pos := "l12_draw.go:344", after := #[{ on := 4, ground := Ground.data }, { on := 5, ground := Ground.data }, { on := 3, ground := Ground.chain }], guard := none }) rfl (fun K hK => ?_) ?_
          · go_simp
            go_at_call 37
            refine (one_any w6 _ _ K6.out.rd (by omega) w5.heap.size 4 4 [3652058, 400, 11001, 11000] rfl (by omega) (by omega) (by omega) (by omega) CL3).mono ?_
            rintro e w8 ⟨⟨y, rfl, hy⟩, hr8, hb8⟩
            have K8 : Hid (RD w X 68 r m w8) := K6.out.step hb8 hr8
            refine hK.out _ _ K8.out.c (fun hHeld => ?_)
            clear hK K
            (try simp only [Act.put, List.setIfInBounds_toArray, List.set_cons_zero, List.set_cons_succ])
            refine wpAnyH_ready (rs := [7]) (by kernel_rfl) (by simp) ?_
            refine AllReadyH.cons (o := { dst := none, op := Op.store 26 (Operand.tmp 2) (Operand.tmp 17), type := 0, pos := "l12_draw.go:344", after := #[{ on := 0, ground := Ground.data }, { on := 6, ground := Ground.chain }, { on := 0, ground := Ground.phase }, { on := 1, ground := Ground.textOnly Departure.lateStores }, { on := 2, ground := Ground.textOnly Departure.lateStores }, { on := 3, ground := Ground.textOnly Departure.lateStoresUnsure }, { on := 4, ground := Ground.textOnly Departure.lateStores }, { on := 5, ground := Ground.textOnly Departure.lateStores }, { on := 6, ground := Ground.textOnly Departure.lateStoresUnsure }], guard := none }) rfl (fun K hK => ?_) ?_
            · refine step_store_mid (by rfl) 26 _ _ (by rfl) w.heap.size 0 #[.int .i64 r.f, .int .i64 r.ev, .int .i64 r.ct, .int .i64 r.un, .slice m.a0 r.ds.length m.c0, .slice m.a1 r.da.length m.c1, .slice m.a2 r.mo.length m.c2, .slice m.a3 r.pl.length m.c3, .int .i64 r.wk] (by rfl) (by rfl) (K8.out.z.there _ rfl) ruleSize (by simp [Value.oneCell']) ?_
              have SX : CF (w8.setCells w.heap.size 0 (#[.int .i64 r.f, .int .i64 r.ev, .int .i64 r.ct, .int .i64 r.un, .slice m.a0 r.ds.length m.c0, .slice m.a1 r.da.length m.c1, .slice m.a2 r.mo.length m.c2, .slice m.a3 r.pl.length m.c3, .int .i64 r.wk] : Array Value).toList) X #[.int .i64 r.f, .int .i64 r.ev, .int .i64 r.ct, .int .i64 r.un, .slice m.a0 r.ds.length m.c0, .slice m.a1 r.da.length m.c1, .slice m.a2 r.mo.length m.c2, .slice m.a3 r.pl.length m.c3, .int .i64 r.wk] := CF.apart (by have := K8.out.rx; omega) _ _ _ K8.out.c
              have FR : CF (w8.setCells w.heap.size 0 (#[.int .i64 r.f, .int .i64 r.ev, .int .i64 r.ct, .int .i64 r.un, .slice m.a0 r.ds.length m.c0, .slice m.a1 r.da.length m.c1, .slice m.a2 r.mo.length m.c2, .slice m.a3 r.pl.length m.c3, .int .i64 r.wk] : Array Value).toList) w.heap.size #[.int .i64 r.f, .int .i64 r.ev, .int .i64 r.ct, .int .i64 r.un, .slice m.a0 r.ds.length m.c0, .slice m.a1 r.da.length m.c1, .slice m.a2 r.mo.length m.c2, .slice m.a3 r.pl.length m.c3, .int .i64 r.wk] := K8.out.z.setCells #[.int .i64 r.f, .int .i64 r.ev, .int .i64 r.ct, .int .i64 r.un, .slice m.a0 r.ds.length m.c0, .slice m.a1 r.da.length m.c1, .slice m.a2 r.mo.length m.c2, .slice m.a3 r.pl.length m.c3, .int .i64 r.wk] rfl
              have FIN : Hid (OL w.heap.size r m (w8.setCells w.heap.size 0 (#[.int .i64 r.f, .int .i64 r.ev, .int .i64 r.ct, .int .i64 r.un, .slice m.a0 r.ds.length m.c0, .slice m.a1 r.da.length m.c1, .slice m.a2 r.mo.length m.c2, .slice m.a3 r.pl.length m.c3, .int .i64 r.wk] : Array Value).toList) ∧ Below w.heap.size w (w8.setCells w.heap.size 0 (#[.int .i64 r.f, .int .i64 r.ev, .int .i64 r.ct, .int .i64 r.un, .slice m.a0 r.ds.length m.c0, .slice m.a1 r.da.length m.c1, .slice m.a2 r.mo.length m.c2, .slice m.a3 r.pl.length m.c3, .int .i64 r.wk] : Array Value).toList)) := ⟨(OL.setCells (by omega) _ _ _ K8.out.l).down (by omega), (But.setCells (Nat.le_refl _) _ _ _ K8.out.b).below (by omega)⟩
              generalize w8.setCells w.heap.size 0 (#[.int .i64 r.f, .int .i64 r.ev, .int .i64 r.ct, .int .i64 r.un, .slice m.a0 r.ds.length m.c0, .slice m.a1 r.da.length m.c1, .slice m.a2 r.mo.length m.c2, .slice m.a3 r.pl.length m.c3, .int .i64 r.wk] : Array Value).toList = WF at SX FR FIN ⊢
              refine hK.out _ _ SX (fun hHeld => ?_)
              clear hK K
              (try simp only [Act.put])
              refine wpAnyH_take (i := 8) (oi := { dst := some 3, op := Op.assign (Operand.tmp 20), type := 3, pos := "l12_draw.go:344", after := #[{ on := 3, ground := Ground.data }, { on := 7, ground := Ground.chain }, { on := 0, ground := Ground.phase }, { on := 1, ground := Ground.phase }, { on := 2, ground := Ground.phase }, { on := 3, ground := Ground.phase }, { on := 4, ground := Ground.textOnly Departure.lateStores }, { on := 5, ground := Ground.textOnly Departure.lateStores }, { on := 6, ground := Ground.textOnly Departure.lateStoresUnsure }, { on := 7, ground := Ground.phase }], guard := none }) (v := ?_) rfl (by kernel_rfl) (by kernel_rfl) (by kernel_rfl) (fun _ _ _ h => h) (Or.inl ⟨by rfl, ?_⟩) hHeld ?_
              rotate_left
              · (intro w7 hC7; go_simp; first | done | rfl)
              (try simp only [Act.put, List.setIfInBounds_toArray, List.set_cons_zero, List.set_cons_succ])
              refine wpAnyH_take (i := 9) (oi := { dst := some 4, op := Op.assign (Operand.tmp 23), type := 3, pos := "l12_draw.go:344", after := #[{ on := 6, ground := Ground.data }, { on := 8, ground := Ground.chain }, { on := 0, ground := Ground.phase }, { on := 1, ground := Ground.phase }, { on := 2, ground := Ground.phase }, { on := 3, ground := Ground.phase }, { on := 4, ground := Ground.phase }, { on := 5, ground := Ground.phase }, { on := 6, ground := Ground.phase }, { on := 7, ground := Ground.phase }, { on := 8, ground := Ground.phase }], guard := none }) (v := ?_) rfl (by kernel_rfl) (by kernel_rfl) (by kernel_rfl) (fun _ _ _ h => h) (Or.inl ⟨by rfl, ?_⟩) hHeld ?_
              rotate_left
              · (intro w7 hC7; go_simp; first | done | rfl)
              (try simp only [Act.put, List.setIfInBounds_toArray, List.set_cons_zero, List.set_cons_succ])
              refine wpAnyH_done (by kernel_rfl) ?_ _
              have z0 := (FR.2 0 _ rfl).1
              have z1 := (FR.2 1 _ rfl).1
              have z2 := (FR.2 2 _ rfl).1
              have z3 := (FR.2 3 _ rfl).1
              have z4 := (FR.2 4 _ rfl).1
              have z5 := (FR.2 5 _ rfl).1
              have z6 := (FR.2 6 _ rfl).1
              have z7 := (FR.2 7 _ rfl).1
              have z8 := (FR.2 8 _ rfl).1
              clear SX FR hHeld
              go_wp2
              refine bodyPost_ret (v := .tuple #[.agg #[.int .i64 r.f, .int .i64 r.ev, .int .i64 r.ct, .int .i64 r.un, .slice m.a0 r.ds.length m.c0, .slice m.a1 r.da.length m.c1, .slice m.a2 r.mo.length m.c2, .slice m.a3 r.pl.length m.c3, .int .i64 r.wk], .int .i64 x, .int .i64 y]) (by simp [results, Tryd.results17, go_sem, *]) rfl ⟨r, m, _, _, rfl, FIN.out.1, SM.out, ?_, ?_, FIN.out.2⟩
              · simp only [List.mem_cons, List.not_mem_nil, or_false] at hx; omega
              · simp only [List.mem_cons, List.not_mem_nil, or_false] at hy; omega
            exact AllReadyH.nil
          exact AllReadyH.nil
        exact AllReadyH.nil
      exact AllReadyH.nil
    exact AllReadyH.nil
  · have h0 : (q == 0) = false := beq_eq_false_iff_ne.2 e0
    clear e0
    go_upto_region 6 with fail
    have KD : Hid (RD w X 66 r m w5.drew) := K5.out.dr
    refine wp_region_held_drew (S := (fun w' => CF w' X #[.int .i64 r.f, .int .i64 r.ev, .int .i64 r.ct, .int .i64 r.un, .slice m.a0 r.ds.length m.c0, .slice m.a1 r.da.length m.c1, .slice m.a2 r.mo.length m.c2, .slice m.a3 r.pl.length m.c3, .int .i64 r.wk])) (by kernel_rfl) KD.out.c (fun hHeld => ?_)
    refine wpAnyH_take (i := 0) (oi := { dst := some 24, op := Op.load 26 (Operand.tmp 6), type := 26, pos := "l12_draw.go:346", after := #[], guard := none }) (v := .agg ([.int .i64 r.f, .int .i64 r.ev, .int .i64 r.ct, .int .i64 r.un, .slice m.a0 r.ds.length m.c0, .slice m.a1 r.da.length m.c1, .slice m.a2 r.mo.length m.c2, .slice m.a3 r.pl.length m.c3, .int .i64 r.wk] : List Value).toArray) rfl (by kernel_rfl) (by kernel_rfl) (by kernel_rfl) (fun _ _ _ h => h) (yieldsIf_load_mid rfl 26 (.tmp 6) rfl X 0 rfl [.int .i64 r.f, .int .i64 r.ev, .int .i64 r.ct, .int .i64 r.un, .slice m.a0 r.ds.length m.c0, .slice m.a1 r.da.length m.c1, .slice m.a2 r.mo.length m.c2, .slice m.a3 r.pl.length m.c3, .int .i64 r.wk] _ (fun w' hb => CF.range hb) Tryd.underlying26 rfl ruleSize) hHeld ?_
    (try simp only [Act.put, List.setIfInBounds_toArray, List.set_cons_zero, List.set_cons_succ])
    refine wpAnyH_take (i := 1) (oi := { dst := some 25, op := Op.move (Operand.tmp 7), type := 3, pos := "l12_draw.go:346", after := #[{ on := 13, ground := Ground.gcOnly Departure.lateStores }], guard := none }) (v := ?_) rfl (by kernel_rfl) (by kernel_rfl) (by kernel_rfl) (fun _ _ _ h => h) (Or.inl ⟨by rfl, ?_⟩) hHeld ?_
    rotate_left
    · (intro w7 hC7; go_simp; first | done | rfl)
    (try simp only [Act.put, List.setIfInBounds_toArray, List.set_cons_zero, List.set_cons_succ])
    refine wpAnyH_take (i := 2) (oi := { dst := some 26, op := Op.move (Operand.tmp 7), type := 3, pos := "l12_draw.go:346", after := #[{ on := 14, ground := Ground.gcOnly Departure.lateStores }], guard := none }) (v := ?_) rfl (by kernel_rfl) (by kernel_rfl) (by kernel_rfl) (fun _ _ _ h => h) (Or.inl ⟨by rfl, ?_⟩) hHeld ?_
    rotate_left
    · (intro w7 hC7; go_simp; first | done | rfl)
    (try simp only [Act.put, List.setIfInBounds_toArray, List.set_cons_zero, List.set_cons_succ])
    refine wpAnyH_take (i := 3) (oi := { dst := some 27, op := Op.move (Operand.tmp 5), type := 44, pos := "l12_draw.go:346", after := #[], guard := none }) (v := ?_) rfl (by kernel_rfl) (by kernel_rfl) (by kernel_rfl) (fun _ _ _ h => h) (Or.inl ⟨by rfl, ?_⟩) hHeld ?_
    rotate_left
    · (intro w7 hC7; go_simp; first | done | rfl)
    (try simp only [Act.put, List.setIfInBounds_toArray, List.set_cons_zero, List.set_cons_succ])
    refine wpAnyH_take (i := 5) (oi := { dst := some 29, op := Op.move (Operand.tmp 5), type := 44, pos := "l12_draw.go:346", after := #[], guard := none }) (v := ?_) rfl (by kernel_rfl) (by kernel_rfl) (by kernel_rfl) (fun _ _ _ h => h) (Or.inl ⟨by rfl, ?_⟩) hHeld ?_
    rotate_left
    · (intro w7 hC7; go_simp; first | done | rfl)
    (try simp only [Act.put, List.setIfInBounds_toArray, List.set_cons_zero, List.set_cons_succ])
    refine wpAnyH_take (i := 10) (oi := { dst := some 34, op := Op.move (Operand.tmp 5), type := 44, pos := "l12_draw.go:346", after := #[], guard := none }) (v := ?_) rfl (by kernel_rfl) (by kernel_rfl) (by kernel_rfl) (fun _ _ _ h => h) (Or.inl ⟨by rfl, ?_⟩) hHeld ?_
    rotate_left
    · (intro w7 hC7; go_simp; first | done | rfl)
    (try simp only [Act.put, List.setIfInBounds_toArray, List.set_cons_zero, List.set_cons_succ])
    refine wpAnyH_ready (rs := [4, 6]) (by kernel_rfl) (by simp) ?_
    refine AllReadyH.cons (o := { dst := some 28, op := Op.call { callee := Callee.value (Operand.func 36), args := #[Operand.tmp 27, Operand.const (Value.int IntKind.i64 256)], argTypes := #[44, 3] }, type := 3, pos := "l12_draw.go:346", after := #[{ on := 3, ground := Ground.data }], guard := none }) rfl (fun K hK => ?_) ?_
    · go_simp
      go_at_call 36
      refine (pick_pos _ w5.drew _ _ KD.out.rd (by omega) (by omega)).mono ?_
      rintro e w6 ⟨⟨p, rfl, p0, p1⟩, hr6, hb6⟩
      have K6 : Hid (RD w X 67 r m w6) := KD.out.step hb6 hr6
      refine hK.out _ _ K6.out.c (fun hHeld => ?_)
      clear hK K
      (try simp only [Act.put, List.setIfInBounds_toArray, List.set_cons_zero, List.set_cons_succ])
      refine wpAnyH_ready (rs := [6]) (by kernel_rfl) (by simp) ?_
      refine AllReadyH.cons (o := { dst := some 30, op := Op.buildSlice 24 4 #[(0, Operand.const (Value.int IntKind.i64 0)), (1, Operand.const (Value.int IntKind.i64 1)), (2, Operand.const (Value.int IntKind.i64 2)), (3, Operand.const (Value.int IntKind.i64 4))], type := 24, pos := "l12_draw.go:346", after := #[], guard := none }) rfl (fun K hK => ?_) ?_
      · go_simp
        refine hK.out _ _ (K6.out.al _).c (fun hHeld => ?_)
        clear hK K
        (try simp only [Act.put, List.setIfInBounds_toArray, List.set_cons_zero, List.set_cons_succ])
        refine wpAnyH_ready (rs := [7]) (by kernel_rfl) (by simp) ?_
        refine AllReadyH.cons (o := { dst := some 31, op := Op.call { callee := Callee.value (Operand.func 37), args := #[Operand.tmp 29, Operand.tmp 30], argTypes := #[44, 24] }, type := 3, pos := "l12_draw.go:346", after := #[{ on := 5, ground := Ground.data }, { on := 6, ground := Ground.data }, { on := 4, ground := Ground.chain }], guard := none }) rfl (fun K hK => ?_) ?_
        · go_simp
          go_at_call 37
          refine (one_list w6 _ _ K6.out.rd (by omega) 4 [0, 1, 2, 4] rfl (by omega) (by omega) _ rfl).mono ?_
          rintro e w7 ⟨⟨x, rfl, hx⟩, hr7, hb7⟩
          have K7 : Hid (RD w X 68 r m w7) := K6.out.step hb7 hr7
          refine hK.out _ _ K7.out.c (fun hHeld => ?_)
          clear hK K
          (try simp only [Act.put, List.setIfInBounds_toArray, List.set_cons_zero, List.set_cons_succ])
          have xb : 0 ≤ x ∧ x ≤ 4 := by simp only [List.mem_cons, List.not_mem_nil, or_false] at hx; omega
          have pxb : 0 ≤ p * x ∧ p * x ≤ 1020 := ⟨Int.mul_nonneg p0 xb.1, by have := Int.mul_le_mul (show p ≤ 255 by omega) xb.2 xb.1 (by omega); omega⟩
          have g1 := IntWalk.i64_in (p * x) (by omega)
          have g2 := IntWalk.i64_in (s + p * x) (by omega)
          refine wpAnyH_take (i := 8) (oi := { dst := some 32, op := Op.binOp BinOp.mul 3 (Operand.tmp 28) (Operand.tmp 31) 3, type := 3, pos := "l12_draw.go:346", after := #[{ on := 4, ground := Ground.data }, { on := 7, ground := Ground.data }, { on := 14, ground := Ground.gcOnly Departure.lateStores }], guard := none }) (v := ?_) rfl (by kernel_rfl) (by kernel_rfl) (by kernel_rfl) (fun _ _ _ h => h) (Or.inl ⟨by rfl, ?_⟩) hHeld ?_
          rotate_left
          · (intro w7 hC7; go_simp; first | done | rfl)
          (try simp only [Act.put, List.setIfInBounds_toArray, List.set_cons_zero, List.set_cons_succ])
          refine wpAnyH_take (i := 9) (oi := { dst := some 33, op := Op.binOp BinOp.add 3 (Operand.tmp 26) (Operand.tmp 32) 3, type := 3, pos := "l12_draw.go:346", after := #[{ on := 2, ground := Ground.data }, { on := 8, ground := Ground.data }, { on := 14, ground := Ground.gcOnly Departure.lateStores }], guard := none }) (v := ?_) rfl (by kernel_rfl) (by kernel_rfl) (by kernel_rfl) (fun _ _ _ h => h) (Or.inl ⟨by rfl, ?_⟩) hHeld ?_
          rotate_left
          · (intro w7 hC7; go_simp; first | done | rfl)
          (try simp only [Act.put, List.setIfInBounds_toArray, List.set_cons_zero, List.set_cons_succ])
          refine wpAnyH_ready (rs := [11]) (by kernel_rfl) (by simp) ?_
          refine AllReadyH.cons (o := { dst := some 35, op := Op.call { callee := Callee.value (Operand.func 36), args := #[Operand.tmp 34, Operand.const (Value.int IntKind.i64 3)], argTypes := #[44, 3] }, type := 3, pos := "l12_draw.go:346", after := #[{ on := 10, ground := Ground.data }, { on := 7, ground := Ground.chain }], guard := none }) rfl (fun K hK => ?_) ?_
          · go_simp
            go_at_call 36
            refine (pick_pos _ w7 _ _ K7.out.rd (by omega) (by omega)).mono ?_
            rintro e w8 ⟨⟨y, rfl, y0, y1⟩, hr8, hb8⟩
            have K8 : Hid (RD w X 69 r m w8) := K7.out.step hb8 hr8
            have g3 := IntWalk.i64_in (s + p * x - y) (by omega)
            refine hK.out _ _ K8.out.c (fun hHeld => ?_)
            clear hK K
            (try simp only [Act.put, List.setIfInBounds_toArray, List.set_cons_zero, List.set_cons_succ])
            refine wpAnyH_take (i := 12) (oi := { dst := some 36, op := Op.binOp BinOp.sub 3 (Operand.tmp 33) (Operand.tmp 35) 3, type := 3, pos := "l12_draw.go:346", after := #[{ on := 9, ground := Ground.data }, { on := 11, ground := Ground.data }, { on := 14, ground := Ground.gcOnly Departure.lateStores }], guard := none }) (v := ?_) rfl (by kernel_rfl) (by kernel_rfl) (by kernel_rfl) (fun _ _ _ h => h) (Or.inl ⟨by rfl, ?_⟩) hHeld ?_
            rotate_left
            · (intro w7 hC7; go_simp; first | done | rfl)
            (try simp only [Act.put, List.setIfInBounds_toArray, List.set_cons_zero, List.set_cons_succ])
            refine wpAnyH_ready (rs := [13]) (by kernel_rfl) (by simp) ?_
            refine AllReadyH.cons (o := { dst := none, op := Op.store 26 (Operand.tmp 2) (Operand.tmp 24), type := 0, pos := "l12_draw.go:346", after := #[{ on := 0, ground := Ground.data }, { on := 11, ground := Ground.chain }, { on := 0, ground := Ground.phase }, { on := 1, ground := Ground.textOnly Departure.lateStores }, { on := 2, ground := Ground.textOnly Departure.lateStores }, { on := 3, ground := Ground.textOnly Departure.lateStores }, { on := 4, ground := Ground.textOnly Departure.lateStoresUnsure }, { on := 5, ground := Ground.textOnly Departure.lateStores }, { on := 6, ground := Ground.textOnly Departure.lateStores }, { on := 7, ground := Ground.textOnly Departure.lateStoresUnsure }, { on := 8, ground := Ground.textOnly Departure.lateStores }, { on := 9, ground := Ground.textOnly Departure.lateStores }, { on := 10, ground := Ground.textOnly Departure.lateStores }, { on := 11, ground := Ground.textOnly Departure.lateStoresUnsure }, { on := 12, ground := Ground.textOnly Departure.lateStores }], guard := none }) rfl (fun K hK => ?_) ?_
            · refine step_store_mid (by rfl) 26 _ _ (by rfl) w.heap.size 0 #[.int .i64 r.f, .int .i64 r.ev, .int .i64 r.ct, .int .i64 r.un, .slice m.a0 r.ds.length m.c0, .slice m.a1 r.da.length m.c1, .slice m.a2 r.mo.length m.c2, .slice m.a3 r.pl.length m.c3, .int .i64 r.wk] (by rfl) (by rfl) (K8.out.z.there _ rfl) ruleSize (by simp [Value.oneCell']) ?_
              have SX : CF (w8.setCells w.heap.size 0 (#[.int .i64 r.f, .int .i64 r.ev, .int .i64 r.ct, .int .i64 r.un, .slice m.a0 r.ds.length m.c0, .slice m.a1 r.da.length m.c1, .slice m.a2 r.mo.length m.c2, .slice m.a3 r.pl.length m.c3, .int .i64 r.wk] : Array Value).toList) X #[.int .i64 r.f, .int .i64 r.ev, .int .i64 r.ct, .int .i64 r.un, .slice m.a0 r.ds.length m.c0, .slice m.a1 r.da.length m.c1, .slice m.a2 r.mo.length m.c2, .slice m.a3 r.pl.length m.c3, .int .i64 r.wk] := CF.apart (by have := K8.out.rx; omega) _ _ _ K8.out.c
              have FR : CF (w8.setCells w.heap.size 0 (#[.int .i64 r.f, .int .i64 r.ev, .int .i64 r.ct, .int .i64 r.un, .slice m.a0 r.ds.length m.c0, .slice m.a1 r.da.length m.c1, .slice m.a2 r.mo.length m.c2, .slice m.a3 r.pl.length m.c3, .int .i64 r.wk] : Array Value).toList) w.heap.size #[.int .i64 r.f, .int .i64 r.ev, .int .i64 r.ct, .int .i64 r.un, .slice m.a0 r.ds.length m.c0, .slice m.a1 r.da.length m.c1, .slice m.a2 r.mo.length m.c2, .slice m.a3 r.pl.length m.c3, .int .i64 r.wk] := K8.out.z.setCells #[.int .i64 r.f, .int .i64 r.ev, .int .i64 r.ct, .int .i64 r.un, .slice m.a0 r.ds.length m.c0, .slice m.a1 r.da.length m.c1, .slice m.a2 r.mo.length m.c2, .slice m.a3 r.pl.length m.c3, .int .i64 r.wk] rfl
              have FIN : Hid (OL w.heap.size r m (w8.setCells w.heap.size 0 (#[.int .i64 r.f, .int .i64 r.ev, .int .i64 r.ct, .int .i64 r.un, .slice m.a0 r.ds.length m.c0, .slice m.a1 r.da.length m.c1, .slice m.a2 r.mo.length m.c2, .slice m.a3 r.pl.length m.c3, .int .i64 r.wk] : Array Value).toList) ∧ Below w.heap.size w (w8.setCells w.heap.size 0 (#[.int .i64 r.f, .int .i64 r.ev, .int .i64 r.ct, .int .i64 r.un, .slice m.a0 r.ds.length m.c0, .slice m.a1 r.da.length m.c1, .slice m.a2 r.mo.length m.c2, .slice m.a3 r.pl.length m.c3, .int .i64 r.wk] : Array Value).toList)) := ⟨(OL.setCells (by omega) _ _ _ K8.out.l).down (by omega), (But.setCells (Nat.le_refl _) _ _ _ K8.out.b).below (by omega)⟩
              generalize w8.setCells w.heap.size 0 (#[.int .i64 r.f, .int .i64 r.ev, .int .i64 r.ct, .int .i64 r.un, .slice m.a0 r.ds.length m.c0, .slice m.a1 r.da.length m.c1, .slice m.a2 r.mo.length m.c2, .slice m.a3 r.pl.length m.c3, .int .i64 r.wk] : Array Value).toList = WF at SX FR FIN ⊢
              refine hK.out _ _ SX (fun hHeld => ?_)
              clear hK K
              (try simp only [Act.put])
              refine wpAnyH_take (i := 14) (oi := { dst := some 3, op := Op.assign (Operand.tmp 25), type := 3, pos := "l12_draw.go:346", after := #[{ on := 1, ground := Ground.data }, { on := 13, ground := Ground.chain }, { on := 0, ground := Ground.phase }, { on := 1, ground := Ground.phase }, { on := 2, ground := Ground.textOnly Departure.lateStores }, { on := 3, ground := Ground.textOnly Departure.lateStores }, { on := 4, ground := Ground.textOnly Departure.lateStoresUnsure }, { on := 5, ground := Ground.textOnly Departure.lateStores }, { on := 6, ground := Ground.textOnly Departure.lateStores }, { on := 7, ground := Ground.textOnly Departure.lateStoresUnsure }, { on := 8, ground := Ground.textOnly Departure.lateStores }, { on := 9, ground := Ground.textOnly Departure.lateStores }, { on := 10, ground := Ground.textOnly Departure.lateStores }, { on := 11, ground := Ground.textOnly Departure.lateStoresUnsure }, { on := 12, ground := Ground.textOnly Departure.lateStores }, { on := 13, ground := Ground.phase }], guard := none }) (v := ?_) rfl (by kernel_rfl) (by kernel_rfl) (by kernel_rfl) (fun _ _ _ h => h) (Or.inl ⟨by rfl, ?_⟩) hHeld ?_
              rotate_left
              · (intro w7 hC7; go_simp; first | done | rfl)
              (try simp only [Act.put, List.setIfInBounds_toArray, List.set_cons_zero, List.set_cons_succ])
              refine wpAnyH_take (i := 15) (oi := { dst := some 4, op := Op.assign (Operand.tmp 36), type := 3, pos := "l12_draw.go:346", after := #[{ on := 12, ground := Ground.data }, { on := 14, ground := Ground.chain }, { on := 0, ground := Ground.phase }, { on := 1, ground := Ground.phase }, { on := 2, ground := Ground.phase }, { on := 3, ground := Ground.phase }, { on := 4, ground := Ground.phase }, { on := 5, ground := Ground.phase }, { on := 6, ground := Ground.phase }, { on := 7, ground := Ground.phase }, { on := 8, ground := Ground.phase }, { on := 9, ground := Ground.phase }, { on := 10, ground := Ground.phase }, { on := 11, ground := Ground.phase }, { on := 12, ground := Ground.phase }, { on := 13, ground := Ground.phase }, { on := 14, ground := Ground.phase }], guard := none }) (v := ?_) rfl (by kernel_rfl) (by kernel_rfl) (by kernel_rfl) (fun _ _ _ h => h) (Or.inl ⟨by rfl, ?_⟩) hHeld ?_
              rotate_left
              · (intro w7 hC7; go_simp; first | done | rfl)
              (try simp only [Act.put, List.setIfInBounds_toArray, List.set_cons_zero, List.set_cons_succ])
              refine wpAnyH_done (by kernel_rfl) ?_ _
              have z0 := (FR.2 0 _ rfl).1
              have z1 := (FR.2 1 _ rfl).1
              have z2 := (FR.2 2 _ rfl).1
              have z3 := (FR.2 3 _ rfl).1
              have z4 := (FR.2 4 _ rfl).1
              have z5 := (FR.2 5 _ rfl).1
              have z6 := (FR.2 6 _ rfl).1
              have z7 := (FR.2 7 _ rfl).1
              have z8 := (FR.2 8 _ rfl).1
              clear SX FR hHeld
              go_wp2
              refine bodyPost_ret (v := .tuple #[.agg #[.int .i64 r.f, .int .i64 r.ev, .int .i64 r.ct, .int .i64 r.un, .slice m.a0 r.ds.length m.c0, .slice m.a1 r.da.length m.c1, .slice m.a2 r.mo.length m.c2, .slice m.a3 r.pl.length m.c3, .int .i64 r.wk], .int .i64 s, .int .i64 (s + p * x - y)]) (by simp [results, Tryd.results17, go_sem, *]) rfl ⟨r, m, _, _, rfl, FIN.out.1, SM.out, ?_, ?_, FIN.out.2⟩
              · omega
              · omega
            exact AllReadyH.nil
          exact AllReadyH.nil
        exact AllReadyH.nil
      exact AllReadyH.nil
    refine AllReadyH.cons (o := { dst := some 30, op := Op.buildSlice 24 4 #[(0, Operand.const (Value.int IntKind.i64 0)), (1, Operand.const (Value.int IntKind.i64 1)), (2, Operand.const (Value.int IntKind.i64 2)), (3, Operand.const (Value.int IntKind.i64 4))], type := 24, pos := "l12_draw.go:346", after := #[], guard := none }) rfl (fun K hK => ?_) ?_
    · go_simp
      refine hK.out _ _ (KD.out.al _).c (fun hHeld => ?_)
      clear hK K
      (try simp only [Act.put, List.setIfInBounds_toArray, List.set_cons_zero, List.set_cons_succ])
      have KW : Hid (RD w X 66 r m (w5.drew.alloc (.cells #[.int .i64 0, .int .i64 1, .int .i64 2, .int .i64 4] 3))) := KD.out.al _
      have CL1 : ∀ i, i < 4 → (w5.drew.alloc (.cells #[.int .i64 0, .int .i64 1, .int .i64 2, .int .i64 4] 3)).cell? ⟨w5.heap.size, i, none⟩ = some (.int .i64 (([0, 1, 2, 4] : List Int).getD i 0)) := fun i hi => ints_at1 w5.drew [0, 1, 2, 4] _ rfl i hi
      have szW : (w5.drew.alloc (.cells #[.int .i64 0, .int .i64 1, .int .i64 2, .int .i64 4] 3)).heap.size = w5.heap.size + 1 := by simp
      have hrs := K5.out.rx
      have hXs := K5.out.c.1
      refine wpAnyH_ready (rs := [4]) (by kernel_rfl) (by simp) ?_
      refine AllReadyH.cons (o := { dst := some 28, op := Op.call { callee := Callee.value (Operand.func 36), args := #[Operand.tmp 27, Operand.const (Value.int IntKind.i64 256)], argTypes := #[44, 3] }, type := 3, pos := "l12_draw.go:346", after := #[{ on := 3, ground := Ground.data }], guard := none }) rfl (fun K hK => ?_) ?_
      · go_simp
        go_at_call 36
        refine (pick_pos _ (w5.drew.alloc (.cells #[.int .i64 0, .int .i64 1, .int .i64 2, .int .i64 4] 3)) _ _ KW.out.rd (by omega) (by omega)).mono ?_
        rintro e w6 ⟨⟨p, rfl, p0, p1⟩, hr6, hb6⟩
        have K6 : Hid (RD w X 67 r m w6) := KW.out.step hb6 hr6
        have CL3 : ∀ i, i < 4 → w6.cell? ⟨w5.heap.size, i, none⟩ = some (.int .i64 (([0, 1, 2, 4] : List Int).getD i 0)) := fun i hi => by rw [hb6.cell (p := ⟨w5.heap.size, i, none⟩) (by show w5.heap.size < _; omega) (by show w5.heap.size ≠ w.heap.size + 1; omega)]; exact CL1 i hi
        have sz6 := hb6.size
        rw [szW] at sz6
        refine hK.out _ _ K6.out.c (fun hHeld => ?_)
        clear hK K
        (try simp only [Act.put, List.setIfInBounds_toArray, List.set_cons_zero, List.set_cons_succ])
        refine wpAnyH_ready (rs := [7]) (by kernel_rfl) (by simp) ?_
        refine AllReadyH.cons (o := { dst := some 31, op := Op.call { callee := Callee.value (Operand.func 37), args := #[Operand.tmp 29, Operand.tmp 30], argTypes := #[44, 24] }, type := 3, pos := "l12_draw.go:346", after := #[{ on := 5, ground := Ground.data }, { on := 6, ground := Ground.data }, { on := 4, ground := Ground.chain }], guard := none }) rfl (fun K hK => ?_) ?_
        · go_simp
          go_at_call 37
          refine (one_any w6 _ _ K6.out.rd (by omega) w5.heap.size 4 4 [0, 1, 2, 4] rfl (by omega) (by omega) (by omega) (by omega) CL3).mono ?_
          rintro e w7 ⟨⟨x, rfl, hx⟩, hr7, hb7⟩
          have K7 : Hid (RD w X 68 r m w7) := K6.out.step hb7 hr7
          refine hK.out _ _ K7.out.c (fun hHeld => ?_)
          clear hK K
          (try simp only [Act.put, List.setIfInBounds_toArray, List.set_cons_zero, List.set_cons_succ])
          have xb : 0 ≤ x ∧ x ≤ 4 := by simp only [List.mem_cons, List.not_mem_nil, or_false] at hx; omega
          have pxb : 0 ≤ p * x ∧ p * x ≤ 1020 := ⟨Int.mul_nonneg p0 xb.1, by have := Int.mul_le_mul (show p ≤ 255 by omega) xb.2 xb.1 (by omega); omega⟩
          have g1 := IntWalk.i64_in (p * x) (by omega)
          have g2 := IntWalk.i64_in (s + p * x) (by omega)
          refine wpAnyH_take (i := 8) (oi := { dst := some 32, op := Op.binOp BinOp.mul 3 (Operand.tmp 28) (Operand.tmp 31) 3, type := 3, pos := "l12_draw.go:346", after := #[{ on := 4, ground := Ground.data }, { on := 7, ground := Ground.data }, { on := 14, ground := Ground.gcOnly Departure.lateStores }], guard := none }) (v := ?_) rfl (by kernel_rfl) (by kernel_rfl) (by kernel_rfl) (fun _ _ _ h => h) (Or.inl ⟨by rfl, ?_⟩) hHeld ?_
          rotate_left
          · (intro w7 hC7; go_simp; first | done | rfl)
          (try simp only [Act.put, List.setIfInBounds_toArray, List.set_cons_zero, List.set_cons_succ])
          refine wpAnyH_take (i := 9) (oi := { dst := some 33, op := Op.binOp BinOp.add 3 (Operand.tmp 26) (Operand.tmp 32) 3, type := 3, pos := "l12_draw.go:346", after := #[{ on := 2, ground := Ground.data }, { on := 8, ground := Ground.data }, { on := 14, ground := Ground.gcOnly Departure.lateStores }], guard := none }) (v := ?_) rfl (by kernel_rfl) (by kernel_rfl) (by kernel_rfl) (fun _ _ _ h => h) (Or.inl ⟨by rfl, ?_⟩) hHeld ?_
          rotate_left
          · (intro w7 hC7; go_simp; first | done | rfl)
          (try simp only [Act.put, List.setIfInBounds_toArray, List.set_cons_zero, List.set_cons_succ])
          refine wpAnyH_ready (rs := [11]) (by kernel_rfl) (by simp) ?_
          refine AllReadyH.cons (o := { dst := some 35, op := Op.call { callee := Callee.value (Operand.func 36), args := #[Operand.tmp 34, Operand.const (Value.int IntKind.i64 3)], argTypes := #[44, 3] }, type := 3, pos := "l12_draw.go:346", after := #[{ on := 10, ground := Ground.data }, { on := 7, ground := Ground.chain }], guard := none }) rfl (fun K hK => ?_) ?_
          · go_simp
            go_at_call 36
            refine (pick_pos _ w7 _ _ K7.out.rd (by omega) (by omega)).mono ?_
            rintro e w8 ⟨⟨y, rfl, y0, y1⟩, hr8, hb8⟩
            have K8 : Hid (RD w X 69 r m w8) := K7.out.step hb8 hr8
            have g3 := IntWalk.i64_in (s + p * x - y) (by omega)
            refine hK.out _ _ K8.out.c (fun hHeld => ?_)
            clear hK K
            (try simp only [Act.put, List.setIfInBounds_toArray, List.set_cons_zero, List.set_cons_succ])
            refine wpAnyH_take (i := 12) (oi := { dst := some 36, op := Op.binOp BinOp.sub 3 (Operand.tmp 33) (Operand.tmp 35) 3, type := 3, pos := "l12_draw.go:346", after := #[{ on := 9, ground := Ground.data }, { on := 11, ground := Ground.data }, { on := 14, ground := Ground.gcOnly Departure.lateStores }], guard := none }) (v := ?_) rfl (by kernel_rfl) (by kernel_rfl) (by kernel_rfl) (fun _ _ _ h => h) (Or.inl ⟨by rfl, ?_⟩) hHeld ?_
            rotate_left
            · (intro w7 hC7; go_simp; first | done | rfl)
            (try simp only [Act.put, List.setIfInBounds_toArray, List.set_cons_zero, List.set_cons_succ])
            refine wpAnyH_ready (rs := [13]) (by kernel_rfl) (by simp) ?_
            refine AllReadyH.cons (o := { dst := none, op := Op.store 26 (Operand.tmp 2) (Operand.tmp 24), type := 0, pos := "l12_draw.go:346", after := #[{ on := 0, ground := Ground.data }, { on := 11, ground := Ground.chain }, { on := 0, ground := Ground.phase }, { on := 1, ground := Ground.textOnly Departure.lateStores }, { on := 2, ground := Ground.textOnly Departure.lateStores }, { on := 3, ground := Ground.textOnly Departure.lateStores }, { on := 4, ground := Ground.textOnly Departure.lateStoresUnsure }, { on := 5, ground := Ground.textOnly Departure.lateStores }, { on := 6, ground := Ground.textOnly Departure.lateStores }, { on := 7, ground := Ground.textOnly Departure.lateStoresUnsure }, { on := 8, ground := Ground.textOnly Departure.lateStores }, { on := 9, ground := Ground.textOnly Departure.lateStores }, { on := 10, ground := Ground.textOnly Departure.lateStores }, { on := 11, ground := Ground.textOnly Departure.lateStoresUnsure }, { on := 12, ground := Ground.textOnly Departure.lateStores }], guard := none }) rfl (fun K hK => ?_) ?_
            · refine step_store_mid (by rfl) 26 _ _ (by rfl) w.heap.size 0 #[.int .i64 r.f, .int .i64 r.ev, .int .i64 r.ct, .int .i64 r.un, .slice m.a0 r.ds.length m.c0, .slice m.a1 r.da.length m.c1, .slice m.a2 r.mo.length m.c2, .slice m.a3 r.pl.length m.c3, .int .i64 r.wk] (by rfl) (by rfl) (K8.out.z.there _ rfl) ruleSize (by simp [Value.oneCell']) ?_
              have SX : CF (w8.setCells w.heap.size 0 (#[.int .i64 r.f, .int .i64 r.ev, .int .i64 r.ct, .int .i64 r.un, .slice m.a0 r.ds.length m.c0, .slice m.a1 r.da.length m.c1, .slice m.a2 r.mo.length m.c2, .slice m.a3 r.pl.length m.c3, .int .i64 r.wk] : Array Value).toList) X #[.int .i64 r.f, .int .i64 r.ev, .int .i64 r.ct, .int .i64 r.un, .slice m.a0 r.ds.length m.c0, .slice m.a1 r.da.length m.c1, .slice m.a2 r.mo.length m.c2, .slice m.a3 r.pl.length m.c3, .int .i64 r.wk] := CF.apart (by have := K8.out.rx; omega) _ _ _ K8.out.c
              have FR : CF (w8.setCells w.heap.size 0 (#[.int .i64 r.f, .int .i64 r.ev, .int .i64 r.ct, .int .i64 r.un, .slice m.a0 r.ds.length m.c0, .slice m.a1 r.da.length m.c1, .slice m.a2 r.mo.length m.c2, .slice m.a3 r.pl.length m.c3, .int .i64 r.wk] : Array Value).toList) w.heap.size #[.int .i64 r.f, .int .i64 r.ev, .int .i64 r.ct, .int .i64 r.un, .slice m.a0 r.ds.length m.c0, .slice m.a1 r.da.length m.c1, .slice m.a2 r.mo.length m.c2, .slice m.a3 r.pl.length m.c3, .int .i64 r.wk] := K8.out.z.setCells #[.int .i64 r.f, .int .i64 r.ev, .int .i64 r.ct, .int .i64 r.un, .slice m.a0 r.ds.length m.c0, .slice m.a1 r.da.length m.c1, .slice m.a2 r.mo.length m.c2, .slice m.a3 r.pl.length m.c3, .int .i64 r.wk] rfl
              have FIN : Hid (OL w.heap.size r m (w8.setCells w.heap.size 0 (#[.int .i64 r.f, .int .i64 r.ev, .int .i64 r.ct, .int .i64 r.un, .slice m.a0 r.ds.length m.c0, .slice m.a1 r.da.length m.c1, .slice m.a2 r.mo.length m.c2, .slice m.a3 r.pl.length m.c3, .int .i64 r.wk] : Array Value).toList) ∧ Below w.heap.size w (w8.setCells w.heap.size 0 (#[.int .i64 r.f, .int .i64 r.ev, .int .i64 r.ct, .int .i64 r.un, .slice m.a0 r.ds.length m.c0, .slice m.a1 r.da.length m.c1, .slice m.a2 r.mo.length m.c2, .slice m.a3 r.pl.length m.c3, .int .i64 r.wk] : Array Value).toList)) := ⟨(OL.setCells (by omega) _ _ _ K8.out.l).down (by omega), (But.setCells (Nat.le_refl _) _ _ _ K8.out.b).below (by omega)⟩
              generalize w8.setCells w.heap.size 0 (#[.int .i64 r.f, .int .i64 r.ev, .int .i64 r.ct, .int .i64 r.un, .slice m.a0 r.ds.length m.c0, .slice m.a1 r.da.length m.c1, .slice m.a2 r.mo.length m.c2, .slice m.a3 r.pl.length m.c3, .int .i64 r.wk] : Array Value).toList = WF at SX FR FIN ⊢
              refine hK.out _ _ SX (fun hHeld => ?_)
              clear hK K
              (try simp only [Act.put])
              refine wpAnyH_take (i := 14) (oi := { dst := some 3, op := Op.assign (Operand.tmp 25), type := 3, pos := "l12_draw.go:346", after := #[{ on := 1, ground := Ground.data }, { on := 13, ground := Ground.chain }, { on := 0, ground := Ground.phase }, { on := 1, ground := Ground.phase }, { on := 2, ground := Ground.textOnly Departure.lateStores }, { on := 3, ground := Ground.textOnly Departure.lateStores }, { on := 4, ground := Ground.textOnly Departure.lateStoresUnsure }, { on := 5, ground := Ground.textOnly Departure.lateStores }, { on := 6, ground := Ground.textOnly Departure.lateStores }, { on := 7, ground := Ground.textOnly Departure.lateStoresUnsure }, { on := 8, ground := Ground.textOnly Departure.lateStores }, { on := 9, ground := Ground.textOnly Departure.lateStores }, { on := 10, ground := Ground.textOnly Departure.lateStores }, { on := 11, ground := Ground.textOnly Departure.lateStoresUnsure }, { on := 12, ground := Ground.textOnly Departure.lateStores }, { on := 13, ground := Ground.phase }], guard := none }) (v := ?_) rfl (by kernel_rfl) (by kernel_rfl) (by kernel_rfl) (fun _ _ _ h => h) (Or.inl ⟨by rfl, ?_⟩) hHeld ?_
              rotate_left
              · (intro w7 hC7; go_simp; first | done | rfl)
              (try simp only [Act.put, List.setIfInBounds_toArray, List.set_cons_zero, List.set_cons_succ])
              refine wpAnyH_take (i := 15) (oi := { dst := some 4, op := Op.assign (Operand.tmp 36), type := 3, pos := "l12_draw.go:346", after := #[{ on := 12, ground := Ground.data }, { on := 14, ground := Ground.chain }, { on := 0, ground := Ground.phase }, { on := 1, ground := Ground.phase }, { on := 2, ground := Ground.phase }, { on := 3, ground := Ground.phase }, { on := 4, ground := Ground.phase }, { on := 5, ground := Ground.phase }, { on := 6, ground := Ground.phase }, { on := 7, ground := Ground.phase }, { on := 8, ground := Ground.phase }, { on := 9, ground := Ground.phase }, { on := 10, ground := Ground.phase }, { on := 11, ground := Ground.phase }, { on := 12, ground := Ground.phase }, { on := 13, ground := Ground.phase }, { on := 14, ground := Ground.phase }], guard := none }) (v := ?_) rfl (by kernel_rfl) (by kernel_rfl) (by kernel_rfl) (fun _ _ _ h => h) (Or.inl ⟨by rfl, ?_⟩) hHeld ?_
              rotate_left
              · (intro w7 hC7; go_simp; first | done | rfl)
              (try simp only [Act.put, List.setIfInBounds_toArray, List.set_cons_zero, List.set_cons_succ])
              refine wpAnyH_done (by kernel_rfl) ?_ _
              have z0 := (FR.2 0 _ rfl).1
              have z1 := (FR.2 1 _ rfl).1
              have z2 := (FR.2 2 _ rfl).1
              have z3 := (FR.2 3 _ rfl).1
              have z4 := (FR.2 4 _ rfl).1
              have z5 := (FR.2 5 _ rfl).1
              have z6 := (FR.2 6 _ rfl).1
              have z7 := (FR.2 7 _ rfl).1
              have z8 := (FR.2 8 _ rfl).1
              clear SX FR hHeld
              go_wp2
              refine bodyPost_ret (v := .tuple #[.agg #[.int .i64 r.f, .int .i64 r.ev, .int .i64 r.ct, .int .i64 r.un, .slice m.a0 r.ds.length m.c0, .slice m.a1 r.da.length m.c1, .slice m.a2 r.mo.length m.c2, .slice m.a3 r.pl.length m.c3, .int .i64 r.wk], .int .i64 s, .int .i64 (s + p * x - y)]) (by simp [results, Tryd.results17, go_sem, *]) rfl ⟨r, m, _, _, rfl, FIN.out.1, SM.out, ?_, ?_, FIN.out.2⟩
              · omega
              · omega
            exact AllReadyH.nil
          exact AllReadyH.nil
        exact AllReadyH.nil
      exact AllReadyH.nil
    exact AllReadyH.nil
end Go.Proofs.YtlfglhpepoepcaaDoor
