/- What turned, as it lies in memory: rows of one's own; likeness. -/
import Derived.Test.YtecijmdkicgemaaFo
import Derived.Test.YtecijmdkicgemaaOm
import Derived.Deep.AppendLies
namespace Go.Proofs.Ytecijmdkicgemaa
open Go.RowKit
set_option linter.unusedVariables false
/-- Texts as they are read. -/
def tx (l : List ByteArray) (i : Nat) : ByteArray := l.getD i ByteArray.empty
theorem tx_get {l : List ByteArray} {i : Nat} (h : i < l.length) : tx l i = l[i] := by unfold tx; simp [h]
def IsTx (w : World) (a : Option Addr) (l : List ByteArray) : Prop := l = [] ∨ ∃ b off, a = some ⟨b, off, none⟩ ∧ b < w.heap.size ∧ ∀ i, i < l.length → w.cell? ⟨b, off + i, none⟩ = some (.string (tx l i))
theorem IsTx.below {w w' : World} {a : Option Addr} {l : List ByteArray} (h : IsTx w a l) (hb : Below w.heap.size w w') : IsTx w' a l := by
  rcases h with h | ⟨b, off, h1, h2, h3⟩
  · exact .inl h
  · refine .inr ⟨b, off, h1, Nat.lt_of_lt_of_le h2 hb.size, fun i hi => ?_⟩
    rw [hb.cell (p := ⟨b, off + i, none⟩) h2]; exact h3 i hi
def CL (W : World) (b : Nat) (vs : Array Value) : Prop := b < W.heap.size ∧ ∀ i v, vs[i]? = some v → W.cell? ⟨b, i, none⟩ = some v ∧ W.frozen? ⟨b, i, none⟩ = false
theorem CL.below {W W' : World} {b : Nat} {vs : Array Value} (h : CL W b vs) (hb : Below W.heap.size W W') : CL W' b vs := by
  refine ⟨Nat.lt_of_lt_of_le h.1 hb.size, fun i v hv => ?_⟩
  rw [hb.cell (p := ⟨b, i, none⟩) h.1, hb.frozen (p := ⟨b, i, none⟩) h.1]; exact h.2 i v hv
theorem CL.new (W : World) (vs : Array Value) (T : TypeId) : CL (W.alloc (.cells vs T)) W.heap.size vs :=
  ⟨by simp, fun i v hv => ⟨by rw [World.cell?_alloc_new]; exact hv, by simp [go_sem]⟩⟩
theorem CL.past {W : World} {b : Nat} {vs : Array Value} (h : CL W b vs) (o : Obj) : CL (W.alloc o) b vs :=
  h.below ((Below.refl _ _).alloc (Nat.le_refl _) _)
theorem CL.set {W : World} {b : Nat} {vs : Array Value} (h : CL W b vs) (i : Nat) (v : Value) (hi : i < vs.size) : CL (W.setCell ⟨b, i, none⟩ v) b (vs.set! i v) := by
  refine ⟨by simpa using h.1, fun j u hu => ⟨?_, ?_⟩⟩
  · by_cases hij : j = i
    · subst hij
      simp [hi] at hu
      subst hu
      exact World.cell?_setCell_same _ _ _ (h.2 j vs[j] (by simp [hi])).1
    · rw [World.cell?_setCell_other _ _ _ _ (by simp)]
      exact (h.2 j u (by simpa [Array.getElem?_setIfInBounds, Ne.symm hij] using hu)).1
  · rw [World.frozen?_setCell]
    by_cases hij : j = i
    · subst hij; exact (h.2 j vs[j] (by simp [hi])).2
    · exact (h.2 j u (by simpa [Array.getElem?_setIfInBounds, Ne.symm hij] using hu)).2
theorem CL.other {W : World} {b b' : Nat} {vs : Array Value} (h : CL W b vs) (i : Nat) (v : Value) (hb : b ≠ b') : CL (W.setCell ⟨b', i, none⟩ v) b vs := by
  refine ⟨by simpa using h.1, fun j u hu => ⟨?_, ?_⟩⟩
  · rw [World.cell?_setCell_other _ _ _ _ (by simp)]; exact (h.2 j u hu).1
  · rw [World.frozen?_setCell]; exact (h.2 j u hu).2
/-- Cells that may be written. -/
structure FB (w : World) (g m : Nat) : Prop where
  lt : g < w.heap.size
  there : ∀ i, i < m → ∃ v, w.cell? ⟨g, i, none⟩ = some v
  free : ∀ i, w.frozen? ⟨g, i, none⟩ = false
theorem FB.setCell {w : World} {g m : Nat} (h : FB w g m) (p : Addr) (v : Value) : FB (w.setCell p v) g m :=
  ⟨by simpa using h.lt, fun i hi => by obtain ⟨u, hu⟩ := h.there i hi; exact cell?_setCell_some hu, fun i => by rw [World.frozen?_setCell]; exact h.free i⟩
theorem FB.below {w w' : World} {g m : Nat} (h : FB w g m) (hb : Below w.heap.size w w') : FB w' g m :=
  ⟨Nat.lt_of_lt_of_le h.lt hb.size, fun i hi => by rw [hb.cell (p := ⟨g, i, none⟩) h.lt]; exact h.there i hi, fun i => by rw [hb.frozen (p := ⟨g, i, none⟩) h.lt]; exact h.free i⟩
theorem FB.grown {w w' : World} {g m : Nat} {row : Option Nat} (h : FB w g m) (hg : w.grownBy w' row) (hn : some g ≠ row) : FB w' g m :=
  ⟨Nat.lt_of_lt_of_le h.lt hg.size, fun i hi => by rw [hg.cell_far ⟨g, i, none⟩ h.lt hn]; exact h.there i hi, fun i => by rw [hg.frozen_far ⟨g, i, none⟩ h.lt hn]; exact h.free i⟩
theorem IsTx.grown {w w' : World} {a : Option Addr} {l : List ByteArray} {row : Option Nat} (h : IsTx w a l) (hg : w.grownBy w' row) (hn : ∀ x, a = some x → some x.block ≠ row) : IsTx w' a l := by
  rcases h with h | ⟨b, off, rfl, h2, h3⟩
  · exact .inl h
  · exact .inr ⟨b, off, rfl, Nat.lt_of_lt_of_le h2 hg.size, fun i hi => hg.cell (a := ⟨b, off + i, none⟩) (h3 i hi) (hn ⟨b, off, none⟩ rfl)⟩
theorem IsFo.grown {w w' : World} {a : Option Addr} {l : List FO} {row : Option Nat} (h : IsFo w a l) (hg : w.grownBy w' row) (hn : ∀ x, a = some x → some x.block ≠ row) : IsFo w' a l := by
  rcases h with h | ⟨b, off, rfl, h2, h3⟩
  · exact .inl h
  · exact .inr ⟨b, off, rfl, Nat.lt_of_lt_of_le h2 hg.size, fun i hi => ⟨hg.cell (a := ⟨b, off + i * 2, none⟩) (h3 i hi).1 (hn ⟨b, off, none⟩ rfl), hg.cell (a := ⟨b, off + i * 2 + 1, none⟩) (h3 i hi).2 (hn ⟨b, off, none⟩ rfl)⟩⟩
theorem row_on {w w' : World} {B : Nat} {T : TypeId} {sz n : Nat} {v : Value} {xs : List Value} (h : w.ownsRow B T sz v n xs) (hb : Below w.heap.size w w') : w'.ownsRow B T sz v n xs := by
  obtain ⟨h1, h2⟩ := h
  refine ⟨h1, ?_⟩
  rcases h2 with h2 | ⟨g, cap, cur, a, b, c, d⟩
  · exact .inl h2
  · exact .inr ⟨g, cap, cur, a, b, (hb.block g (Array.getElem?_eq_some_iff.1 c).1).trans c, d⟩
theorem row_base {w : World} {B B' : Nat} {T : TypeId} {sz n : Nat} {v : Value} {xs : List Value} (h : w.ownsRow B T sz v n xs) (hb : B' ≤ B) : w.ownsRow B' T sz v n xs := by
  obtain ⟨h1, h2⟩ := h
  refine ⟨h1, ?_⟩
  rcases h2 with h2 | ⟨g, cap, cur, a, b, c⟩
  · exact .inl h2
  · exact .inr ⟨g, cap, cur, a, by omega, c⟩
/-- A row of one's own is none, or lies in a block of its type. -/
theorem row_split {w : World} {B : Nat} {T : TypeId} {sz n : Nat} {v : Value} {xs : List Value} (h : w.ownsRow B T sz v n xs) :
    (v = .slice none 0 0 ∧ n = 0) ∨ ∃ g cap cur, v = .slice (some ⟨g, 0, none⟩) n cap ∧ B ≤ g ∧ g < w.heap.size ∧ n ≤ cap ∧ w.heap[g]? = some (.cells cur T (0, 0)) ∧ FB w g (n * sz) ∧ ∀ i u, xs[i]? = some u → w.cell? ⟨g, i, none⟩ = some u := by
  have h0 := h
  rcases h.2 with h2 | ⟨g, cap, cur, rfl, hB, hg, hn, hm, hs, ht⟩
  · exact .inl h2
  · have hc := fun j hj => World.ownsRow.cellAt (w := w) (base := B) (e := T) (size := sz) (g := g) (n := n) (cap := cap) (xs := xs) h0 j hj
    have hf := fun j => World.ownsRow.frozenAt (w := w) (base := B) (e := T) (size := sz) (g := g) (n := n) (cap := cap) (xs := xs) h0 j
    have hl := (Array.getElem?_eq_some_iff.1 hg).1
    refine .inr ⟨g, cap, cur, rfl, hB, hl, hn, hg, ⟨hl, fun i hi => ?_, hf⟩, fun i u hu => ?_⟩
    · rw [hc i hi]; exact ⟨xs[i]'(by rw [h0.1]; exact hi), List.getElem?_eq_getElem _⟩
    · have hi : i < xs.length := (List.getElem?_eq_some_iff.1 hu).1
      rw [hc i (by rw [← h0.1]; exact hi)]; exact hu
theorem row_apart {w : World} {B B' : Nat} {T T' : TypeId} {sz n sz' n' : Nat} {v v' : Value} {xs xs' : List Value} (h : w.ownsRow B T sz v n xs) (h' : w.ownsRow B' T' sz' v' n' xs') (hT : T ≠ T') : ∀ k, v.ownBlock = some k → v'.ownBlock ≠ some k := by
  intro k hk hk'
  rcases row_split h with ⟨rfl, _⟩ | ⟨g, cap, cur, rfl, _, _, _, hg, _⟩
  · simp [Value.ownBlock] at hk
  rcases row_split h' with ⟨rfl, _⟩ | ⟨g', cap', cur', rfl, _, _, _, hg', _⟩
  · simp [Value.ownBlock] at hk'
  simp [Value.ownBlock] at hk hk'
  subst hk hk'
  rw [hg] at hg'
  simp at hg'
  exact hT hg'.2
def fcs (l : List FO) : List Value := l.flatMap fun p => [.string p.1, .int .i64 p.2]
theorem fcs_len (l : List FO) : (fcs l).length = l.length * 2 := by
  induction l with
  | nil => rfl
  | cons p l ih => simp [fcs] at *; omega
theorem fcs_snoc (l : List FO) (p : FO) : fcs (l ++ [p]) = fcs l ++ [.string p.1, .int .i64 p.2] := by simp [fcs]
theorem fcs_at (l : List FO) : ∀ i, i < l.length → (fcs l)[i * 2]? = some (.string (fS l i)) ∧ (fcs l)[i * 2 + 1]? = some (.int .i64 (fA l i)) := by
  induction l with
  | nil => intro i hi; simp at hi
  | cons p l ih =>
    intro i hi
    cases i with
    | zero => simp [fcs, fS, fA]
    | succ i =>
      have := ih i (by simpa using hi)
      simp only [fcs, List.flatMap_cons, List.cons_append, List.nil_append, show (i + 1) * 2 = i * 2 + 1 + 1 from by omega, List.getElem?_cons_succ] at *
      simpa [fS, fA] using this
abbrev OS (w : World) (B : Nat) (v : Value) (l : List ByteArray) : Prop := w.ownsRow B 9 1 v l.length (l.map Value.string)
abbrev OF (w : World) (B : Nat) (v : Value) (l : List FO) : Prop := w.ownsRow B 71 2 v l.length (fcs l)
theorem OS.tx {w : World} {B : Nat} {v : Value} {l : List ByteArray} (h : OS w B v l) : ∃ a cap, v = .slice a l.length cap ∧ IsTx w a l := by
  rcases row_split h with ⟨rfl, h0⟩ | ⟨g, cap, cur, rfl, hB, hl, hn, hg, hf, hc⟩
  · exact ⟨none, 0, by rw [h0], .inl (List.length_eq_zero_iff.1 h0)⟩
  · refine ⟨some ⟨g, 0, none⟩, cap, rfl, .inr ⟨g, 0, rfl, hl, fun i hi => ?_⟩⟩
    rw [Nat.zero_add]
    exact hc i _ (by rw [tx_get hi]; simp [hi])
theorem OF.fo {w : World} {B : Nat} {v : Value} {l : List FO} (h : OF w B v l) : ∃ a cap, v = .slice a l.length cap ∧ IsFo w a l ∧ l.length ≤ cap := by
  rcases row_split h with ⟨rfl, h0⟩ | ⟨g, cap, cur, rfl, hB, hl, hn, hg, hf, hc⟩
  · exact ⟨none, 0, by rw [h0], .inl (List.length_eq_zero_iff.1 h0), by omega⟩
  · refine ⟨some ⟨g, 0, none⟩, cap, rfl, .inr ⟨g, 0, rfl, hl, fun i hi => ?_⟩, hn⟩
    rw [Nat.zero_add]
    exact ⟨hc _ _ (fcs_at l i hi).1, hc _ _ (fcs_at l i hi).2⟩
/-- What turned, in rows of its own. -/
structure OT (w : World) (B : Nat) (v0 v1 v2 : Value) (G : List ByteArray) (C : List FO) (A : List Int) : Prop where
  a : OS w B v0 G
  b : OF w B v1 C
  c : OI w B v2 A
theorem OT.on {w w' : World} {B : Nat} {v0 v1 v2 : Value} {G : List ByteArray} {C : List FO} {A : List Int} (h : OT w B v0 v1 v2 G C A) (hb : Below w.heap.size w w') : OT w' B v0 v1 v2 G C A :=
  ⟨row_on h.a hb, row_on h.b hb, row_on h.c hb⟩
theorem OT.grown {w w' : World} {B g : Nat} {v0 v1 v2 : Value} {G : List ByteArray} {C : List FO} {A : List Int} (h : OT w B v0 v1 v2 G C A) (hg : w.grownBy w' (some g)) (hlt : g < B) : OT w' B v0 v1 v2 G C A := by
  have hh : ∀ {T : TypeId} {sz n : Nat} {v : Value} {xs : List Value}, w.ownsRow B T sz v n xs → v.ownBlock = none ∨ v.ownBlock ≠ some g := by
    intro T sz n v xs q
    cases hv : v.ownBlock with
    | none => exact .inl rfl
    | some k => exact .inr (fun e => by cases e; have := World.ownsRow.lt q _ hv; omega)
  exact ⟨World.ownsRow.kept h.a hg (hh h.a), World.ownsRow.kept h.b hg (hh h.b), World.ownsRow.kept h.c hg (hh h.c)⟩
/-- What turned, as it is read. -/
structure IT (w : World) (a0 a1 a2 : Option Addr) (G : List ByteArray) (C : List FO) (A : List Int) : Prop where
  a : IsTx w a0 G
  b : IsFo w a1 C
  c : IsInts w a2 A
theorem IT.on {w w' : World} {a0 a1 a2 : Option Addr} {G : List ByteArray} {C : List FO} {A : List Int} (h : IT w a0 a1 a2 G C A) (hb : Below w.heap.size w w') : IT w' a0 a1 a2 G C A := ⟨h.a.below hb, h.b.below hb, h.c.below hb⟩
theorem OT.it {w : World} {B : Nat} {v0 v1 v2 : Value} {G : List ByteArray} {C : List FO} {A : List Int} (h : OT w B v0 v1 v2 G C A) : ∃ a0 c0 a1 c1 a2 c2, v0 = .slice a0 G.length c0 ∧ v1 = .slice a1 C.length c1 ∧ v2 = .slice a2 A.length c2 ∧ IT w a0 a1 a2 G C A := by
  obtain ⟨a0, c0, e0, t0⟩ := h.a.tx
  obtain ⟨a1, c1, e1, t1, _⟩ := h.b.fo
  obtain ⟨a2, c2, e2, t2, _⟩ := h.c.val
  exact ⟨a0, c0, a1, c1, a2, c2, e0, e1, e2, t0, t1, t2⟩
set_option maxHeartbeats 2000000 in
theorem lawEqTexts (a a' : Option Addr) (cap cap' : Nat) (l : List ByteArray) (w : World) (h : IsTx w a l) (h' : IsTx w a' l) (hl : l.length ≤ 4000000) :
    Calls Try.prog 57 #[.slice a l.length cap, .slice a' l.length cap'] w fun e w' => e = .returned (.bool true) ∧ Below w.heap.size w w' := by
  have H1 : Hid (IsTx w a l) := h
  have H2 : Hid (IsTx w a' l) := h'
  clear h h'
  go_enter Try.func57, Try.ntmps57
  go_wp2
  go_loopw [5] (fun i wr => ∃ k : Nat, k ≤ l.length ∧ i = .int .i64 k ∧ Below w.heap.size w wr) (fun i _ => l.length - (intOf i).toNat)
  case atStart => exact ⟨0, by omega, rfl, Below.refl _ _⟩
  case round =>
    obtain ⟨k, hk, rfl, hb⟩ := hrel
    by_cases hlt : k < l.length
    · have G1 := H1.out
      have G2 := H2.out
      rcases G1 with G1 | ⟨b, o, rfl, hbs, hc⟩
      · rw [G1] at hlt; simp at hlt
      rcases G2 with G2 | ⟨b', o', rfl, hbs', hc'⟩
      · rw [G2] at hlt; simp at hlt
      have c0 : wr.cell? ⟨b, o + k, none⟩ = some (.string (tx l k)) := by rw [hb.cell (p := ⟨b, o + k, none⟩) hbs]; exact hc k hlt
      have c1 : wr.cell? ⟨b', o' + k, none⟩ = some (.string (tx l k)) := by rw [hb.cell (p := ⟨b', o' + k, none⟩) hbs']; exact hc' k hlt
      clear hc hc'
      have hi1 : (k : Int) < (l.length : Int) := by omega
      have hi0 : (0 : Int) ≤ (k : Int) := by omega
      go_wp2
      go_quiet (fail)
      go_wp2
      go_roundw
      case rel => exact ⟨k + 1, by omega, by go_num, Below.drewN' hb _⟩
      case measure => simp [intOf]; omega
    · go_wp2
      go_ret
      exact ⟨rfl, hb⟩
abbrev tv (a0 : Option Addr) (n0 c0 : Nat) (a1 : Option Addr) (n1 c1 : Nat) (a2 : Option Addr) (n2 c2 : Nat) : Array Value := #[.slice a0 n0 c0, .slice a1 n1 c1, .slice a2 n2 c2]
set_option maxRecDepth 100000 in
set_option maxHeartbeats 8000000 in
theorem lawEqTurned (a0 a1 a2 b0 bb b2 : Option Addr) (c0 c1 c2 d0 d1 d2 : Nat) (G : List ByteArray) (C : List FO) (A : List Int) (w : World) (h : IT w a0 a1 a2 G C A) (h' : IT w b0 bb b2 G C A) (l0 : G.length ≤ 1000) (l1 : C.length ≤ 1000) (l2 : A.length ≤ 1000) :
    Calls Try.prog 21 #[.agg #[.slice a0 G.length c0, .slice a1 C.length c1, .slice a2 A.length c2], .agg #[.slice b0 G.length d0, .slice bb C.length d1, .slice b2 A.length d2]] w fun e w' => e = .returned (.bool true) ∧ Below w.heap.size w w' := by
  have hb0 : Below w.heap.size w ((w.alloc (.cells #[.slice a0 G.length c0, .slice a1 C.length c1, .slice a2 A.length c2] 37)).alloc (.cells #[.slice b0 G.length d0, .slice bb C.length d1, .slice b2 A.length d2] 37)) := ((Below.refl _ _).alloc (Nat.le_refl _) _).alloc (by simp) _
  have HC0 : Hid (CL ((w.alloc (.cells #[.slice a0 G.length c0, .slice a1 C.length c1, .slice a2 A.length c2] 37)).alloc (.cells #[.slice b0 G.length d0, .slice bb C.length d1, .slice b2 A.length d2] 37)) w.heap.size #[.slice a0 G.length c0, .slice a1 C.length c1, .slice a2 A.length c2]) := (CL.new w _ _).below ((Below.refl _ _).alloc (Nat.le_refl _) _)
  have HC1 : Hid (CL ((w.alloc (.cells #[.slice a0 G.length c0, .slice a1 C.length c1, .slice a2 A.length c2] 37)).alloc (.cells #[.slice b0 G.length d0, .slice bb C.length d1, .slice b2 A.length d2] 37)) (w.heap.size + 1) #[.slice b0 G.length d0, .slice bb C.length d1, .slice b2 A.length d2]) := by have q := CL.new (w.alloc (.cells #[.slice a0 G.length c0, .slice a1 C.length c1, .slice a2 A.length c2] 37)) #[.slice b0 G.length d0, .slice bb C.length d1, .slice b2 A.length d2] 37; unfold Hid; simpa using q
  have HB0 : Hid (Below w.heap.size w ((w.alloc (.cells #[.slice a0 G.length c0, .slice a1 C.length c1, .slice a2 A.length c2] 37)).alloc (.cells #[.slice b0 G.length d0, .slice bb C.length d1, .slice b2 A.length d2] 37))) := hb0
  have H1 : Hid (IT w a0 a1 a2 G C A) := h
  have H2 : Hid (IT w b0 bb b2 G C A) := h'
  clear h h' hb0
  go_enter Try.func21, Try.ntmps21
  go_wp2_with fail
  generalize ((w.alloc (.cells #[.slice a0 G.length c0, .slice a1 C.length c1, .slice a2 A.length c2] 37)).alloc (.cells #[.slice b0 G.length d0, .slice bb C.length d1, .slice b2 A.length d2] 37)) = W0 at HC0 HC1 HB0 ⊢
  refine (lawEqTexts a0 b0 c0 d0 G W0 (H1.out.a.below HB0.out) (H2.out.a.below HB0.out) (by omega)).mono ?_
  rintro e w1 ⟨rfl, b1⟩
  have HB1 : Hid (Below w.heap.size w w1) := bstep HB0.out b1
  have K1 := HC0.out.below b1
  have K2 := HC1.out.below b1
  have HK1 := Hid.of K1
  have HK2 := Hid.of K2
  have x1 : World.cell? w1 ⟨w.heap.size, 1, none⟩ = some (.slice a1 C.length c1) := (K1.2 1 _ rfl).1
  have x2 : World.cell? w1 ⟨w.heap.size, 2, none⟩ = some (.slice a2 A.length c2) := (K1.2 2 _ rfl).1
  have y1 : World.cell? w1 ⟨w.heap.size + 1, 1, none⟩ = some (.slice bb C.length d1) := (K2.2 1 _ rfl).1
  have y2 : World.cell? w1 ⟨w.heap.size + 1, 2, none⟩ = some (.slice b2 A.length d2) := (K2.2 2 _ rfl).1
  clear K1 K2 HC0 HC1 HB0 b1
  go_wp2_with fail
  refine (lawEqFounds a1 bb c1 d1 C w1 (H1.out.b.below HB1.out) (H2.out.b.below HB1.out) (by omega)).mono ?_
  rintro e w2 ⟨rfl, b2'⟩
  have HB2 : Hid (Below w.heap.size w w2) := bstep HB1.out b2'
  have K1 := HK1.out.below b2'
  have K2 := HK2.out.below b2'
  clear x1 x2 y1 y2
  have x2 : World.cell? w2 ⟨w.heap.size, 2, none⟩ = some (.slice a2 A.length c2) := (K1.2 2 _ rfl).1
  have y2 : World.cell? w2 ⟨w.heap.size + 1, 2, none⟩ = some (.slice b2 A.length d2) := (K2.2 2 _ rfl).1
  clear K1 K2 HK1 HK2 b2'
  go_wp2_with fail
  refine (lawEqInts a2 b2 c2 d2 A w2 (H1.out.c.below HB2.out) (H2.out.c.below HB2.out) (by omega)).mono ?_
  rintro e w3 ⟨rfl, b3⟩
  have B3 := bstep HB2.out b3
  clear b3 x2 y2
  go_wp2
  go_ret
  exact ⟨rfl, B3⟩
end Go.Proofs.Ytecijmdkicgemaa
