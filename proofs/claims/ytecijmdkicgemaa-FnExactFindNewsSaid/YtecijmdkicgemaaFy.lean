/- What turned between two times of finding: what both sides make; the program's. -/
import Derived.Test.YtecijmdkicgemaaFx
import Derived.Test.YtecijmdkicgemaaFu
import Derived.Laws.OwnMore
namespace Go.Proofs.Ytecijmdkicgemaa
open Go.RowKit
set_option linter.unusedVariables false
def outF (l m : List FO) (n : Nat) : List Nat := (List.range n).filter fun i => !inF m (fo' l i)
theorem outF_yes {l m : List FO} {n : Nat} (h : inF m (fo' l n) = true) : outF l m (n + 1) = outF l m n := by simp [outF, List.range_succ, h]
theorem outF_no {l m : List FO} {n : Nat} (h : inF m (fo' l n) = false) : outF l m (n + 1) = outF l m n ++ [n] := by simp [outF, List.range_succ, h]
theorem outF_len (l m : List FO) (n : Nat) : (outF l m n).length ≤ n := Nat.le_trans (List.length_filter_le _ _) (by simp)
def goneL (l m : List FO) (n : Nat) : List ByteArray := (outF l m n).map (fS l)
def comeL (l m : List FO) (n : Nat) : List FO := (outF l m n).map (fo' l)
def atL (l m : List FO) (n : Nat) : List Int := (outF l m n).map fun (i : Nat) => (i : Int)
theorem goneL_len (l m : List FO) (n : Nat) : (goneL l m n).length ≤ n := by simpa [goneL] using outF_len l m n
theorem comeL_len (l m : List FO) (n : Nat) : (comeL l m n).length ≤ n := by simpa [comeL] using outF_len l m n
theorem atL_len (l m : List FO) (n : Nat) : (atL l m n).length ≤ n := by simpa [atL] using outF_len l m n
theorem strInfoF : (Try.prog.info? 9).map (fun i => (i.zero, i.size, i.bytes)) = some (some (.string ByteArray.empty), 1, 16) := by kernel_rfl
theorem news_one {w : World} {H : Nat} {x : Value} (h0 : w.cell? ⟨H, 0, none⟩ = some x) : ∀ j u, ([x] : List Value)[j]? = some u → w.cell? ((⟨H, 0, none⟩ : Addr).add j) = some u := by
  intro j u hu
  cases j with
  | zero => simp at hu; subst hu; simpa [Addr.add] using h0
  | succ j => simp at hu
theorem news_two {w : World} {H : Nat} {x y : Value} (h0 : w.cell? ⟨H, 0, none⟩ = some x) (h1 : w.cell? ⟨H, 1, none⟩ = some y) : ∀ j u, ([x, y] : List Value)[j]? = some u → w.cell? ((⟨H, 0, none⟩ : Addr).add j) = some u := by
  intro j u hu
  match j with
  | 0 => simp at hu; subst hu; simpa [Addr.add] using h0
  | 1 => simp at hu; subst hu; simpa [Addr.add] using h1
  | j + 2 => simp at hu
theorem one_new (w : World) (x : Value) (T : TypeId) : (w.alloc (.cells #[x] T)).cell? ⟨w.heap.size, 0, none⟩ = some x := by rw [World.cell?_alloc_new]; rfl
theorem two_new (w : World) (x y : Value) (T : TypeId) : (w.alloc (.cells #[x, y] T)).cell? ⟨w.heap.size, 0, none⟩ = some x ∧ (w.alloc (.cells #[x, y] T)).cell? ⟨w.heap.size, 1, none⟩ = some y := by rw [World.cell?_alloc_new, World.cell?_alloc_new]; exact ⟨rfl, rfl⟩
/-- What turned, while it is being made: its block, its rows, and the answer's block. -/
structure TU (w : World) (R X : Nat) (v0 v1 v2 : Value) (G : List ByteArray) (C : List FO) (A : List Int) (W : World) : Prop where
  r : CL W R #[.slice none 0 0, .slice none 0 0, .slice none 0 0]
  c : CL W X #[v0, v1, v2]
  t : OT W (X + 1) v0 v1 v2 G C A
  hb : Below w.heap.size w W
  hr : w.heap.size ≤ R
  hx : R < X
theorem TU.on {w : World} {R X : Nat} {v0 v1 v2 : Value} {G : List ByteArray} {C : List FO} {A : List Int} {W W' : World} (h : TU w R X v0 v1 v2 G C A W) (hb : Below W.heap.size W W') : TU w R X v0 v1 v2 G C A W' :=
  ⟨h.r.below hb, h.c.below hb, h.t.on hb, bstep h.hb hb, h.hr, h.hx⟩
theorem CL.grown {w w' : World} {b : Nat} {vs : Array Value} {row : Option Nat} (h : CL w b vs) (hg : w.grownBy w' row) (hn : some b ≠ row) : CL w' b vs :=
  ⟨Nat.lt_of_lt_of_le h.1 hg.size, fun i v hv => ⟨by rw [hg.cell_far ⟨b, i, none⟩ h.1 hn]; exact (h.2 i v hv).1, by rw [hg.frozen_far ⟨b, i, none⟩ h.1 hn]; exact (h.2 i v hv).2⟩⟩
theorem TU.at {w : World} {R X : Nat} {v0 v1 v2 : Value} {G : List ByteArray} {C : List FO} {A : List Int} {W : World} (h : TU w R X v0 v1 v2 G C A W) : ∃ a0 c0 a1 c1 a2 c2, v0 = .slice a0 G.length c0 ∧ v1 = .slice a1 C.length c1 ∧ v2 = .slice a2 A.length c2 := by
  obtain ⟨a0, c0, a1, c1, a2, c2, e0, e1, e2, _⟩ := h.t.it
  exact ⟨a0, c0, a1, c1, a2, c2, e0, e1, e2⟩
theorem row_kept {w w' : World} {B g : Nat} {T : TypeId} {sz n : Nat} {v : Value} {xs : List Value} (h : w.ownsRow B T sz v n xs) (hg : w.grownBy w' (some g)) (hlt : g < B) : w'.ownsRow B T sz v n xs := by
  refine World.ownsRow.kept h hg ?_
  cases hv : v.ownBlock with
  | none => exact .inl rfl
  | some k => exact .inr (fun e => by cases e; have := World.ownsRow.lt h _ hv; omega)
theorem row_other {w w' : World} {B B' : Nat} {T T' : TypeId} {sz n sz' n' : Nat} {v v' : Value} {xs xs' : List Value} (h : w.ownsRow B T sz v n xs) (h' : w.ownsRow B' T' sz' v' n' xs') (hT : T' ≠ T) (hg : w.grownBy w' v'.ownBlock) : w'.ownsRow B T sz v n xs := by
  refine World.ownsRow.kept h hg ?_
  cases hv : v.ownBlock with
  | none => exact .inl rfl
  | some k => exact .inr (fun e => row_apart h h' (Ne.symm hT) k hv e.symm)
theorem TU.keepC {w : World} {R X : Nat} {v0 v1 v2 v : Value} {G : List ByteArray} {C : List FO} {A : List Int} {W W' : World} (h : TU w R X v0 v1 v2 G C A W) {B : Nat} {T : TypeId} {sz n : Nat} {xs : List Value} (ho : W.ownsRow (X + 1) T sz v n xs) (hg : W.grownBy W' v.ownBlock) : CL W' R #[.slice none 0 0, .slice none 0 0, .slice none 0 0] ∧ CL W' X #[v0, v1, v2] ∧ Below w.heap.size w W' := by
  have q := World.ownsRow.lt ho
  have hx := h.hx
  have hr := h.hr
  exact ⟨h.r.grown hg (fun e => by have := q _ e.symm; omega), h.c.grown hg (fun e => by have := q _ e.symm; omega), h.hb.trans (grown_below hg h.hb.size (fun k hk => by have := q k hk; omega))⟩
theorem TU.set {w : World} {R X : Nat} {v0 v1 v2 : Value} {G : List ByteArray} {C : List FO} {A : List Int} {W : World} (hr : CL W R #[.slice none 0 0, .slice none 0 0, .slice none 0 0]) (i : Nat) (v : Value) {u0 u1 u2 : Value} (hc : CL W X #[u0, u1, u2]) (hi : i < 3) (hs : #[u0, u1, u2].set! i v = #[v0, v1, v2]) (ht : OT W (X + 1) v0 v1 v2 G C A) (hb : Below w.heap.size w W) (h1 : w.heap.size ≤ R) (h2 : R < X) : TU w R X v0 v1 v2 G C A (W.setCell ⟨X, i, none⟩ v) := by
  have q := hc.set i v (by simpa using hi)
  rw [hs] at q
  exact ⟨hr.other i v (by omega), q, ht.grown (grown_set _ ⟨X, i, none⟩ _) (by show X < X + 1; omega), hb.setCell (p := ⟨X, i, none⟩) (by show w.heap.size ≤ X; omega) _, h1, h2⟩
theorem TU.up0 {w : World} {R X : Nat} {v0 v1 v2 v : Value} {G : List ByteArray} {C : List FO} {A : List Int} {W W' : World} {s : ByteArray} (h : TU w R X v0 v1 v2 G C A W) (ho : W'.ownsRow (X + 1) 9 1 v (G.length + 1) (G.map Value.string ++ [.string s])) (hg : W.grownBy W' v0.ownBlock) : TU w R X v v1 v2 (G ++ [s]) C A (W'.setCell ⟨X, 0, none⟩ v) := by
  obtain ⟨h1, h2, h3⟩ := h.keepC (B := 0) h.t.a hg
  exact TU.set h1 0 v h2 (by omega) rfl ⟨by simpa [OS] using ho, row_other h.t.b h.t.a (by decide) hg, row_other h.t.c h.t.a (by decide) hg⟩ h3 h.hr h.hx
theorem TU.up1 {w : World} {R X : Nat} {v0 v1 v2 v : Value} {G : List ByteArray} {C : List FO} {A : List Int} {W W' : World} {p : FO} (h : TU w R X v0 v1 v2 G C A W) (ho : W'.ownsRow (X + 1) 71 2 v (C.length + 1) (fcs C ++ [.string p.1, .int .i64 p.2])) (hg : W.grownBy W' v1.ownBlock) : TU w R X v0 v v2 G (C ++ [p]) A (W'.setCell ⟨X, 1, none⟩ v) := by
  obtain ⟨h1, h2, h3⟩ := h.keepC (B := 0) h.t.b hg
  exact TU.set h1 1 v h2 (by omega) rfl ⟨row_other h.t.a h.t.b (by decide) hg, by rw [← fcs_snoc] at ho; simpa [OF] using ho, row_other h.t.c h.t.b (by decide) hg⟩ h3 h.hr h.hx
theorem TU.up2 {w : World} {R X : Nat} {v0 v1 v2 v : Value} {G : List ByteArray} {C : List FO} {A : List Int} {W W' : World} {x : Int} (h : TU w R X v0 v1 v2 G C A W) (ho : W'.ownsRow (X + 1) 3 1 v (A.length + 1) (A.map (Value.int .i64) ++ [.int .i64 x])) (hg : W.grownBy W' v2.ownBlock) : TU w R X v0 v1 v G C (A ++ [x]) (W'.setCell ⟨X, 2, none⟩ v) := by
  obtain ⟨h1, h2, h3⟩ := h.keepC (B := 0) h.t.c hg
  exact TU.set h1 2 v h2 (by omega) rfl ⟨row_other h.t.a h.t.c (by decide) hg, row_other h.t.b h.t.c (by decide) hg, by simpa [OI] using ho⟩ h3 h.hr h.hx
theorem row_shape {w : World} {B : Nat} {T : TypeId} {sz n : Nat} {v : Value} {xs : List Value} (h : w.ownsRow B T sz v n xs) : ∃ a c, v = .slice a n c := by
  rcases row_split h with ⟨rfl, h0⟩ | ⟨g, cap, cur, rfl, _⟩
  · exact ⟨none, 0, by rw [h0]⟩
  · exact ⟨_, _, rfl⟩
theorem TU.done {w : World} {R X : Nat} {v0 v1 v2 : Value} {G : List ByteArray} {C : List FO} {A : List Int} {W : World} (h : TU w R X v0 v1 v2 G C A W) (x y z : Value) :
    OT (((W.setCell ⟨R, 0, none⟩ x).setCell ⟨R, 1, none⟩ y).setCell ⟨R, 2, none⟩ z) w.heap.size v0 v1 v2 G C A ∧ Below w.heap.size w (((W.setCell ⟨R, 0, none⟩ x).setCell ⟨R, 1, none⟩ y).setCell ⟨R, 2, none⟩ z) := by
  have hx := h.hx
  have hr := h.hr
  have g0 := h.t.grown (grown_set W ⟨R, 0, none⟩ x) (by show R < X + 1; omega)
  have g1 := g0.grown (grown_set _ ⟨R, 1, none⟩ y) (by show R < X + 1; omega)
  have g2 := g1.grown (grown_set _ ⟨R, 2, none⟩ z) (by show R < X + 1; omega)
  exact ⟨⟨row_base g2.a (by omega), row_base g2.b (by omega), row_base g2.c (by omega)⟩, ((h.hb.setCell (p := ⟨R, 0, none⟩) hr _).setCell (p := ⟨R, 1, none⟩) hr _).setCell (p := ⟨R, 2, none⟩) hr _⟩
end Go.Proofs.Ytecijmdkicgemaa
