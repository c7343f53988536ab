/- What the exact laws over two lists of spans keep in mind. -/
import Derived.Test.YtkbgbccehijckaaSp
import Derived.Test.YtkbgbccehijckaaSx
namespace Go.Proofs.Ytkbgbccehijckaa
open Go.RowKit
set_option linter.unusedVariables false
theorem lawSzSpansAt (a : Option Addr) (cap n : Nat) (left : Int) (w : World) (hn : n ≤ maxLen) (h0 : 0 ≤ left) (h1 : left ≤ 1048576) :
    Calls Try.prog 13 #[.slice a n cap, .int .i64 left] w fun e w' => e = .returned (.int .i64 (if (n : Int) ≤ left then left - (n : Int) else -1)) ∧ Below w.heap.size w w' := by
  unfold maxLen at hn
  have g1 := IntWalk.i64_in (left - (n : Int)) (by omega)
  by_cases h2 : (n : Int) ≤ left
  · rw [if_pos h2]
    have h3 : ¬ left - (n : Int) < 0 := by omega
    go_enter Try.func13, Try.ntmps13
    go_wp2
    go_ret
    exact ⟨rfl, Below.refl _ _⟩
  · rw [if_neg h2]
    have h3 : left - (n : Int) < 0 := by omega
    go_enter Try.func13, Try.ntmps13
    go_wp2
    go_ret
    exact ⟨rfl, Below.refl _ _⟩
/-- Both answers, and both arguments. -/
structure LB (w : World) (B n5 n6 : Nat) (v0 v1 : Value) (L ss tt : List (Int × Int)) (W : World) : Prop where
  bel : Below w.heap.size w W
  o0 : OP W 0 51 v0 L
  o1 : OP W B 51 v1 L
  z0 : IsTurns W (some ⟨n5, 0, none⟩) ss
  z1 : IsTurns W (some ⟨n6, 0, none⟩) tt
  f0 : FT W n5 ss.length
  f1 : FT W n6 tt.length
theorem LB.on {w W W' : World} {B n5 n6 : Nat} {v0 v1 : Value} {L ss tt : List (Int × Int)} (h : LB w B n5 n6 v0 v1 L ss tt W) (hb : Below W.heap.size W W') : LB w B n5 n6 v0 v1 L ss tt W' :=
  ⟨bstep h.bel hb, h.o0.on hb, h.o1.on hb, h.z0.below (B := 0) hb, h.z1.below (B := 0) hb, h.f0.below hb, h.f1.below hb⟩
theorem FT.grown {w w' : World} {g n : Nat} {row : Option Nat} (h : FT w g n) (hg : w.grownBy w' row) (hn : some g ≠ row) : FT w' g n :=
  ⟨fun i hi => by rw [hg.cell_far ⟨g, i, none⟩ h.lt hn]; exact h.there i hi, fun i => by rw [hg.frozen_far ⟨g, i, none⟩ h.lt hn]; exact h.free i, Nat.lt_of_lt_of_le h.lt hg.size⟩
/-- Behind the first argument's marks. -/
structure LC (w : World) (B n6 : Nat) (v0 v1 : Value) (L tt : List (Int × Int)) (W : World) : Prop where
  bel : Below w.heap.size w W
  o0 : OP W 0 51 v0 L
  o1 : OP W B 51 v1 L
  f1 : FT W n6 tt.length
theorem LB.marked0 {w W W' : World} {B n5 n6 : Nat} {v0 v1 : Value} {L ss tt : List (Int × Int)} (h : LB w B n5 n6 v0 v1 L ss tt W) (G : W.grownBy W' (some n5)) (h0 : ∀ k, v0.ownBlock = some k → k < n5) (h1 : ∀ k, v1.ownBlock = some k → B ≤ k) (hs : w.heap.size ≤ n5 ∧ n5 < n6 ∧ n6 < B) : LC w B n6 v0 v1 L tt W' :=
  ⟨h.bel.trans (grown_below G h.bel.size (fun k hk => by cases hk; exact hs.1)), h.o0.grown G (fun k hk e => by cases e; have := h0 _ hk; omega), h.o1.grown G (fun k hk e => by cases e; have := h1 _ hk; omega), h.f1.grown G (fun e => by cases e; omega)⟩
/-- Behind both arguments' marks. -/
structure LD (w : World) (B : Nat) (v0 v1 : Value) (L : List (Int × Int)) (W : World) : Prop where
  bel : Below w.heap.size w W
  o0 : OP W 0 51 v0 L
  o1 : OP W B 51 v1 L
theorem LC.marked1 {w W W' : World} {B n5 n6 : Nat} {v0 v1 : Value} {L tt : List (Int × Int)} (h : LC w B n6 v0 v1 L tt W) (G : W.grownBy W' (some n6)) (h0 : ∀ k, v0.ownBlock = some k → k < n5) (h1 : ∀ k, v1.ownBlock = some k → B ≤ k) (hs : w.heap.size ≤ n5 ∧ n5 < n6 ∧ n6 < B) : LD w B v0 v1 L W' :=
  ⟨h.bel.trans (grown_below G h.bel.size (fun k hk => by cases hk; omega)), h.o0.grown G (fun k hk e => by cases e; have := h0 _ hk; omega), h.o1.grown G (fun k hk e => by cases e; have := h1 _ hk; omega)⟩
theorem LD.on {w W W' : World} {B : Nat} {v0 v1 : Value} {L : List (Int × Int)} (h : LD w B v0 v1 L W) (hb : Below W.heap.size W W') : LD w B v0 v1 L W' := ⟨bstep h.bel hb, h.o0.on hb, h.o1.on hb⟩
end Go.Proofs.Ytkbgbccehijckaa
