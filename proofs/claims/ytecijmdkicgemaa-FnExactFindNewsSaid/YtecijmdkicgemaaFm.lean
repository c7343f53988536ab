/- What turned: all of it marked; sizes with any rest. -/
import Derived.Test.YtecijmdkicgemaaFh
namespace Go.Proofs.Ytecijmdkicgemaa
open Go.RowKit
set_option linter.unusedVariables false
set_option maxRecDepth 100000 in
set_option maxHeartbeats 4000000 in
theorem lawSzFoundsAt (a : Option Addr) (cap : Nat) (l : List FO) (left : Int) (w : World) (y0 : 0 ≤ left) (y1 : left ≤ 1048576) (h : IsFo w a l) (hw : FWide l) :
    Calls Try.prog 14 #[.slice a l.length cap, .int .i64 left] w fun e w' => (∃ v : Int, e = .returned (.int .i64 v) ∧ (v < 0 ∨ 0 ≤ v ∧ v ≤ 1048576 ∧ FSmall l)) ∧ Below w.heap.size w w' := by
  have HF : Hid (IsFo w a l) := h
  have HW : Hid (FWide l) := hw
  have hll := hw.1
  unfold maxLen at hll
  clear h hw
  have g := IntWalk.i64_in (left - (l.length : Int)) (by omega)
  by_cases hl : left - (l.length : Int) < 0
  · go_enter Try.func14, Try.ntmps14
    go_wp2
    go_ret
    exact ⟨⟨_, rfl, .inl (by omega)⟩, Below.refl _ _⟩
  go_enter Try.func14, Try.ntmps14
  go_wp2
  go_loopw [1, 5] (fun v i wr => ∃ (k : Nat) (z : Int), k ≤ l.length ∧ v = .int .i64 z ∧ i = .int .i64 k ∧ 0 ≤ z ∧ z ≤ 1048576 ∧ (∀ j, j < k → (fS l j).size ≤ 1048576) ∧ Below w.heap.size w wr) (fun _ i _ => l.length - (intOf i).toNat)
  case atStart => exact ⟨0, _, by omega, rfl, rfl, by omega, by omega, fun j hj => by omega, Below.refl _ _⟩
  case round =>
    obtain ⟨k, z, hk, rfl, rfl, z0, z1, ha, hb⟩ := hrel
    have HA : Hid (∀ j, j < k → (fS l j).size ≤ 1048576) := ha
    have HB : Hid (Below w.heap.size w wr) := hb
    clear ha
    by_cases hlt : k < l.length
    · obtain ⟨b, off, rfl, hbs, hc⟩ := (HF.out.below hb).at (by omega)
      obtain ⟨c0, c1⟩ := hc k hlt
      have hi0 : (0 : Int) ≤ (k : Int) := by omega
      have hi1 : (k : Int) < (l.length : Int) := by omega
      have hsz := HW.out.2 k hlt
      have HS := Hid.of (lawSzFound (fS l k) (fA l k) z wr z0 z1 hsz)
      unfold maxLen at hsz
      clear hc hb
      by_cases hz : z - ((fS l k).size : Int) < 0
      · rw [if_pos hz] at HS
        go_wp2_with fail
        refine HS.out.mono ?_
        rintro e w1 ⟨rfl, b1⟩
        have B1 := bstep HB.out b1
        clear b1 HS c0 c1
        go_wp2
        go_ret
        exact ⟨⟨_, rfl, .inl (by omega)⟩, B1⟩
      · rw [if_neg hz] at HS
        have HQ : Hid (∀ j, j < k + 1 → (fS l j).size ≤ 1048576) := fun j hj => by
          by_cases e : j = k
          · subst e; omega
          · exact HA.out j (by omega)
        go_wp2_with fail
        refine HS.out.mono ?_
        rintro e w1 ⟨rfl, b1⟩
        have B1 := bstep HB.out b1
        clear b1 HS c0 c1
        go_wp2
        go_roundw
        case rel => exact ⟨k + 1, _, by omega, rfl, by go_num, by omega, by omega, HQ.out, B1⟩
        case measure => simp [intOf]; omega
    · go_wp2
      go_ret
      exact ⟨⟨_, rfl, .inr ⟨z0, z1, by omega, fun i hi => HA.out i (by omega)⟩⟩, hb⟩
theorem markT0 (k : Nat) (w : World) : Calls Try.prog 60 #[.slice none 0 0, .int .i64 k] w fun e w' => e = .returned (.int .i64 k) ∧ w' = w := by
  go_enter Try.func60, Try.ntmps60
  go_wp2
  refine wp_loop_rounds 1 ?_; rw [rounds_succ]
  go_wp2
  go_ret
  exact ⟨rfl, rfl⟩
theorem markF0 (k : Nat) (w : World) : Calls Try.prog 22 #[.slice none 0 0, .int .i64 k] w fun e w' => e = .returned (.int .i64 k) ∧ w' = w := by
  go_enter Try.func22, Try.ntmps22
  go_wp2
  refine wp_loop_rounds 1 ?_; rw [rounds_succ]
  go_wp2
  go_ret
  exact ⟨rfl, rfl⟩
theorem markOS (B : Nat) (a : Option Addr) (c : Nat) (G : List ByteArray) (k : Nat) (w : World) (h : OS w B (.slice a G.length c) G) (hl : G.length ≤ 1000) (k0 : 0 < k) (k1 : k ≤ 10000) :
    Calls Try.prog 60 #[.slice a G.length c, .int .i64 k] w fun e w' => e = .returned (.int .i64 (k + G.length : Nat)) ∧ IsTx w' a (mkS k G.length) ∧ w.grownBy w' (Value.slice a G.length c).ownBlock := by
  rcases row_split h with ⟨e, h0⟩ | ⟨g, cap, cur, e, hB, hg, hn, hh, hf, _⟩
  · simp only [Value.slice.injEq] at e
    obtain ⟨rfl, _, rfl⟩ := e
    rw [h0]
    refine (markT0 k w).mono ?_
    rintro e w1 ⟨rfl, rfl⟩
    exact ⟨by simp, .inl rfl, World.grownBy.refl _ _⟩
  · simp only [Value.slice.injEq] at e
    obtain ⟨rfl, _, rfl⟩ := e
    exact lawMarkTexts g G.length c k w (by simpa using hf) (by omega) k0 (by omega)
theorem markOF (B : Nat) (a : Option Addr) (c : Nat) (C : List FO) (k : Nat) (w : World) (h : OF w B (.slice a C.length c) C) (hl : C.length ≤ 1000) (k0 : 0 < k) (k1 : k ≤ 10000) :
    Calls Try.prog 22 #[.slice a C.length c, .int .i64 k] w fun e w' => e = .returned (.int .i64 (k + C.length * 2 : Nat)) ∧ IsFo w' a (mkF k C.length) ∧ w.grownBy w' (Value.slice a C.length c).ownBlock := by
  rcases row_split h with ⟨e, h0⟩ | ⟨g, cap, cur, e, hB, hg, hn, hh, hf, _⟩
  · simp only [Value.slice.injEq] at e
    obtain ⟨rfl, _, rfl⟩ := e
    rw [h0]
    refine (markF0 k w).mono ?_
    rintro e w1 ⟨rfl, rfl⟩
    exact ⟨by simp, .inl rfl, World.grownBy.refl _ _⟩
  · simp only [Value.slice.injEq] at e
    obtain ⟨rfl, _, rfl⟩ := e
    exact lawMarkFounds g C.length c k w hf (by omega) k0 (by omega)
theorem own_ne {a : Option Addr} {n c : Nat} {x : Addr} (h : a = some x) : (Value.slice a n c).ownBlock = some x.block := by subst h; rfl
set_option maxRecDepth 100000 in
set_option maxHeartbeats 8000000 in
theorem lawMarkTurned (B : Nat) (a0 : Option Addr) (c0 : Nat) (a1 : Option Addr) (c1 : Nat) (a2 : Option Addr) (c2 : Nat) (G : List ByteArray) (C : List FO) (A : List Int) (k : Nat) (w : World) (h : OT w B (.slice a0 G.length c0) (.slice a1 C.length c1) (.slice a2 A.length c2) G C A) (hB : B ≤ w.heap.size) (l0 : G.length ≤ 1000) (l1 : C.length ≤ 1000) (l2 : A.length ≤ 1000) (k0 : 0 < k) (k1 : k ≤ 1000) :
    Calls Try.prog 23 #[.agg #[.slice a0 G.length c0, .slice a1 C.length c1, .slice a2 A.length c2], .int .i64 k] w fun e w' => e = .returned (.int .i64 (k + G.length + C.length * 2 + A.length : Nat)) ∧ IT w' a0 a1 a2 (mkS k G.length) (mkF (k + G.length) C.length) (mks ((k + G.length + C.length * 2 : Nat) : Int) A.length) ∧ Below B w w' ∧ (∀ (X : Nat) (xs : Array Value), CL w X xs → (Value.slice a0 G.length c0).ownBlock ≠ some X → (Value.slice a1 C.length c1).ownBlock ≠ some X → (Value.slice a2 A.length c2).ownBlock ≠ some X → CL w' X xs) := by
  have hc0 : CL (w.alloc (.cells #[.slice a0 G.length c0, .slice a1 C.length c1, .slice a2 A.length c2] 37)) w.heap.size #[.slice a0 G.length c0, .slice a1 C.length c1, .slice a2 A.length c2] := CL.new _ _ _
  have HC0 : Hid (CL (w.alloc (.cells #[.slice a0 G.length c0, .slice a1 C.length c1, .slice a2 A.length c2] 37)) w.heap.size #[.slice a0 G.length c0, .slice a1 C.length c1, .slice a2 A.length c2]) := hc0
  have HT0 : Hid (OT (w.alloc (.cells #[.slice a0 G.length c0, .slice a1 C.length c1, .slice a2 A.length c2] 37)) B (.slice a0 G.length c0) (.slice a1 C.length c1) (.slice a2 A.length c2) G C A) := h.on ((Below.refl _ _).alloc (Nat.le_refl _) _)
  have HB0 : Hid (Below B w (w.alloc (.cells #[.slice a0 G.length c0, .slice a1 C.length c1, .slice a2 A.length c2] 37)) ∧ B ≤ w.heap.size ∧ w.heap.size ≤ (w.alloc (.cells #[.slice a0 G.length c0, .slice a1 C.length c1, .slice a2 A.length c2] 37)).heap.size) := ⟨(Below.refl _ _).alloc hB _, hB, by simp⟩
  have L0 : Hid (∀ x, (Value.slice a0 G.length c0).ownBlock = some x → B ≤ x ∧ x < w.heap.size) := World.ownsRow.lt h.a
  have L1 : Hid (∀ x, (Value.slice a1 C.length c1).ownBlock = some x → B ≤ x ∧ x < w.heap.size) := World.ownsRow.lt h.b
  have L2 : Hid (∀ x, (Value.slice a2 A.length c2).ownBlock = some x → B ≤ x ∧ x < w.heap.size) := World.ownsRow.lt h.c
  have P01 : Hid (∀ x, (Value.slice a0 G.length c0).ownBlock = some x → (Value.slice a1 C.length c1).ownBlock ≠ some x) := row_apart h.a h.b (by decide)
  have P02 : Hid (∀ x, (Value.slice a0 G.length c0).ownBlock = some x → (Value.slice a2 A.length c2).ownBlock ≠ some x) := row_apart h.a h.c (by decide)
  have P12 : Hid (∀ x, (Value.slice a1 C.length c1).ownBlock = some x → (Value.slice a2 A.length c2).ownBlock ≠ some x) := row_apart h.b h.c (by decide)
  have HA0 : Hid (Below w.heap.size w (w.alloc (.cells #[.slice a0 G.length c0, .slice a1 C.length c1, .slice a2 A.length c2] 37))) := (Below.refl _ _).alloc (Nat.le_refl _) _
  clear hc0 h hB
  go_enter Try.func23, Try.ntmps23
  go_wp2_with fail
  generalize w.alloc (.cells #[.slice a0 G.length c0, .slice a1 C.length c1, .slice a2 A.length c2] 37) = W0 at HC0 HT0 HB0 HA0 ⊢
  refine (markOS B a0 c0 G k W0 HT0.out.a l0 k0 (by omega)).mono ?_
  rintro e w1 ⟨rfl, T1, G1⟩
  have HT1 := Hid.of T1
  have HN1 : Hid ((∀ (X : Nat) (xs : Array Value), CL w X xs → (Value.slice a0 G.length c0).ownBlock ≠ some X → (Value.slice a1 C.length c1).ownBlock ≠ some X → (Value.slice a2 A.length c2).ownBlock ≠ some X → CL w1 X xs)) := fun X xs hc n0 n1 n2 => (hc.below HA0.out).grown G1 (fun e => n0 e.symm)
  have R1 : Hid (OF w1 B (.slice a1 C.length c1) C ∧ OI w1 B (.slice a2 A.length c2) A) := ⟨row_other HT0.out.b HT0.out.a (by decide) G1, row_other HT0.out.c HT0.out.a (by decide) G1⟩
  have K1 := HC0.out.grown G1 (fun e => by have := L0.out _ e.symm; omega)
  have HC1 := Hid.of K1
  have HB1 : Hid (Below B w w1 ∧ w.heap.size ≤ w1.heap.size) := ⟨HB0.out.1.trans (grown_below G1 (Nat.le_trans HB0.out.2.1 HB0.out.2.2) (fun x hx => (L0.out x hx).1)), Nat.le_trans HB0.out.2.2 G1.size⟩
  have x1 : World.cell? w1 ⟨w.heap.size, 1, none⟩ = some (.slice a1 C.length c1) := (K1.2 1 _ rfl).1
  obtain ⟨p1, hp1⟩ : ∃ p, p = k + G.length := ⟨_, rfl⟩
  have HP1 : Hid (p1 = k + G.length) := hp1
  have lp1 : p1 ≤ 2000 := by omega
  have lq1 : 0 < p1 := by omega
  rw [← hp1]
  clear T1 G1 K1 hp1
  go_wp2_with fail
  refine (markOF B a1 c1 C p1 w1 R1.out.1 l1 lq1 (by omega)).mono ?_
  rintro e w2 ⟨rfl, T2, G2⟩
  have HT2 := Hid.of T2
  have HN2 : Hid ((∀ (X : Nat) (xs : Array Value), CL w X xs → (Value.slice a0 G.length c0).ownBlock ≠ some X → (Value.slice a1 C.length c1).ownBlock ≠ some X → (Value.slice a2 A.length c2).ownBlock ≠ some X → CL w2 X xs)) := fun X xs hc n0 n1 n2 => (HN1.out X xs hc n0 n1 n2).grown G2 (fun e => n1 e.symm)
  have HT12 : Hid (IsTx w2 a0 (mkS k G.length)) := HT1.out.grown G2 (fun x hx e => P01.out _ (own_ne hx) e.symm)
  have R2 : Hid (OI w2 B (.slice a2 A.length c2) A) := row_other R1.out.2 R1.out.1 (by decide) G2
  have K2 := HC1.out.grown G2 (fun e => by have := L1.out _ e.symm; omega)
  have HB2 : Hid (Below B w w2 ∧ w.heap.size ≤ w2.heap.size) := ⟨HB1.out.1.trans (grown_below G2 (Nat.le_trans HB0.out.2.1 HB1.out.2) (fun x hx => (L1.out x hx).1)), Nat.le_trans HB1.out.2 G2.size⟩
  have x2 : World.cell? w2 ⟨w.heap.size, 2, none⟩ = some (.slice a2 A.length c2) := (K2.2 2 _ rfl).1
  obtain ⟨p2, hp2⟩ : ∃ p, p = p1 + C.length * 2 := ⟨_, rfl⟩
  have HP2 : Hid (p2 = p1 + C.length * 2) := hp2
  have lp2 : p2 ≤ 5000 := by omega
  rw [← hp2]
  clear T2 G2 K2 hp2 x1
  go_wp2_with fail
  refine (lawMarkInts B (.slice a2 A.length c2) A (p2 : Int) w2 R2.out (by omega) (by omega) (by omega)).mono ?_
  rintro e w3 ⟨rfl, T3, G3⟩
  have FIN : Hid (IT w3 a0 a1 a2 (mkS k G.length) (mkF (k + G.length) C.length) (mks ((k + G.length + C.length * 2 : Nat) : Int) A.length) ∧ Below B w w3 ∧ (∀ (X : Nat) (xs : Array Value), CL w X xs → (Value.slice a0 G.length c0).ownBlock ≠ some X → (Value.slice a1 C.length c1).ownBlock ≠ some X → (Value.slice a2 A.length c2).ownBlock ≠ some X → CL w3 X xs)) := by
    refine ⟨⟨HT12.out.grown G3 (fun x hx e => P02.out _ (own_ne hx) e.symm), ?_, ?_⟩, HB2.out.1.trans (grown_below G3 (Nat.le_trans HB0.out.2.1 HB2.out.2) (fun x hx => (L2.out x hx).1)), fun X xs hc n0 n1 n2 => (HN2.out X xs hc n0 n1 n2).grown G3 (fun e => n2 e.symm)⟩
    · rw [← HP1.out]; exact HT2.out.grown G3 (fun x hx e => P12.out _ (own_ne hx) e.symm)
    · rw [← HP1.out, ← HP2.out]
      refine OI.ints (B := B) (n := A.length) (cap := c2) ?_
      have q := T3
      exact q
  clear T3 G3 x2
  go_wp2
  go_ret
  exact ⟨ret_i (by rw [HP2.out, HP1.out]; simp), FIN.out.1, FIN.out.2.1, FIN.out.2.2⟩
end Go.Proofs.Ytecijmdkicgemaa
