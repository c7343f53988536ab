/- FnExactFree: the law's own walk. -/
import Derived.Test.YtkbgbccehijckaaSo
import Derived.Test.YtkbgbccehijckaaSp
namespace Go.Proofs.Ytkbgbccehijckaa
open Go.RowKit
set_option linter.unusedVariables false
set_option maxRecDepth 100000 in
set_option maxHeartbeats 16000000 in
theorem lawExFree (a : Option Addr) (cap : Nat) (ss : List (Int × Int)) (x y : Int) (w : World) (hw : ss.length ≤ maxLen) (h : IsTurns w a ss) :
    Calls Try.prog 3 #[.slice a ss.length cap, .int .i64 x, .int .i64 y] w fun e w' => e = .returned (.bool true) ∧ Below w.heap.size w w' := by
  have HZ : Hid (IsTurns w a ss) := h
  obtain ⟨r, hr⟩ := sp_dec ss
  have HR : Hid (r = true ↔ SpOk ss) := hr
  clear h hr
  go_enter Try.func3, Try.ntmps3
  go_wp2_with fail
  with_reducible refine (lawSzSpans _ _ _ _ hw).mono ?_
  rintro e w1 ⟨rfl, b1⟩
  by_cases hl : ss.length ≤ 1048576
  · have hv : szs ss.length = 1048576 - (ss.length : Int) := if_pos hl
    rw [hv]
    have hl2 : ss.length ≤ 2000000 := by omega
    have lm : (frA r ss x y).length ≤ 2000000 := by have := frA_len r ss x y; omega
    have lm4 : (frA r ss x y).length ≤ 4000000 := by omega
    clear hv hw
    go_wp2_with fail
    with_reducible refine (lawToSpans _ _ _ _ (HZ.out.below (B := 0) b1) hl2).mono ?_
    rintro e w2 ⟨rfl, Z2, b2, _⟩
    go_wp2_with fail
    with_reducible refine (specFree _ _ _ _ _ _ Z2 hl2 r HR.out).mono ?_
    rintro e w3 ⟨⟨v0, rfl, O0⟩, b3⟩
    have B3 := bstep (bstep b1 b2) b3
    obtain ⟨a0, q0, rfl⟩ := O0.shape0
    clear b1 b2 b3 Z2
    go_wp2_with fail
    with_reducible refine (lawToSpans _ _ _ _ (HZ.out.below (B := 0) B3) hl2).mono ?_
    rintro e w4 ⟨rfl, Z4, b4, F4⟩
    have B4 := bstep B3 b4
    have O4 := O0.on b4
    have lo0 : ∀ k, (Value.slice a0 (frA r ss x y).length q0).ownBlock = some k → k < w3.heap.size := fun k hk => (World.ownsRow.lt O0 k hk).2
    have s34 : w3.heap.size < w4.heap.size := F4.lt
    clear b4 O0
    go_wp2_with fail
    with_reducible refine (implFree _ _ _ _ _ _ Z4 hl2 r HR.out).mono ?_
    rintro e w5 ⟨⟨v1, rfl, O1⟩, b5⟩
    obtain ⟨a1, q1, rfl⟩ := O1.shape0
    have B5 := bstep B4 b5
    have P0 := O4.on b5
    have Z5 := Z4.below (B := 0) b5
    have F5 := F4.below b5
    have lo1 : ∀ k, (Value.slice a1 (frA r ss x y).length q1).ownBlock = some k → w4.heap.size ≤ k := fun k hk => (World.ownsRow.lt O1 k hk).1
    have HL0 : Hid (∀ k, (Value.slice a0 (frA r ss x y).length q0).ownBlock = some k → k < w3.heap.size) := lo0
    have HL1 : Hid (∀ k, (Value.slice a1 (frA r ss x y).length q1).ownBlock = some k → w4.heap.size ≤ k) := lo1
    have HSZ : Hid (w.heap.size ≤ w3.heap.size ∧ w3.heap.size < w4.heap.size ∧ w.heap.size ≤ w4.heap.size) := ⟨B3.size, s34, B4.size⟩
    clear lo0 lo1 s34 O4 Z4 F4 b5 B4 B3
    go_wp2_with fail
    with_reducible refine (lawEqSpans _ _ _ _ _ _ O1.isT.1 P0.isT.1 lm).mono ?_
    rintro e w6 ⟨rfl, b6⟩
    have B6 := bstep B5 b6
    have P6 := P0.on b6
    have O6 := O1.on b6
    have Z6 := Z5.below (B := 0) b6
    have F6 := F5.below b6
    clear P0 O1 Z5 F5 b6 B5
    go_wp2_with fail
    with_reducible refine (lawToSpans _ _ _ _ (HZ.out.below (B := 0) B6) hl2).mono ?_
    rintro e w7 ⟨rfl, Z7, b7, _⟩
    have B7 := bstep B6 b7
    have Z7' := Z6.below (B := 0) b7
    have P7 := P6.on b7
    have O7 := O6.on b7
    have F7 := F6.below b7
    clear P6 O6 Z6 F6 b7 B6
    go_wp2_with fail
    with_reducible refine (lawEqSpans _ _ _ _ _ _ Z7' Z7 hl2).mono ?_
    rintro e w8 ⟨rfl, b8⟩
    have B8 := bstep B7 b8
    have P8 := P7.on b8
    have O8 := O7.on b8
    have F8 := F7.below b8
    clear P7 O7 Z7 Z7' F7 b8 B7
    go_wp2_with fail
    with_reducible refine (lawMarkSpans _ _ _ _ _ F8 (by omega) (by omega) (by omega)).mono ?_
    rintro e w9 ⟨rfl, _, G9⟩
    have B9 := B8.trans (grown_below G9 B8.size (fun k hk => by cases hk; exact HSZ.out.1))
    have P9 := P8.grown G9 (fun k hk e => by cases e; have := HL0.out _ hk; omega)
    have O9 := O8.grown G9 (fun k hk e => by cases e; have := HL1.out _ hk; have := HSZ.out; omega)
    clear P8 O8 F8 G9 B8
    have k9 : ¬ (1 + 2 * (ss.length : Int) < 0) := by omega
    go_wp2_with fail
    with_reducible refine (lawEqSpans _ _ _ _ _ _ O9.isT.1 P9.isT.1 lm).mono ?_
    rintro e w10 ⟨rfl, b10⟩
    have B10 := bstep B9 b10
    have P10 := P9.on b10
    have O10 := O9.on b10
    clear P9 O9 b10 B9
    go_wp2_with fail
    with_reducible refine (lawMarkOwn _ _ _ _ _ _ O10 lm4 (by omega) (by omega)).mono ?_
    rintro e w11 ⟨rfl, M11, G11⟩
    have B11 := B10.trans (grown_below G11 B10.size (fun k hk => by have := HL1.out k hk; have := HSZ.out; omega))
    have P11 := P10.grown G11 (fun k hk e => by have := HL0.out k hk; have := HL1.out k e.symm; have := HSZ.out; omega)
    have T11 := M11 _ _ _ rfl
    clear P10 O10 G11 B10 M11
    go_wp2_with fail
    with_reducible refine (lawHeldSpans _ _ _ _ _ T11 lm4 (by omega) (by omega)).mono ?_
    rintro e w12 ⟨rfl, b12⟩
    have B12 := bstep B11 b12
    have P12 := P11.on b12
    have T12 := T11.below (B := 0) b12
    have k12 : ¬ (1 + 2 * ((frA r ss x y).length : Int) < 0) := by omega
    clear P11 T11 b12 B11
    go_wp2_with fail
    with_reducible refine (lawToSpans _ _ _ _ (HZ.out.below (B := 0) B12) hl2).mono ?_
    rintro e w13 ⟨rfl, Z13, b13, _⟩
    go_wp2_with fail
    with_reducible refine (implFree _ _ _ _ _ _ Z13 hl2 r HR.out).mono ?_
    rintro e w14 ⟨⟨v2, rfl, O2⟩, b14⟩
    obtain ⟨a2, q2, rfl⟩ := O2.shape0
    have b134 := bstep b13 b14
    have B14 := bstep B12 b134
    have P14 := P12.on b134
    have T14 := T12.below (B := 0) b134
    clear P12 T12 b13 b14 b134 B12 Z13
    go_wp2_with fail
    with_reducible refine (lawEqSpans _ _ _ _ _ _ O2.isT.1 P14.isT.1 lm).mono ?_
    rintro e w15 ⟨rfl, b15⟩
    have B15 := bstep B14 b15
    have T15 := T14.below (B := 0) b15
    clear P14 O2 T14 b15 B14
    go_wp2_with fail
    with_reducible refine (lawHeldSpans _ _ _ _ _ T15 lm4 (by omega) (by omega)).mono ?_
    rintro e w16 ⟨rfl, b16⟩
    have B16 := bstep B15 b16
    clear T15 b16 B15
    go_wp2
    go_ret
    exact ⟨rfl, B16⟩
  · have hv : szs ss.length = -1 := if_neg hl
    rw [hv]
    go_wp2
    go_ret
    exact ⟨rfl, b1⟩
end Go.Proofs.Ytkbgbccehijckaa
