/- FnExactSpansLess: the law's own walk. -/
import Derived.Test.YtkbgbccehijckaaYd
import Derived.Test.YtkbgbccehijckaaYe
namespace Go.Proofs.Ytkbgbccehijckaa
open Go.RowKit
set_option linter.unusedVariables false
set_option maxRecDepth 100000 in
set_option maxHeartbeats 16000000 in
theorem lawExSpansLess (a : Option Addr) (cap : Nat) (ss : List (Int × Int)) (a' : Option Addr) (cap' : Nat) (tt : List (Int × Int)) (w : World) (hw : ss.length ≤ maxLen) (h : IsTurns w a ss) (hw' : tt.length ≤ maxLen) (h' : IsTurns w a' tt) :
    Calls Try.prog 9 #[.slice a ss.length cap, .slice a' tt.length cap'] w fun e w' => e = .returned (.bool true) ∧ Below w.heap.size w w' := by
  have HZ : Hid (IsTurns w a ss) := h
  have HY : Hid (IsTurns w a' tt) := h'
  obtain ⟨r, hr⟩ := sp_dec ss
  obtain ⟨q, hq⟩ := sp_dec tt
  have HR : Hid (r = true ↔ SpOk ss) := hr
  have HQ : Hid (q = true ↔ SpOk tt) := hq
  have lm := lessA_len ss tt r q hr hq
  clear h h' hr hq
  go_enter Try.func9, Try.ntmps9
  go_wp2_with fail
  with_reducible refine (lawSzSpans _ _ _ _ hw).mono ?_
  rintro e w1 ⟨rfl, b1⟩
  by_cases hl : ss.length ≤ 1048576
  · have hv : szs ss.length = 1048576 - (ss.length : Int) := if_pos hl
    rw [hv]
    have hl2 : ss.length ≤ 2000000 := by omega
    clear hv
    go_wp2_with fail
    with_reducible refine (lawSzSpansAt _ _ _ _ _ hw' (by omega) (by omega)).mono ?_
    rintro e w2 ⟨rfl, b2⟩
    have B2 := bstep b1 b2
    clear b1 b2
    by_cases hk : (tt.length : Int) ≤ 1048576 - (ss.length : Int)
    · rw [if_pos hk]
      have hk2 : tt.length ≤ 2000000 := by omega
      clear hw hw'
      go_wp2_with fail
      with_reducible refine (lawToSpans _ _ _ _ (HZ.out.below (B := 0) B2) hl2).mono ?_
      rintro e w3 ⟨rfl, Z3, b3, _⟩
      have B3 := bstep B2 b3
      go_wp2_with fail
      with_reducible refine (lawToSpans _ _ _ _ (HY.out.below (B := 0) B3) hk2).mono ?_
      rintro e w4 ⟨rfl, Y4, b4, _⟩
      have B4 := bstep B3 b4
      have Z4 := Z3.below (B := 0) b4
      go_wp2_with fail
      with_reducible refine (specSpansLess _ _ _ _ _ _ _ Z4 Y4 hl2 hk2 r q HR.out HQ.out).mono ?_
      rintro e w5 ⟨⟨v0, rfl, O5⟩, b5⟩
      have B5 := bstep B4 b5
      obtain ⟨a0, q0, rfl⟩ := O5.shape0
      clear B2 B3 B4 Z3 Z4 Y4 b3 b4 b5
      go_wp2_with fail
      with_reducible refine (lawToSpans _ _ _ _ (HZ.out.below (B := 0) B5) hl2).mono ?_
      rintro e w6 ⟨rfl, Z6, b6, F6⟩
      have B6 := bstep B5 b6
      have O6 := O5.on b6
      go_wp2_with fail
      with_reducible refine (lawToSpans _ _ _ _ (HY.out.below (B := 0) B6) hk2).mono ?_
      rintro e w7 ⟨rfl, Z7, b7, F7⟩
      have B7 := bstep B6 b7
      have Z67 := Z6.below (B := 0) b7
      have F67 := F6.below b7
      have O7 := O6.on b7
      go_wp2_with fail
      with_reducible refine (implSpansLess _ _ _ _ _ _ _ Z67 Z7 hl2 hk2 r q HR.out HQ.out).mono ?_
      rintro e w8 ⟨⟨v1, rfl, O8⟩, b8⟩
      obtain ⟨a1, q1, rfl⟩ := O8.shape0
      have K8 : LB w w7.heap.size w5.heap.size w6.heap.size (.slice a0 (lessA r q ss tt).length q0) (.slice a1 (lessA r q ss tt).length q1) (lessA r q ss tt) ss tt w8 := ⟨bstep B7 b8, O7.on b8 |>.base (Nat.zero_le _), O8, Z67.below (B := 0) b8, Z7.below (B := 0) b8, F67.below b8, F7.below b8⟩
      have HL0 : Hid (∀ k, (Value.slice a0 (lessA r q ss tt).length q0).ownBlock = some k → k < w5.heap.size) := fun k hk => (World.ownsRow.lt O5 k hk).2
      have HL1 : Hid (∀ k, (Value.slice a1 (lessA r q ss tt).length q1).ownBlock = some k → w7.heap.size ≤ k) := fun k hk => (World.ownsRow.lt O8 k hk).1
      have HSZ : Hid (w.heap.size ≤ w5.heap.size ∧ w5.heap.size < w6.heap.size ∧ w6.heap.size < w7.heap.size) := ⟨B5.size, F6.lt, F7.lt⟩
      generalize w5.heap.size = n5 at *
      generalize w6.heap.size = n6 at *
      generalize w7.heap.size = n7 at *
      clear B5 B6 B7 O5 O6 O7 O8 Z6 Z7 Z67 F6 F7 F67 b6 b7 b8
      go_wp2_with fail
      with_reducible refine (lawEqSpans _ _ _ _ _ _ K8.o1.isT.1 K8.o0.isT.1 lm).mono ?_
      rintro e w9 ⟨rfl, b9⟩
      have K9 := K8.on b9
      clear K8 b9
      go_wp2_with fail
      with_reducible refine (lawToSpans _ _ _ _ (HZ.out.below (B := 0) K9.bel) hl2).mono ?_
      rintro e w10 ⟨rfl, Z10, b10, _⟩
      have K10 := K9.on b10
      clear K9 b10
      go_wp2_with fail
      with_reducible refine (lawEqSpans _ _ _ _ _ _ K10.z0 Z10 hl2).mono ?_
      rintro e w11 ⟨rfl, b11⟩
      have K11 := K10.on b11
      clear K10 Z10 b11
      go_wp2_with fail
      with_reducible refine (lawToSpans _ _ _ _ (HY.out.below (B := 0) K11.bel) hk2).mono ?_
      rintro e w12 ⟨rfl, Z12, b12, _⟩
      have K12 := K11.on b12
      clear K11 b12
      go_wp2_with fail
      with_reducible refine (lawEqSpans _ _ _ _ _ _ K12.z1 Z12 hk2).mono ?_
      rintro e w13 ⟨rfl, b13⟩
      have K13 := K12.on b13
      clear K12 Z12 b13
      go_wp2_with fail
      with_reducible refine (lawMarkSpans _ _ _ _ _ K13.f0 (by omega) (by omega) (by omega)).mono ?_
      rintro e w14 ⟨rfl, _, G14⟩
      have K14 := K13.marked0 G14 HL0.out HL1.out HSZ.out
      clear K13 G14
      go_wp2_with fail
      with_reducible refine (lawMarkSpans _ _ _ _ _ K14.f1 (by omega) (by omega) (by omega)).mono ?_
      rintro e w15 ⟨rfl, _, G15⟩
      have K15 := K14.marked1 G15 HL0.out HL1.out HSZ.out
      have k15 : ¬ (1 + 2 * (ss.length : Int) + 2 * (tt.length : Int) < 0) := by omega
      clear K14 G15
      go_wp2_with fail
      with_reducible refine (lawEqSpans _ _ _ _ _ _ K15.o1.isT.1 K15.o0.isT.1 lm).mono ?_
      rintro e w16 ⟨rfl, b16⟩
      have K16 := K15.on b16
      clear K15 b16
      go_wp2_with fail
      with_reducible refine (lawMarkOwn _ _ _ _ _ _ K16.o1 (by omega) (by omega) (by omega)).mono ?_
      rintro e w17 ⟨rfl, M17, G17⟩
      have B17 := K16.bel.trans (grown_below G17 K16.bel.size (fun k hk => by have := HL1.out k hk; have := HSZ.out; omega))
      have P17 := K16.o0.grown G17 (fun k hk e => by have := HL0.out k hk; have := HL1.out k e.symm; have := HSZ.out; omega)
      have T17 := M17 _ _ _ rfl
      clear K16 G17 M17
      go_wp2_with fail
      with_reducible refine (lawHeldSpans _ _ _ _ _ T17 (by omega) (by omega) (by omega)).mono ?_
      rintro e w18 ⟨rfl, b18⟩
      have B18 := bstep B17 b18
      have P18 := P17.on b18
      have T18 := T17.below (B := 0) b18
      have k18 : ¬ (1 + 2 * ((lessA r q ss tt).length : Int) < 0) := by omega
      clear P17 T17 b18 B17
      go_wp2_with fail
      with_reducible refine (lawToSpans _ _ _ _ (HZ.out.below (B := 0) B18) hl2).mono ?_
      rintro e w19 ⟨rfl, Z19, b19, _⟩
      have B19 := bstep B18 b19
      go_wp2_with fail
      with_reducible refine (lawToSpans _ _ _ _ (HY.out.below (B := 0) B19) hk2).mono ?_
      rintro e w20 ⟨rfl, Z20, b20, _⟩
      have Z190 := Z19.below (B := 0) b20
      go_wp2_with fail
      with_reducible refine (implSpansLess _ _ _ _ _ _ _ Z190 Z20 hl2 hk2 r q HR.out HQ.out).mono ?_
      rintro e w21 ⟨⟨v2, rfl, O2⟩, b21⟩
      obtain ⟨a2, q2, rfl⟩ := O2.shape0
      have b189 := bstep (bstep b19 b20) b21
      have B21 := bstep B18 b189
      have P21 := P18.on b189
      have T21 := T18.below (B := 0) b189
      clear P18 T18 b19 b20 b21 b189 B18 B19 Z19 Z20 Z190
      go_wp2_with fail
      with_reducible refine (lawEqSpans _ _ _ _ _ _ O2.isT.1 P21.isT.1 lm).mono ?_
      rintro e w22 ⟨rfl, b22⟩
      have B22 := bstep B21 b22
      have T22 := T21.below (B := 0) b22
      clear P21 O2 T21 b22 B21
      go_wp2_with fail
      with_reducible refine (lawHeldSpans _ _ _ _ _ T22 (by omega) (by omega) (by omega)).mono ?_
      rintro e w23 ⟨rfl, b23⟩
      have B23 := bstep B22 b23
      clear T22 b23 B22
      go_wp2
      go_ret
      exact ⟨rfl, B23⟩
    · rw [if_neg hk]
      go_wp2
      go_ret
      exact ⟨rfl, B2⟩
  · have hv : szs ss.length = -1 := if_neg hl
    rw [hv]
    go_wp2
    go_ret
    exact ⟨rfl, b1⟩
end Go.Proofs.Ytkbgbccehijckaa
