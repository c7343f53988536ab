/- FnFree: the law's own walk. -/
import Derived.Test.YtkbgbccehijckaaDv
import Derived.Test.YtkbgbccehijckaaCb
namespace Go.Proofs.Ytkbgbccehijckaa
open Go.RowKit
set_option linter.unusedVariables false
/-- What the law asks, in plain numbers. -/
theorem free_law {ss : List (Int × Int)} {x y : Int} (ok : SpOk ss) (hx : 0 ≤ x ∧ x ≤ 255) (hy : y ≤ 600) (hxy : x ≤ y) (l7 : ss.length ≤ 7) (t : Int) :
    SpOk (freeS ss x y) ∧ SpOk (freeS (freeS ss x y) x y) ∧ inL (freeS ss x y) t = ((decide (x ≤ t) && decide (t < y)) && !inL ss t) ∧ szU (freeS ss x y) (freeS ss x y).length + szU (freeS (freeS ss x y) x y) (freeS (freeS ss x y) x y).length = y - x := by
  have can := can_of_ok ok
  obtain ⟨fc, _⟩ := freeS_holds ss x y can
  obtain ⟨gc, _⟩ := freeS_holds (freeS ss x y) x y fc
  have fb := free_bd ss x y
  have gb := free_bd (freeS ss x y) x y
  have fl := free_len ss x y
  have gl := free_len (freeS ss x y) x y
  refine ⟨ok_of_can fc (fun s hs => by have := fb s hs; omega) (by omega), ok_of_can gc (fun s hs => by have := gb s hs; omega) (by omega), free_in ss x y t can, ?_⟩
  rw [szU_all, szU_all]
  exact free_sum _ x y fc fb hxy
set_option maxRecDepth 100000 in
set_option maxHeartbeats 8000000 in
theorem lawFree (a : Option Addr) (len cap : Nat) (a' : Option Addr) (len' cap' : Nat) (w : World) (h : IsCode w a len cap) (h' : IsCode w a' len' cap') :
    Calls Try.prog 5 #[.slice a len cap, .slice a' len' cap'] w fun e w' => e = .returned (.bool true) ∧ Below w.heap.size w w' := by
  have hlen := h.1
  have hlen' := h'.1
  clear h'
  by_cases hl : (len : Int) > 1048576
  · go_enter Try.func5, Try.ntmps5
    go_wp2
    go_ret
    exact ⟨rfl, Below.refl _ _⟩
  · by_cases hl' : (len' : Int) > 1048576
    · go_enter Try.func5, Try.ntmps5
      go_wp2
      go_ret
      exact ⟨rfl, Below.refl _ _⟩
    · go_enter Try.func5, Try.ntmps5
      go_wp2_with fail
      refine (drawFree w a len cap h).mono ?_
      rintro e w1 ⟨v, x, y, rfl, xb, yb, ss, D, l7⟩
      obtain ⟨va, vc, rfl⟩ := D.own.shape0
      obtain ⟨r, hr⟩ := sp_dec ss
      have HR : Hid (r = true ↔ SpOk ss) := hr
      have HT : Hid (IsTurns w1 va ss) := D.own.isT.1
      have B1 := D.bel
      have l2 : ss.length ≤ 2000000 := by omega
      have lf : (frA r ss x y).length ≤ 2000000 := by have := frA_len r ss x y; omega
      clear D hr h
      go_wp2_with fail
      with_reducible refine (implFree _ _ _ _ _ _ HT.out l2 r HR.out).mono ?_
      rintro e w2 ⟨⟨v2, rfl, O2⟩, b2⟩
      obtain ⟨fa, fc, rfl⟩ := O2.shape0
      have HF2 : Hid (IsTurns w2 fa (frA r ss x y)) := O2.isT.1
      clear O2
      go_wp2_with fail
      with_reducible refine (specFree _ _ _ _ _ _ (HT.out.below (B := 0) b2) l2 r HR.out).mono ?_
      rintro e w3 ⟨⟨v3, rfl, O3⟩, b3⟩
      obtain ⟨ga, gc, rfl⟩ := O3.shape0
      go_wp2_with fail
      with_reducible refine (lawEpSpans _ _ _ _ _ _ _ (HF2.out.below (B := 0) b3) O3.isT.1 lf lf true (decide_eq_true rfl)).mono ?_
      rintro e w4 ⟨rfl, b4⟩
      have b24 := bstep b3 b4
      have b14 := bstep b2 b24
      have HF4 : Hid (IsTurns w4 fa (frA r ss x y)) := HF2.out.below (B := 0) b24
      have HT4 : Hid (IsTurns w4 va ss) := HT.out.below (B := 0) b14
      have B4 := bstep B1 b14
      clear b2 b3 b4 b24 b14 O3 HF2 HT B1
      have again : ∀ w5 : World, Below w4.heap.size w4 w5 → ∀ cc, Calls Try.prog 14 #[.slice va ss.length cc, .int .i64 x, .int .i64 y] w5 fun e w' => (∃ v, e = .returned v ∧ OP w' w5.heap.size 51 v (frA r ss x y)) ∧ Below w5.heap.size w5 w' := fun w5 b cc => specFree _ _ _ _ _ _ (HT4.out.below (B := 0) b) l2 r HR.out
      go_wp2_with fail
      with_reducible refine (specSpansOk _ _ _ _ HT4.out l2 r HR.out).mono ?_
      rintro e w5 ⟨rfl, b5⟩
      by_cases hg : r = true ∧ x ≤ y
      · obtain ⟨rfl, hxy⟩ := hg
        have ok := HR.out.1 rfl
        have x0 : ¬ x < 0 := by omega
        have y0 : ¬ y < x := by omega
        have hf : frB true x y = true := frB_iff.2 ⟨rfl, (ti_iff _).2 (by omega), (ti_iff _).2 (by omega), hxy⟩
        have HFA : Hid (frA true ss x y = freeS ss x y) := frA_yes hf
        have HF5 := HF4.out.below (B := 0) b5
        have HT5 : Hid (IsTurns w5 va ss) := HT4.out.below (B := 0) b5
        have B5 := bstep B4 b5
        have LAW := fun t => free_law ok xb yb.2 hxy l7 t
        rw [HFA.out] at HF5 lf ⊢
        have lfl := free_len ss x y
        have HF6 : Hid (IsTurns w5 fa (freeS ss x y)) := HF5
        have HLAW : Hid (∀ t, SpOk (freeS ss x y) ∧ SpOk (freeS (freeS ss x y) x y) ∧ inL (freeS ss x y) t = ((decide (x ≤ t) && decide (t < y)) && !inL ss t) ∧ szU (freeS ss x y) (freeS ss x y).length + szU (freeS (freeS ss x y) x y) (freeS (freeS ss x y) x y).length = y - x) := LAW
        have HFF : Hid (frA true (freeS ss x y) x y = freeS (freeS ss x y) x y) := frA_yes hf
        clear LAW HF5 HT4 HF4 again b5 B4 ok hf
        go_wp2_with fail
        with_reducible refine (implFree _ _ _ _ _ _ HF6.out lf true ⟨fun _ => (HLAW.out 0).1, fun _ => rfl⟩).mono ?_
        rintro e w6 ⟨⟨v6, rfl, O6⟩, b6⟩
        rw [HFF.out] at O6
        obtain ⟨ka, kc, rfl⟩ := O6.shape0
        have lk := free_len (freeS ss x y) x y
        have HK : Hid (IsTurns w6 ka (freeS (freeS ss x y) x y)) := O6.isT.1
        clear O6
        have t0 : 0 ≤ (len' : Int) % 600 := by omega
        by_cases hx1 : x ≤ (len' : Int) % 600
        · by_cases hy1 : (len' : Int) % 600 < y
          · cases hq : inL ss ((len' : Int) % 600) with
            | true =>
              have HV : Hid (inL (freeS ss x y) ((len' : Int) % 600) = false) := by unfold Hid; rw [(HLAW.out _).2.2.1, hq]; simp
              go_wp2_with fail
              with_reducible refine (implSpansOk _ _ _ _ (HF6.out.below (B := 0) b6) lf true ⟨fun _ => (HLAW.out 0).1, fun _ => rfl⟩).mono ?_
              rintro e w7 ⟨rfl, b7⟩
              have b67 := bstep b6 b7
              go_wp2_with fail
              with_reducible refine (lawEpIn _ _ _ _ _ (HF6.out.below (B := 0) b67) lf false HV.out).mono ?_
              rintro e w8 ⟨rfl, b8⟩
              have b68 := bstep b67 b8
              have bk8 := bstep b7 b8
              go_wp2_with fail
              with_reducible refine (lawEpIn _ _ _ _ _ (HT5.out.below (B := 0) b68) l2 true hq).mono ?_
              rintro e w9 ⟨rfl, b9⟩
              have B69 := bstep b68 b9
              have b69 := bstep bk8 b9
              clear b6 b7 b8 b9 b67 b68 bk8 HV hq
              have z1 : Hid (szE (freeS ss x y) true = szU (freeS ss x y) (freeS ss x y).length) := if_pos rfl
              have z2 : Hid (szE (freeS (freeS ss x y) x y) true = szU (freeS (freeS ss x y) x y) (freeS (freeS ss x y) x y).length) := if_pos rfl
              have zb1 := szU_bd (freeS ss x y) (fun i hi => ((HLAW.out 0).1.2 i hi).1) _ (Nat.le_refl _)
              have zb2 := szU_bd (freeS (freeS ss x y) x y) (fun i hi => ((HLAW.out 0).2.1.2 i hi).1) _ (Nat.le_refl _)
              have zs := (HLAW.out 0).2.2.2
              have F9 := HF6.out.below (B := 0) B69
              have K9 := HK.out.below (B := 0) b69
              go_wp2_with fail
              with_reducible refine (implSpanSize _ _ _ _ F9 lf true ⟨fun _ => (HLAW.out 0).1, fun _ => rfl⟩).mono ?_
              rintro e w10 ⟨rfl, b10⟩
              rw [z1.out]
              go_wp2_with fail
              with_reducible refine (implSpanSize _ _ _ _ (K9.below (B := 0) b10) (by omega) true ⟨fun _ => (HLAW.out 0).2.1, fun _ => rfl⟩).mono ?_
              rintro e w11 ⟨rfl, b11⟩
              rw [z2.out]
              have B11 := bstep B5 (bstep B69 (bstep b10 b11))
              clear b10 b11 F9 K9 HK HF6 HT5 HLAW z1 z2 b69 B69
              generalize szU (freeS ss x y) (freeS ss x y).length = Z1 at zb1 zs ⊢
              generalize szU (freeS (freeS ss x y) x y) (freeS (freeS ss x y) x y).length = Z2 at zb2 zs ⊢
              have g1 := IntWalk.i64_in (Z1 + Z2) (by omega)
              have g2 := IntWalk.i64_in (y - x) (by omega)
              go_wp2
              go_ret
              exact ⟨by first | rfl | (simp [zs]; done), B11⟩
            | false =>
              have HV : Hid (inL (freeS ss x y) ((len' : Int) % 600) = true) := by unfold Hid; rw [(HLAW.out _).2.2.1, hq]; simp [hx1, hy1]
              go_wp2_with fail
              with_reducible refine (implSpansOk _ _ _ _ (HF6.out.below (B := 0) b6) lf true ⟨fun _ => (HLAW.out 0).1, fun _ => rfl⟩).mono ?_
              rintro e w7 ⟨rfl, b7⟩
              have b67 := bstep b6 b7
              go_wp2_with fail
              with_reducible refine (lawEpIn _ _ _ _ _ (HF6.out.below (B := 0) b67) lf true HV.out).mono ?_
              rintro e w8 ⟨rfl, b8⟩
              have b68 := bstep b67 b8
              have bk8 := bstep b7 b8
              go_wp2_with fail
              with_reducible refine (lawEpIn _ _ _ _ _ (HT5.out.below (B := 0) b68) l2 false hq).mono ?_
              rintro e w9 ⟨rfl, b9⟩
              have B69 := bstep b68 b9
              have b69 := bstep bk8 b9
              clear b6 b7 b8 b9 b67 b68 bk8 HV hq
              have z1 : Hid (szE (freeS ss x y) true = szU (freeS ss x y) (freeS ss x y).length) := if_pos rfl
              have z2 : Hid (szE (freeS (freeS ss x y) x y) true = szU (freeS (freeS ss x y) x y) (freeS (freeS ss x y) x y).length) := if_pos rfl
              have zb1 := szU_bd (freeS ss x y) (fun i hi => ((HLAW.out 0).1.2 i hi).1) _ (Nat.le_refl _)
              have zb2 := szU_bd (freeS (freeS ss x y) x y) (fun i hi => ((HLAW.out 0).2.1.2 i hi).1) _ (Nat.le_refl _)
              have zs := (HLAW.out 0).2.2.2
              have F9 := HF6.out.below (B := 0) B69
              have K9 := HK.out.below (B := 0) b69
              go_wp2_with fail
              with_reducible refine (implSpanSize _ _ _ _ F9 lf true ⟨fun _ => (HLAW.out 0).1, fun _ => rfl⟩).mono ?_
              rintro e w10 ⟨rfl, b10⟩
              rw [z1.out]
              go_wp2_with fail
              with_reducible refine (implSpanSize _ _ _ _ (K9.below (B := 0) b10) (by omega) true ⟨fun _ => (HLAW.out 0).2.1, fun _ => rfl⟩).mono ?_
              rintro e w11 ⟨rfl, b11⟩
              rw [z2.out]
              have B11 := bstep B5 (bstep B69 (bstep b10 b11))
              clear b10 b11 F9 K9 HK HF6 HT5 HLAW z1 z2 b69 B69
              generalize szU (freeS ss x y) (freeS ss x y).length = Z1 at zb1 zs ⊢
              generalize szU (freeS (freeS ss x y) x y) (freeS (freeS ss x y) x y).length = Z2 at zb2 zs ⊢
              have g1 := IntWalk.i64_in (Z1 + Z2) (by omega)
              have g2 := IntWalk.i64_in (y - x) (by omega)
              go_wp2
              go_ret
              exact ⟨by first | rfl | (simp [zs]; done), B11⟩
          · have HV : Hid (inL (freeS ss x y) ((len' : Int) % 600) = false) := by unfold Hid; rw [(HLAW.out _).2.2.1]; simp [hy1]
            go_wp2_with fail
            with_reducible refine (implSpansOk _ _ _ _ (HF6.out.below (B := 0) b6) lf true ⟨fun _ => (HLAW.out 0).1, fun _ => rfl⟩).mono ?_
            rintro e w7 ⟨rfl, b7⟩
            have b67 := bstep b6 b7
            go_wp2_with fail
            with_reducible refine (lawEpIn _ _ _ _ _ (HF6.out.below (B := 0) b67) lf false HV.out).mono ?_
            rintro e w8 ⟨rfl, b8⟩
            have b68 := bstep b67 b8
            have bk8 := bstep b7 b8
            have B69 := b68
            have b69 := bk8
            clear b6 b7 b8 b67 b68 bk8 HV
            have z1 : Hid (szE (freeS ss x y) true = szU (freeS ss x y) (freeS ss x y).length) := if_pos rfl
            have z2 : Hid (szE (freeS (freeS ss x y) x y) true = szU (freeS (freeS ss x y) x y) (freeS (freeS ss x y) x y).length) := if_pos rfl
            have zb1 := szU_bd (freeS ss x y) (fun i hi => ((HLAW.out 0).1.2 i hi).1) _ (Nat.le_refl _)
            have zb2 := szU_bd (freeS (freeS ss x y) x y) (fun i hi => ((HLAW.out 0).2.1.2 i hi).1) _ (Nat.le_refl _)
            have zs := (HLAW.out 0).2.2.2
            have F9 := HF6.out.below (B := 0) B69
            have K9 := HK.out.below (B := 0) b69
            go_wp2_with fail
            with_reducible refine (implSpanSize _ _ _ _ F9 lf true ⟨fun _ => (HLAW.out 0).1, fun _ => rfl⟩).mono ?_
            rintro e w10 ⟨rfl, b10⟩
            rw [z1.out]
            go_wp2_with fail
            with_reducible refine (implSpanSize _ _ _ _ (K9.below (B := 0) b10) (by omega) true ⟨fun _ => (HLAW.out 0).2.1, fun _ => rfl⟩).mono ?_
            rintro e w11 ⟨rfl, b11⟩
            rw [z2.out]
            have B11 := bstep B5 (bstep B69 (bstep b10 b11))
            clear b10 b11 F9 K9 HK HF6 HT5 HLAW z1 z2 b69 B69
            generalize szU (freeS ss x y) (freeS ss x y).length = Z1 at zb1 zs ⊢
            generalize szU (freeS (freeS ss x y) x y) (freeS (freeS ss x y) x y).length = Z2 at zb2 zs ⊢
            have g1 := IntWalk.i64_in (Z1 + Z2) (by omega)
            have g2 := IntWalk.i64_in (y - x) (by omega)
            go_wp2
            go_ret
            exact ⟨by first | rfl | (simp [zs]; done), B11⟩
        · have HV : Hid (inL (freeS ss x y) ((len' : Int) % 600) = false) := by unfold Hid; rw [(HLAW.out _).2.2.1]; simp [hx1]
          go_wp2_with fail
          with_reducible refine (implSpansOk _ _ _ _ (HF6.out.below (B := 0) b6) lf true ⟨fun _ => (HLAW.out 0).1, fun _ => rfl⟩).mono ?_
          rintro e w7 ⟨rfl, b7⟩
          have b67 := bstep b6 b7
          go_wp2_with fail
          with_reducible refine (lawEpIn _ _ _ _ _ (HF6.out.below (B := 0) b67) lf false HV.out).mono ?_
          rintro e w8 ⟨rfl, b8⟩
          have b68 := bstep b67 b8
          have bk8 := bstep b7 b8
          have B69 := b68
          have b69 := bk8
          clear b6 b7 b8 b67 b68 bk8 HV
          have z1 : Hid (szE (freeS ss x y) true = szU (freeS ss x y) (freeS ss x y).length) := if_pos rfl
          have z2 : Hid (szE (freeS (freeS ss x y) x y) true = szU (freeS (freeS ss x y) x y) (freeS (freeS ss x y) x y).length) := if_pos rfl
          have zb1 := szU_bd (freeS ss x y) (fun i hi => ((HLAW.out 0).1.2 i hi).1) _ (Nat.le_refl _)
          have zb2 := szU_bd (freeS (freeS ss x y) x y) (fun i hi => ((HLAW.out 0).2.1.2 i hi).1) _ (Nat.le_refl _)
          have zs := (HLAW.out 0).2.2.2
          have F9 := HF6.out.below (B := 0) B69
          have K9 := HK.out.below (B := 0) b69
          go_wp2_with fail
          with_reducible refine (implSpanSize _ _ _ _ F9 lf true ⟨fun _ => (HLAW.out 0).1, fun _ => rfl⟩).mono ?_
          rintro e w10 ⟨rfl, b10⟩
          rw [z1.out]
          go_wp2_with fail
          with_reducible refine (implSpanSize _ _ _ _ (K9.below (B := 0) b10) (by omega) true ⟨fun _ => (HLAW.out 0).2.1, fun _ => rfl⟩).mono ?_
          rintro e w11 ⟨rfl, b11⟩
          rw [z2.out]
          have B11 := bstep B5 (bstep B69 (bstep b10 b11))
          clear b10 b11 F9 K9 HK HF6 HT5 HLAW z1 z2 b69 B69
          generalize szU (freeS ss x y) (freeS ss x y).length = Z1 at zb1 zs ⊢
          generalize szU (freeS (freeS ss x y) x y) (freeS (freeS ss x y) x y).length = Z2 at zb2 zs ⊢
          have g1 := IntWalk.i64_in (Z1 + Z2) (by omega)
          have g2 := IntWalk.i64_in (y - x) (by omega)
          go_wp2
          go_ret
          exact ⟨by first | rfl | (simp [zs]; done), B11⟩
      · have HN : Hid (¬ (r = true ∧ x ≤ y)) := hg
        have B5 := bstep B4 b5
        have HF5 : Hid (IsTurns w5 fa (frA r ss x y)) := HF4.out.below (B := 0) b5
        have AG := again w5 b5
        cases r with
        | false =>
          clear hg
          go_wp2_with fail
          refine (AG _).mono ?_
          rintro e w6 ⟨⟨v6, rfl, O6⟩, b6⟩
          obtain ⟨ka, kc, rfl⟩ := O6.shape0
          go_wp2_with fail
          with_reducible refine (lawEpSpans _ _ _ _ _ _ _ (HF5.out.below (B := 0) b6) O6.isT.1 lf lf true (decide_eq_true rfl)).mono ?_
          rintro e w7 ⟨rfl, b7⟩
          have B7 := bstep B5 (bstep b6 b7)
          go_wp2
          go_ret
          exact ⟨rfl, B7⟩
        | true =>
          have hyx0 : ¬ x ≤ y := fun hh => HN.out ⟨rfl, hh⟩
          have hyx : y < x := by omega
          have x0 : ¬ x < 0 := by omega
          clear hg
          go_wp2_with fail
          refine (AG _).mono ?_
          rintro e w6 ⟨⟨v6, rfl, O6⟩, b6⟩
          obtain ⟨ka, kc, rfl⟩ := O6.shape0
          go_wp2_with fail
          with_reducible refine (lawEpSpans _ _ _ _ _ _ _ (HF5.out.below (B := 0) b6) O6.isT.1 lf lf true (decide_eq_true rfl)).mono ?_
          rintro e w7 ⟨rfl, b7⟩
          have B7 := bstep B5 (bstep b6 b7)
          go_wp2
          go_ret
          exact ⟨rfl, B7⟩
end Go.Proofs.Ytkbgbccehijckaa
