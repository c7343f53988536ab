/- FnSlotLess: the law's own walk. -/
import Derived.Test.YtkbgbccehijckaaDv
import Derived.Test.YtkbgbccehijckaaCb
namespace Go.Proofs.Ytkbgbccehijckaa
open Go.RowKit
set_option linter.unusedVariables false
theorem slA_yes {r : Bool} {ss : List (Int × Int)} {x y n : Int} (h : 0 ≤ slA r ss x y n) : inB n 1 20160 = true ∧ frB r x y = true := by
  unfold slA at h
  cases hn : inB n 1 20160 with
  | false => rw [if_neg (by rw [hn]; exact Bool.false_ne_true)] at h; omega
  | true =>
    rw [if_pos hn] at h
    cases hf : frB r x y with
    | false => rw [frA_no hf] at h; have h' : (0 : Int) ≤ -1 := h; omega
    | true => exact ⟨rfl, rfl⟩
theorem slA_eq {r : Bool} {ss : List (Int × Int)} {x y n : Int} (h1 : inB n 1 20160 = true) (h2 : frB r x y = true) : slA r ss x y n = slR (freeS ss x y) n := by
  unfold slA; rw [if_pos h1, frA_yes h2]
theorem slot_law {r : Bool} {ss : List (Int × Int)} (hr : r = true ↔ SpOk ss) {x y n m : Int} (hm : slA r ss x y n = m) (h0 : 0 ≤ m) : x ≤ slA r ss x y 1 ∧ slA r ss x y 1 ≤ m ∧ slA r ss m y n = m := by
  subst hm
  obtain ⟨h1, h2⟩ := slA_yes h0
  obtain ⟨f1, f2, f3, f4⟩ := frB_iff.1 h2
  have ok := hr.1 f1
  have b1 := (in_iff _ _ _).1 h1
  have e := slA_eq (ss := ss) h1 h2
  obtain ⟨g1, g2, g3, g4, g5⟩ := slot_less ss x y (slA r ss x y n) n (can_of_ok ok) b1.1 e.symm h0
  have t2 := (ti_iff _).1 f3
  have t1 := (ti_iff _).1 f2
  refine ⟨?_, ?_, ?_⟩
  · rw [slA_eq (by decide) h2]; exact g1
  · rw [slA_eq (n := 1) (by decide) h2]; exact g2
  · rw [slA_eq h1 (frB_iff.2 ⟨f1, (ti_iff _).2 ⟨h0, by omega⟩, f3, by omega⟩)]; exact g3
set_option maxRecDepth 100000 in
set_option maxHeartbeats 8000000 in
theorem lawSlotLess (a : Option Addr) (len cap : Nat) (w : World) (h : IsCode w a len cap) :
    Calls Try.prog 7 #[.slice a len cap] w fun e w' => e = .returned (.bool true) ∧ Below w.heap.size w w' := by
  have hlen := h.1
  by_cases hl : (len : Int) > 1048576
  · go_enter Try.func7, Try.ntmps7
    go_wp2
    go_ret
    exact ⟨rfl, Below.refl _ _⟩
  · go_enter Try.func7, Try.ntmps7
    go_wp2_with fail
    refine (drawSlotFirst w a len cap h).mono ?_
    rintro e w1 ⟨v, x, y, n, rfl, xb, yb, nb, ss, D, l7⟩
    obtain ⟨va, vc, rfl⟩ := D.own.shape0
    obtain ⟨r, hr⟩ := sp_dec ss
    have HR : Hid (r = true ↔ SpOk ss) := hr
    have HT : Hid (IsTurns w1 va ss) := D.own.isT.1
    have B1 := D.bel
    have l2 : ss.length ≤ 2000000 := by omega
    clear D hr
    go_wp2_with fail
    with_reducible refine (implSlotFirst _ _ _ _ _ _ _ HT.out l2 r HR.out).mono ?_
    rintro e w2 ⟨rfl, b2⟩
    have HL := fun h0 => slot_law HR.out (x := x) (y := y) (n := n) rfl h0
    generalize hm : slA r ss x y n = m at HL ⊢
    have HM : Hid (slA r ss x y n = m) := hm
    have HLL : Hid (0 ≤ m → x ≤ slA r ss x y 1 ∧ slA r ss x y 1 ≤ m ∧ slA r ss m y n = m) := HL
    clear hm HL
    go_wp2_with fail
    with_reducible refine (specSlotFirst _ _ _ _ _ _ _ (HT.out.below (B := 0) b2) l2 r HR.out).mono ?_
    rintro e w3 ⟨rfl, b3⟩
    rw [HM.out]
    have b23 := bstep b2 b3
    have B3 := bstep B1 b23
    clear b2 b3
    by_cases h0 : 0 ≤ m
    · obtain ⟨k1, k2, k3⟩ := HLL.out h0
      go_wp2_with fail
      with_reducible refine (implSlotFirst _ _ _ _ _ _ _ (HT.out.below (B := 0) b23) l2 r HR.out).mono ?_
      rintro e w4 ⟨rfl, b4⟩
      have b14 := bstep b23 b4
      go_wp2_with fail
      with_reducible refine (implSlotFirst _ _ _ _ _ _ _ (HT.out.below (B := 0) b14) l2 r HR.out).mono ?_
      rintro e w5 ⟨rfl, b5⟩
      have B5 := bstep B1 (bstep b14 b5)
      rw [k3]
      clear b14 b5 b4 b23 B3 HM HLL k3
      generalize slA r ss x y 1 = q at k1 k2 ⊢
      go_wp2
      go_ret
      exact ⟨rfl, B5⟩
    · go_wp2_with fail
      with_reducible refine (specSlotFirst _ _ _ _ _ _ _ (HT.out.below (B := 0) b23) l2 r HR.out).mono ?_
      rintro e w4 ⟨rfl, b4⟩
      rw [HM.out]
      have B4 := bstep B3 b4
      clear b23 b4 HLL HM
      go_wp2
      go_ret
      exact ⟨rfl, B4⟩
end Go.Proofs.Ytkbgbccehijckaa
