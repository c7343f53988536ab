/- FnExactSlotFirst: the law's own walk. -/
import Derived.Test.YtkbgbccehijckaaSo
import Derived.Test.YtkbgbccehijckaaSx
namespace Go.Proofs.Ytkbgbccehijckaa
open Go.RowKit
set_option linter.unusedVariables false
set_option maxRecDepth 100000 in
set_option maxHeartbeats 8000000 in
theorem lawExSlotFirst (a : Option Addr) (cap : Nat) (ss : List (Int × Int)) (x y n : Int) (w : World) (hw : ss.length ≤ maxLen) (h : IsTurns w a ss) :
    Calls Try.prog 4 #[.slice a ss.length cap, .int .i64 x, .int .i64 y, .int .i64 n] w fun e w' => e = .returned (.bool true) ∧ Below w.heap.size w w' := by
  have HZ : Hid (IsTurns w a ss) := h
  obtain ⟨r, hr⟩ := sp_dec ss
  have HR : Hid (r = true ↔ SpOk ss) := hr
  clear h hr
  go_enter Try.func4, Try.ntmps4
  go_wp2_with fail
  with_reducible refine (lawSzSpans _ _ _ _ hw).mono ?_
  rintro e w1 ⟨rfl, b1⟩
  by_cases hl : ss.length ≤ 1048576
  · have hv : szs ss.length = 1048576 - (ss.length : Int) := if_pos hl
    rw [hv]
    have hl2 : ss.length ≤ 2000000 := by omega
    clear hv hw
    go_wp2_with fail
    with_reducible refine (lawToSpans _ _ _ _ (HZ.out.below (B := 0) b1) hl2).mono ?_
    rintro e w2 ⟨rfl, Z2, b2, _⟩
    go_wp2_with fail
    with_reducible refine (specSlotFirst _ _ _ _ _ _ _ Z2 hl2 r HR.out).mono ?_
    rintro e w3 ⟨rfl, b3⟩
    have B3 := bstep (bstep b1 b2) b3
    clear b1 b2 b3 Z2
    go_wp2_with fail
    with_reducible refine (lawToSpans _ _ _ _ (HZ.out.below (B := 0) B3) hl2).mono ?_
    rintro e w4 ⟨rfl, Z4, b4, _⟩
    have B4 := bstep B3 b4
    clear b4
    go_wp2_with fail
    with_reducible refine (implSlotFirst _ _ _ _ _ _ _ Z4 hl2 r HR.out).mono ?_
    rintro e w5 ⟨rfl, b5⟩
    have B5 := bstep B4 b5
    have Z5 := Z4.below (B := 0) b5
    clear b5 B4 Z4
    generalize slA r ss x y n = q
    · go_wp2_with fail
      with_reducible refine (lawToSpans _ _ _ _ (HZ.out.below (B := 0) B5) hl2).mono ?_
      rintro e w6 ⟨rfl, Z6, b6, _⟩
      have B6 := bstep B5 b6
      have Z7 := Z5.below (B := 0) b6
      clear b6 B5 Z5
      go_wp2_with fail
      with_reducible refine (lawEqSpans _ _ _ _ _ _ Z7 Z6 hl2).mono ?_
      rintro e w7 ⟨rfl, b7⟩
      have B7 := bstep B6 b7
      go_wp2
      go_ret
      exact ⟨rfl, B7⟩
  · have hv : szs ss.length = -1 := if_neg hl
    rw [hv]
    go_wp2
    go_ret
    exact ⟨rfl, b1⟩
end Go.Proofs.Ytkbgbccehijckaa
