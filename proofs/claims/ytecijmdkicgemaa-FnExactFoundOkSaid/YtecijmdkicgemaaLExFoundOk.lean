/- FnExactFoundOk: the law's own walk. -/
import Derived.Test.YtecijmdkicgemaaFu
namespace Go.Proofs.Ytecijmdkicgemaa
open Go.RowKit
set_option linter.unusedVariables false
set_option maxRecDepth 100000 in
set_option maxHeartbeats 8000000 in
theorem lawExFoundOk (a : Option Addr) (cap : Nat) (l : List FO) (w : World) (hw : FWide l) (h : IsFo w a l) :
    Calls Try.prog 5 #[.slice a l.length cap] w fun e w' => e = .returned (.bool true) ∧ Below w.heap.size w w' := by
  have HZ : Hid (IsFo w a l) := h
  have HW : Hid (FWide l) := hw
  obtain ⟨r, hr⟩ := fok_dec l
  have HR : Hid (r = true ↔ FOk l) := hr
  clear h hr hw
  go_enter Try.func5, Try.ntmps5
  go_wp2_with fail
  with_reducible refine (lawSzFounds _ _ _ _ HZ.out HW.out).mono ?_
  rintro e w1 ⟨⟨v, rfl, hv⟩, b1⟩
  by_cases hn : v < 0
  · go_wp2
    go_ret
    exact ⟨rfl, b1⟩
  · have HS : Hid (FSmall l) := by
      rcases hv with q | q
      · exact absurd q hn
      · exact q.2
    have hl2 : l.length ≤ 2000000 := by have := HS.out.1; omega
    clear hv
    go_wp2_with fail
    with_reducible refine (lawToFounds _ _ _ _ (HZ.out.below b1) hl2).mono ?_
    rintro e w2 ⟨rfl, Z2, b2⟩
    go_wp2_with fail
    with_reducible refine (specFoundOk _ _ _ _ Z2 HS.out r HR.out).mono ?_
    rintro e w3 ⟨rfl, b3⟩
    have B3 := bstep (bstep b1 b2) b3
    clear b1 b2 b3 Z2
    go_wp2_with fail
    with_reducible refine (lawToFounds _ _ _ _ (HZ.out.below B3) hl2).mono ?_
    rintro e w4 ⟨rfl, Z4, b4⟩
    have B4 := bstep B3 b4
    clear b4 B3
    go_wp2_with fail
    with_reducible refine (implFoundOk _ _ _ _ Z4 HS.out (Nat.le_refl _) r HR.out).mono ?_
    rintro e w5 ⟨rfl, b5⟩
    have B5 := bstep B4 b5
    have Z5 := Z4.below b5
    clear b5 B4 Z4
    go_wp2_with fail
    with_reducible refine (lawToFounds _ _ _ _ (HZ.out.below B5) hl2).mono ?_
    rintro e w6 ⟨rfl, Z6, b6⟩
    have B6 := bstep B5 b6
    have Z5' := Z5.below b6
    clear b6 B5 Z5
    go_wp2_with fail
    with_reducible refine (lawEqFounds _ _ _ _ _ _ Z5' Z6 hl2).mono ?_
    rintro e w7 ⟨rfl, b7⟩
    have B7 := bstep B6 b7
    clear b7 B6 Z5' Z6
    go_wp2
    go_ret
    exact ⟨rfl, B7⟩
end Go.Proofs.Ytecijmdkicgemaa
