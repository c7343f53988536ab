/- FnExactTimeGet: the law's own walk. -/
import Derived.Test.YtbbbmdidmnhpmaaDoorTt
namespace Go.Proofs.YtbbbmdidmnhpmaaDoor
open Go.RowKit
set_option linter.unusedVariables false
theorem tgV_form (s : ByteArray) : ∃ (n : Int) (r : Bool), tgV s = .tuple #[.int .i64 n, .bool r] := by
  cases h : tgB s with
  | true => exact ⟨_, _, tgV_yes h⟩
  | false => exact ⟨_, _, tgV_no h⟩
set_option maxHeartbeats 4000000 in
theorem lawExTimeGet (s : ByteArray) (w : World) (hs : s.size ≤ maxLen) (ht : Tab w) :
    Calls Tryd.prog 8 #[.string s] w fun e w' => e = .returned (.bool true) ∧ Below w.heap.size w w' := by
  unfold maxLen at hs
  by_cases hb : s.size ≤ 1048576
  · obtain ⟨n, r, hv⟩ := tgV_form s
    have HV : Hid (tgV s = .tuple #[.int .i64 n, .bool r]) := hv
    have HT : Hid (Tab w) := ht
    clear hv ht
    go_enter Tryd.func8, Tryd.ntmps8
    go_wp2_with fail
    refine (specTimeGet s _ hb).mono ?_
    rintro e w1 ⟨rfl, b1⟩
    rw [HV.out]
    go_wp2_with fail
    refine (implTimeGet s _ hb (HT.out.on b1)).mono ?_
    rintro e w2 ⟨rfl, b2⟩
    rw [HV.out]
    have B := bstep b1 b2
    cases r <;> (go_wp2; go_ret; exact ⟨rfl, B⟩)
  · have hb1 : (1048576 : Int) < (s.size : Int) := by omega
    go_enter Tryd.func8, Tryd.ntmps8
    go_wp2
    go_ret
    exact ⟨rfl, Below.refl _ _⟩
end Go.Proofs.YtbbbmdidmnhpmaaDoor
