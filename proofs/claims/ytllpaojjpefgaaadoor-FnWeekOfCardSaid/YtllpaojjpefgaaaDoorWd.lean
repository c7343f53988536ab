/- WeekDay of the program and of the specification answer alike at every int. -/
import Derived.Test.YtllpaojjpefgaaaDoorBs
import Derived.WalkKit
import Derived.WalkLawsBesides
import Derived.Below
namespace Go.Proofs.YtllpaojjpefgaaaDoor
open Go.RowKit
set_option linter.unusedVariables false

def wdB (d : Int) : Bool := decide (0 ≤ d ∧ d ≤ 3652058)
def wd (d : Int) : Int := if 0 ≤ d ∧ d ≤ 3652058 then d % 7 else -1
theorem wd_in {d : Int} (h0 : 0 ≤ d) (h1 : d ≤ 3652058) : wd d = d % 7 := by unfold wd; rw [if_pos ⟨h0, h1⟩]
theorem wd_out {d : Int} (h : d < 0 ∨ 3652058 < d) : wd d = -1 := by unfold wd; rw [if_neg (by omega)]

set_option maxHeartbeats 400000 in
theorem implWeekDay (d : Int) (w : World) :
    Calls Tryd.prog 25 #[.int .i64 d] w fun e w' => e = .returned (.int .i64 (wd d)) ∧ w' = w := by
  by_cases h0 : 0 ≤ d
  · by_cases h1 : d ≤ 3652058
    · go_enter Tryd.func25, Tryd.ntmps25
      go_wp2
      go_ret
      exact ⟨ret_i (wd_in h0 h1).symm, rfl⟩
    · go_enter Tryd.func25, Tryd.ntmps25
      go_wp2
      go_ret
      exact ⟨ret_i (wd_out (by omega)).symm, rfl⟩
  · go_enter Tryd.func25, Tryd.ntmps25
    go_wp2
    go_ret
    exact ⟨ret_i (wd_out (by omega)).symm, rfl⟩
end Go.Proofs.YtllpaojjpefgaaaDoor
