/- FnExactMonthDays: the law's own walk. -/
import Derived.Test.YtllpaojjpefgaaqDoorImC
import Derived.Test.YtllpaojjpefgaaqDoorSpD
namespace Go.Proofs.YtllpaojjpefgaaqDoor
open Go.RowKit
set_option linter.unusedVariables false
theorem lawExMonthDays (y m : Int) (w : World) (h : (Lit.int .i64 y).wf = true) (h' : (Lit.int .i64 m).wf = true) (ht : Tab w) :
    Calls Tryd.prog 3 #[.int .i64 y, .int .i64 m] w fun e w' => e = .returned (.bool true) ∧ Below w.heap.size w w' := by
  have HY : Hid (mdays y m = smdays y m) := rfl
  go_enter Tryd.func3, Tryd.ntmps3
  go_wp2_with (first | (go_at_call 7; refine (specMonthDays _ _ _).mono ?_; rintro e w' ⟨rfl, rfl⟩) | (go_at_call 8; refine (implMonthDays _ _ _ ht).mono ?_; rintro e w' ⟨rfl, rfl⟩; rw [HY.out]))
  go_ret
  exact ⟨rfl, Below.refl _ _⟩
end Go.Proofs.YtllpaojjpefgaaqDoor
