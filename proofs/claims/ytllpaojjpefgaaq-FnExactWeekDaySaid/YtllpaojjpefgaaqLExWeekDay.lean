/- FnExactWeekDay: the law's own walk. -/
import Derived.Test.YtllpaojjpefgaaqWd
namespace Go.Proofs.Ytllpaojjpefgaaq
open Go.RowKit
set_option linter.unusedVariables false
theorem lawExWeekDay (y : Int) (w : World) (h : (Lit.int .i64 y).wf = true) :
    Calls Try.prog 4 #[.int .i64 y] w fun e w' => e = .returned (.bool true) ∧ Below w.heap.size w w' := by
  go_enter Try.func4, Try.ntmps4
  go_wp2_with (first | (go_at_call 7; refine (specWeekDay _ _).mono ?_; rintro e w' ⟨rfl, rfl⟩) | (go_at_call 8; refine (implWeekDay _ _).mono ?_; rintro e w' ⟨rfl, rfl⟩))
  go_ret
  exact ⟨rfl, Below.refl _ _⟩
end Go.Proofs.Ytllpaojjpefgaaq
