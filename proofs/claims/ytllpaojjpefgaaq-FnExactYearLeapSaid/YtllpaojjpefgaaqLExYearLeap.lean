/- FnExactYearLeap: the law's own walk. -/
import Derived.Test.YtllpaojjpefgaaqImC
import Derived.Test.YtllpaojjpefgaaqSpD
namespace Go.Proofs.Ytllpaojjpefgaaq
open Go.RowKit
set_option linter.unusedVariables false
theorem lawExYearLeap (y : Int) (w : World) (h : (Lit.int .i64 y).wf = true) :
    Calls Try.prog 3 #[.int .i64 y] w fun e w' => e = .returned (.bool true) ∧ Below w.heap.size w w' := by
  have hy : yrB y = inB y 1 9999 := rfl
  have HY : Hid (yrB y = inB y 1 9999) := hy
  clear hy
  go_enter Try.func3, Try.ntmps3
  go_wp2_with (first | (go_at_call 5; refine (specYearLeap _ _).mono ?_; rintro e w' ⟨rfl, rfl⟩) | (go_at_call 6; refine (implYearLeap _ _).mono ?_; rintro e w' ⟨rfl, rfl⟩; rw [HY.out]))
  go_ret
  exact ⟨rfl, Below.refl _ _⟩
end Go.Proofs.Ytllpaojjpefgaaq
