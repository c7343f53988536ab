/- Rules of the program: when one is ok. -/
import Derived.Test.YtlhaldhfoeiohaaRu
namespace Go.Proofs.Ytlhaldhfoeiohaa
open Go.RowKit
set_option linter.unusedVariables false
theorem implWeekDayR (n : Int) (w : World) (r : Bool) (hr : inB n 0 6 = r) : Calls Try.prog 37 #[.int .i64 n] w fun e w' => e = .returned (.bool r) ∧ w' = w := by
  subst hr
  by_cases h0 : 0 ≤ n
  · go_enter Try.func37, Try.ntmps37
    go_wp2
    go_ret
    exact ⟨ret_b (by unfold inB; simp [h0]; omega), rfl⟩
  · go_enter Try.func37, Try.ntmps37
    go_wp2
    go_ret
    exact ⟨ret_b (by unfold inB; simp; omega), rfl⟩
end Go.Proofs.Ytlhaldhfoeiohaa
