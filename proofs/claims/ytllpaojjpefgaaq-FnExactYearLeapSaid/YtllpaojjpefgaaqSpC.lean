/- The specification's small functions of the calendar: what each answers. -/
import Derived.Test.YtllpaojjpefgaaqBs
import Derived.Test.YtllpaojjpefgaaqCal
import Derived.WalkKit
import Derived.WalkLawsBesides
import Derived.Below
import Derived.Outline
namespace Go.Proofs.Ytllpaojjpefgaaq
open Go.RowKit
set_option linter.unusedVariables false

set_option maxHeartbeats 400000 in
theorem specLeap (y : Int) (w : World) (h0 : 0 ≤ y) (h1 : y ≤ 20000) :
    Calls Try.prog 10 #[.int .i64 y] w fun e w' => e = .returned (.bool (lpB y)) ∧ w' = w := by
  by_cases a : y % 4 = 0
  · by_cases b : y % 100 = 0
    · by_cases c : y % 400 = 0
      · have hl : lpB y = true := (lpB_iff y).2 (by omega)
        go_enter Try.func10, Try.ntmps10
        go_wp2
        go_ret
        exact ⟨ret_b (by first | (rw [hl]; done) | (rw [hl]; simp; done) | (rw [hl]; simp; omega)), rfl⟩
      · have hl : lpB y = false := (lpB_not y).2 (by omega)
        go_enter Try.func10, Try.ntmps10
        go_wp2
        go_ret
        exact ⟨ret_b (by first | (rw [hl]; done) | (rw [hl]; simp; done) | (rw [hl]; simp; omega)), rfl⟩
    · have hl : lpB y = true := (lpB_iff y).2 (by omega)
      go_enter Try.func10, Try.ntmps10
      go_wp2
      go_ret
      exact ⟨ret_b (by first | (rw [hl]; done) | (rw [hl]; simp; done) | (rw [hl]; simp; omega)), rfl⟩
  · have hl : lpB y = false := (lpB_not y).2 (by omega)
    go_enter Try.func10, Try.ntmps10
    go_wp2
    go_ret
    exact ⟨ret_b (by first | (rw [hl]; done) | (rw [hl]; simp; done) | (rw [hl]; simp; omega)), rfl⟩
end Go.Proofs.Ytllpaojjpefgaaq
