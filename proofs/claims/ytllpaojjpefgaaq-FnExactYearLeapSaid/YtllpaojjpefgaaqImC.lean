/- The program's small functions of the calendar: what each answers. -/
import Derived.Test.YtllpaojjpefgaaqBs
import Derived.Test.YtllpaojjpefgaaqCal
import Derived.Deep.QuietTactic
import Derived.BigQuiet
import Derived.Outline
namespace Go.Proofs.Ytllpaojjpefgaaq
open Go.RowKit
set_option linter.unusedVariables false

def yrB (y : Int) : Bool := decide (1 ≤ y ∧ y ≤ 9999)
set_option maxHeartbeats 400000 in
theorem implLeap (y : Int) (w : World) (h0 : 0 ≤ y) (h1 : y ≤ 20000) :
    Calls Try.prog 12 #[.int .i64 y] w fun e w' => e = .returned (.bool (lpB y)) ∧ w' = w := by
  by_cases a : y % 4 = 0
  · by_cases b : y % 100 = 0
    · by_cases c : y % 400 = 0
      · have hl : lpB y = true := (lpB_iff y).2 (by omega)
        go_enter Try.func12, Try.ntmps12
        go_wp2
        go_ret
        exact ⟨ret_b (by first | (rw [hl]; done) | (rw [hl]; simp; done) | (rw [hl]; simp; omega)), rfl⟩
      · have hl : lpB y = false := (lpB_not y).2 (by omega)
        go_enter Try.func12, Try.ntmps12
        go_wp2
        go_ret
        exact ⟨ret_b (by first | (rw [hl]; done) | (rw [hl]; simp; done) | (rw [hl]; simp; omega)), rfl⟩
    · have hl : lpB y = true := (lpB_iff y).2 (by omega)
      go_enter Try.func12, Try.ntmps12
      go_wp2
      go_ret
      exact ⟨ret_b (by first | (rw [hl]; done) | (rw [hl]; simp; done) | (rw [hl]; simp; omega)), rfl⟩
  · have hl : lpB y = false := (lpB_not y).2 (by omega)
    have c : ¬ y % 400 = 0 := by omega
    go_enter Try.func12, Try.ntmps12
    go_wp2
    go_ret
    exact ⟨ret_b (by first | (rw [hl]; done) | (rw [hl]; simp; done) | (rw [hl]; simp; omega)), rfl⟩
theorem implYearLeap (y : Int) (w : World) :
    Calls Try.prog 6 #[.int .i64 y] w fun e w' => e = .returned (.bool (yrB y && lpB y)) ∧ w' = w := by
  by_cases h0 : 1 ≤ y
  · by_cases h1 : y ≤ 9999
    · have hy : yrB y = true := by unfold yrB; simp; omega
      go_enter Try.func6, Try.ntmps6
      go_wp2_with (first | (go_at_call 12; refine (implLeap _ _ (by omega) (by omega)).mono ?_; rintro e w' ⟨rfl, rfl⟩) | go_in)
      go_ret
      exact ⟨ret_b (by first | rfl | (rw [hy]; simp)), rfl⟩
    · have hy : yrB y = false := by unfold yrB; simp; omega
      go_enter Try.func6, Try.ntmps6
      go_wp2
      go_ret
      exact ⟨ret_b (by first | rfl | (rw [hy]; simp)), rfl⟩
  · have hy : yrB y = false := by unfold yrB; simp; omega
    go_enter Try.func6, Try.ntmps6
    go_wp2
    go_ret
    exact ⟨ret_b (by first | rfl | (rw [hy]; simp)), rfl⟩
def dyB (n : Int) : Bool := decide (0 ≤ n ∧ n ≤ 3652058)
theorem implIsDay (n : Int) (w : World) :
    Calls Try.prog 13 #[.int .i64 n] w fun e w' => e = .returned (.bool (dyB n)) ∧ w' = w := by
  by_cases h0 : 0 ≤ n
  · go_enter Try.func13, Try.ntmps13
    go_wp2
    go_ret
    exact ⟨ret_b (by unfold dyB; simp [h0]), rfl⟩
  · go_enter Try.func13, Try.ntmps13
    go_wp2
    go_ret
    exact ⟨ret_b (by unfold dyB; simp; omega), rfl⟩
theorem dy_yes {n : Int} (h0 : 0 ≤ n) (h1 : n ≤ 3652058) : dyB n = true := by unfold dyB; simp; omega
theorem dy_no {n : Int} (h : n < 0 ∨ 3652058 < n) : dyB n = false := by unfold dyB; simp; omega
end Go.Proofs.Ytllpaojjpefgaaq
