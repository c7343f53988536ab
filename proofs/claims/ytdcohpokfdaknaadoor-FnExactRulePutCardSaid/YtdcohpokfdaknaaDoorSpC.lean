/- The specification's small functions of the calendar: what each answers. -/
import Derived.Test.YtdcohpokfdaknaaDoorBs
import Derived.Test.YtdcohpokfdaknaaDoorCal
import Derived.WalkKit
import Derived.WalkLawsBesides
import Derived.Below
import Derived.Outline
namespace Go.Proofs.YtdcohpokfdaknaaDoor
open Go.RowKit
set_option linter.unusedVariables false

set_option maxHeartbeats 400000 in
theorem specLeap (y : Int) (w : World) (h0 : 0 ≤ y) (h1 : y ≤ 20000) :
    Calls Tryd.prog 67 #[.int .i64 y] w fun e w' => e = .returned (.bool (lpB y)) ∧ w' = w := by
  by_cases a : y % 4 = 0
  · by_cases b : y % 100 = 0
    · by_cases c : y % 400 = 0
      · have hl : lpB y = true := (lpB_iff y).2 (by omega)
        go_enter Tryd.func67, Tryd.ntmps67
        go_wp2
        go_ret
        exact ⟨ret_b (by first | (rw [hl]; done) | (rw [hl]; simp; done) | (rw [hl]; simp; omega)), rfl⟩
      · have hl : lpB y = false := (lpB_not y).2 (by omega)
        go_enter Tryd.func67, Tryd.ntmps67
        go_wp2
        go_ret
        exact ⟨ret_b (by first | (rw [hl]; done) | (rw [hl]; simp; done) | (rw [hl]; simp; omega)), rfl⟩
    · have hl : lpB y = true := (lpB_iff y).2 (by omega)
      go_enter Tryd.func67, Tryd.ntmps67
      go_wp2
      go_ret
      exact ⟨ret_b (by first | (rw [hl]; done) | (rw [hl]; simp; done) | (rw [hl]; simp; omega)), rfl⟩
  · have hl : lpB y = false := (lpB_not y).2 (by omega)
    go_enter Tryd.func67, Tryd.ntmps67
    go_wp2
    go_ret
    exact ⟨ret_b (by first | (rw [hl]; done) | (rw [hl]; simp; done) | (rw [hl]; simp; omega)), rfl⟩
set_option maxHeartbeats 400000 in
theorem specDays (y m : Int) (w : World) (h0 : 0 ≤ y) (h1 : y ≤ 20000) (h2 : 1 ≤ m) (h3 : m ≤ 12) :
    Calls Tryd.prog 53 #[.int .i64 y, .int .i64 m] w fun e w' => e = .returned (.int .i64 (dim y m)) ∧ w' = w := by
  rcases twelve h2 h3 with rfl | rfl | rfl | rfl | rfl | rfl | rfl | rfl | rfl | rfl | rfl | rfl
  case inr.inl =>
    cases hl : lpB y with
    | true =>
      have hd : dim y 2 = 29 := by simp [dim, lp_yes hl]
      have HD : Hid (dim y 2 = 29) := hd
      clear hd
      go_enter Tryd.func53, Tryd.ntmps53
      go_wp2_with (go_at_call 67; refine (specLeap _ _ (by omega) (by omega)).mono ?_; rintro e w' ⟨rfl, rfl⟩)
      go_ret
      exact ⟨ret_i HD.out.symm, rfl⟩
    | false =>
      have hd : dim y 2 = 28 := by simp [dim, lp_no hl]
      have HD : Hid (dim y 2 = 28) := hd
      clear hd
      go_enter Tryd.func53, Tryd.ntmps53
      go_wp2_with (go_at_call 67; refine (specLeap _ _ (by omega) (by omega)).mono ?_; rintro e w' ⟨rfl, rfl⟩)
      go_ret
      exact ⟨ret_i HD.out.symm, rfl⟩
  all_goals
    go_enter Tryd.func53, Tryd.ntmps53
    go_wp2
    go_ret
    exact ⟨ret_i (by simp [dim]), rfl⟩
set_option maxHeartbeats 400000 in
theorem specFirst (y : Int) (w : World) (h0 : 1 ≤ y) (h1 : y ≤ 20000) :
    Calls Tryd.prog 52 #[.int .i64 y] w fun e w' => e = .returned (.int .i64 (fst y)) ∧ w' = w := by
  go_enter Tryd.func52, Tryd.ntmps52
  go_wp2
  go_ret
  exact ⟨ret_i (by unfold fst; omega), rfl⟩
end Go.Proofs.YtdcohpokfdaknaaDoor
