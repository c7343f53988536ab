/- The specification's small functions of the calendar: what each answers. -/
import Derived.Test.YtlfglhpepoepcaaDoorBs
import Derived.Test.YtlfglhpepoepcaaDoorCal
import Derived.WalkKit
import Derived.WalkLawsBesides
import Derived.Below
import Derived.Outline
namespace Go.Proofs.YtlfglhpepoepcaaDoor
open Go.RowKit
set_option linter.unusedVariables false

set_option maxHeartbeats 400000 in
theorem specLeap (y : Int) (w : World) (h0 : 0 ≤ y) (h1 : y ≤ 20000) :
    Calls Tryd.prog 97 #[.int .i64 y] w fun e w' => e = .returned (.bool (lpB y)) ∧ w' = w := by
  by_cases a : y % 4 = 0
  · by_cases b : y % 100 = 0
    · by_cases c : y % 400 = 0
      · have hl : lpB y = true := (lpB_iff y).2 (by omega)
        go_enter Tryd.func97, Tryd.ntmps97
        go_wp2
        go_ret
        exact ⟨ret_b (by first | (rw [hl]; done) | (rw [hl]; simp; done) | (rw [hl]; simp; omega)), rfl⟩
      · have hl : lpB y = false := (lpB_not y).2 (by omega)
        go_enter Tryd.func97, Tryd.ntmps97
        go_wp2
        go_ret
        exact ⟨ret_b (by first | (rw [hl]; done) | (rw [hl]; simp; done) | (rw [hl]; simp; omega)), rfl⟩
    · have hl : lpB y = true := (lpB_iff y).2 (by omega)
      go_enter Tryd.func97, Tryd.ntmps97
      go_wp2
      go_ret
      exact ⟨ret_b (by first | (rw [hl]; done) | (rw [hl]; simp; done) | (rw [hl]; simp; omega)), rfl⟩
  · have hl : lpB y = false := (lpB_not y).2 (by omega)
    go_enter Tryd.func97, Tryd.ntmps97
    go_wp2
    go_ret
    exact ⟨ret_b (by first | (rw [hl]; done) | (rw [hl]; simp; done) | (rw [hl]; simp; omega)), rfl⟩
set_option maxHeartbeats 400000 in
theorem specDays (y m : Int) (w : World) (h0 : 0 ≤ y) (h1 : y ≤ 20000) (h2 : 1 ≤ m) (h3 : m ≤ 12) :
    Calls Tryd.prog 80 #[.int .i64 y, .int .i64 m] w fun e w' => e = .returned (.int .i64 (dim y m)) ∧ w' = w := by
  rcases twelve h2 h3 with rfl | rfl | rfl | rfl | rfl | rfl | rfl | rfl | rfl | rfl | rfl | rfl
  case inr.inl =>
    cases hl : lpB y with
    | true =>
      have hd : dim y 2 = 29 := by simp [dim, lp_yes hl]
      have HD : Hid (dim y 2 = 29) := hd
      clear hd
      go_enter Tryd.func80, Tryd.ntmps80
      go_wp2_with (go_at_call 97; refine (specLeap _ _ (by omega) (by omega)).mono ?_; rintro e w' ⟨rfl, rfl⟩)
      go_ret
      exact ⟨ret_i HD.out.symm, rfl⟩
    | false =>
      have hd : dim y 2 = 28 := by simp [dim, lp_no hl]
      have HD : Hid (dim y 2 = 28) := hd
      clear hd
      go_enter Tryd.func80, Tryd.ntmps80
      go_wp2_with (go_at_call 97; refine (specLeap _ _ (by omega) (by omega)).mono ?_; rintro e w' ⟨rfl, rfl⟩)
      go_ret
      exact ⟨ret_i HD.out.symm, rfl⟩
  all_goals
    go_enter Tryd.func80, Tryd.ntmps80
    go_wp2
    go_ret
    exact ⟨ret_i (by simp [dim]), rfl⟩
set_option maxHeartbeats 400000 in
theorem specFirst (y : Int) (w : World) (h0 : 1 ≤ y) (h1 : y ≤ 20000) :
    Calls Tryd.prog 81 #[.int .i64 y] w fun e w' => e = .returned (.int .i64 (fst y)) ∧ w' = w := by
  go_enter Tryd.func81, Tryd.ntmps81
  go_wp2
  go_ret
  exact ⟨ret_i (by unfold fst; omega), rfl⟩
set_option maxHeartbeats 1000000 in
theorem specDay (y m d : Int) (w : World) (h0 : 1 ≤ y) (h1 : y ≤ 9999) (h2 : 1 ≤ m) (h3 : m ≤ 12) (h4 : -100 ≤ d) (h5 : d ≤ 100) :
    Calls Tryd.prog 79 #[.agg #[.int .i64 y, .int .i64 m, .int .i64 d]] w fun e w' => e = .returned (.int .i64 (num y m d)) ∧ w' = w.alloc (.cells #[.int .i64 y, .int .i64 m, .int .i64 d] 35) := by
  have hf := fst_bd y h0 (by omega)
  go_enter Tryd.func79, Tryd.ntmps79
  go_wp2_with (first | (go_at_call 81; refine (specFirst _ _ (by omega) (by omega)).mono ?_; rintro e w' ⟨rfl, rfl⟩) | (go_at_call 80; refine (specDays _ _ _ (by omega) (by omega) (by omega) (by omega)).mono ?_; rintro e w' ⟨rfl, rfl⟩))
  go_loop [3, 4] (fun n k => ∃ j : Int, 1 ≤ j ∧ j ≤ m ∧ k = .int .i64 j ∧ n = .int .i64 (fst y + cum y j)) (fun _ k => (m - intOf k).toNat)
  case atStart => exact ⟨1, by omega, by omega, rfl, by rw [cum_one, Int.add_zero]⟩
  case round =>
    obtain ⟨j, hj1, hj2, rfl, rfl⟩ := hrel
    have cb := cum_bd y j hj1 (by omega)
    have db := dim_bd y j
    by_cases hlt : j < m
    · have cs := cum_succ y j hj1 (by omega)
      have CS : Hid (cum y (j + 1) = cum y j + dim y j) := cs
      clear cs
      go_wp2_with (go_at_call 80; refine (specDays _ _ _ (by omega) (by omega) (by omega) (by omega)).mono ?_; rintro e w' ⟨rfl, rfl⟩)
      go_round
      case rel => exact ⟨j + 1, by omega, by omega, rfl, by rw [CS.out]; go_num⟩
      case measure => simp [intOf]; omega
    · have hm : j = m := by omega
      subst hm
      go_wp2
      go_ret
      exact ⟨ret_i (by unfold num; omega), rfl⟩
end Go.Proofs.YtlfglhpepoepcaaDoor
