/- The program's small functions of the calendar: what each answers. -/
import Derived.Test.YtllpaojjpefgaarBs
import Derived.Test.YtllpaojjpefgaarCal
import Derived.Deep.QuietTactic
import Derived.BigQuiet
import Derived.Outline
namespace Go.Proofs.Ytllpaojjpefgaar
open Go.RowKit
set_option linter.unusedVariables false

def yrB (y : Int) : Bool := decide (1 ≤ y ∧ y ≤ 9999)
theorem implStart (y : Int) (w : World) (h0 : 1 ≤ y) (h1 : y ≤ 20000) :
    Calls Try.prog 34 #[.int .i64 y] w fun e w' => e = .returned (.int .i64 (fst y)) ∧ w' = w := by
  go_enter Try.func34, Try.ntmps34
  go_wp2
  go_ret
  exact ⟨ret_i (by unfold fst; omega), rfl⟩
set_option maxHeartbeats 1000000 in
theorem implYear (n : Int) (w : World) (h0 : 0 ≤ n) (h1 : n ≤ 4000000) :
    Calls Try.prog 33 #[.int .i64 n] w fun e w' => (∃ y : Int, e = .returned (.int .i64 y) ∧ 1 ≤ y ∧ y ≤ 20000 ∧ fst y ≤ n ∧ n < fst (y + 1)) ∧ w' = w := by
  go_enter Try.func33, Try.ntmps33
  go_wp2
  all_goals
    go_ret
    first
      | exact ⟨⟨_, rfl, year_ll n h0 h1 (by assumption) (by assumption) _ rfl⟩, rfl⟩
      | exact ⟨⟨_, rfl, year_lg n h0 h1 (by assumption) (by assumption) _ rfl⟩, rfl⟩
      | exact ⟨⟨_, rfl, year_gl n h0 h1 (by assumption) (by assumption) _ rfl⟩, rfl⟩
      | exact ⟨⟨_, rfl, year_gg n h0 h1 (by assumption) (by assumption) _ rfl⟩, rfl⟩
def dyB (n : Int) : Bool := decide (0 ≤ n ∧ n ≤ 3652058)
theorem implIsDay (n : Int) (w : World) :
    Calls Try.prog 18 #[.int .i64 n] w fun e w' => e = .returned (.bool (dyB n)) ∧ w' = w := by
  by_cases h0 : 0 ≤ n
  · go_enter Try.func18, Try.ntmps18
    go_wp2
    go_ret
    exact ⟨ret_b (by unfold dyB; simp [h0]), rfl⟩
  · go_enter Try.func18, Try.ntmps18
    go_wp2
    go_ret
    exact ⟨ret_b (by unfold dyB; simp; omega), rfl⟩
theorem dy_yes {n : Int} (h0 : 0 ≤ n) (h1 : n ≤ 3652058) : dyB n = true := by unfold dyB; simp; omega
theorem dy_no {n : Int} (h : n < 0 ∨ 3652058 < n) : dyB n = false := by unfold dyB; simp; omega
def wkY (n y : Int) : Prop := 1 ≤ y ∧ y ≤ 20000 ∧ fst y ≤ n - n % 7 + 3 ∧ n - n % 7 + 3 < fst (y + 1)
theorem implWeekOf_no (n : Int) (w : World) (h : n < 0 ∨ 3652058 < n) :
    Calls Try.prog 7 #[.int .i64 n] w fun e w' => e = .returned (.tuple #[.int .i64 0, .int .i64 0]) ∧ w' = w := by
  have hd := dy_no h
  clear h
  go_enter Try.func7, Try.ntmps7
  go_wp2_with (go_at_call 18; refine (implIsDay _ _).mono ?_; rintro e w' ⟨rfl, rfl⟩)
  go_ret2
  exact ⟨rfl, rfl⟩
theorem implWeekOf_yes (n : Int) (w : World) (h0 : 0 ≤ n) (h1 : n ≤ 3652058) :
    Calls Try.prog 7 #[.int .i64 n] w fun e w' => (∃ y : Int, e = .returned (.tuple #[.int .i64 y, .int .i64 ((n - n % 7 + 3 - fst y) / 7 + 1)]) ∧ wkY n y) ∧ w' = w := by
  have hd := dy_yes h0 h1
  go_enter Try.func7, Try.ntmps7
  go_wp2_with (first | (go_at_call 18; refine (implIsDay _ _).mono ?_; rintro e w' ⟨rfl, rfl⟩) | (go_at_call 19; go_in) | (go_at_call 32; go_in))
  refine (implYear _ _ (by omega) (by omega)).mono ?_
  rintro e w1 ⟨⟨y, rfl, y0, y1, y2, y3⟩, rfl⟩
  have WK : Hid (wkY n y) := ⟨y0, y1, y2, y3⟩
  have fb : 0 ≤ fst y := by unfold fst; omega
  go_wp2_with (go_at_call 34; refine (implStart _ _ (by omega) (by omega)).mono ?_; rintro e w' ⟨rfl, rfl⟩)
  go_ret2
  exact ⟨⟨y, rfl, WK.out⟩, rfl⟩
end Go.Proofs.Ytllpaojjpefgaar
