/- The program's small functions of the calendar: what each answers. -/
import Derived.Test.YtllpaojjpefgaarDoorBs
import Derived.Test.YtllpaojjpefgaarDoorCal
import Derived.Test.YtllpaojjpefgaarDoorTab
import Derived.Deep.QuietTactic
import Derived.BigQuiet
import Derived.Outline
namespace Go.Proofs.YtllpaojjpefgaarDoor
open Go.RowKit
set_option linter.unusedVariables false

def yrB (y : Int) : Bool := decide (1 ≤ y ∧ y ≤ 9999)
set_option maxHeartbeats 400000 in
theorem implLeap (y : Int) (w : World) (h0 : 0 ≤ y) (h1 : y ≤ 20000) :
    Calls Tryd.prog 35 #[.int .i64 y] w fun e w' => e = .returned (.bool (lpB y)) ∧ w' = w := by
  by_cases a : y % 4 = 0
  · by_cases b : y % 100 = 0
    · by_cases c : y % 400 = 0
      · have hl : lpB y = true := (lpB_iff y).2 (by omega)
        go_enter Tryd.func35, Tryd.ntmps35
        go_wp2
        go_ret
        exact ⟨ret_b (by first | (rw [hl]; done) | (rw [hl]; simp; done) | (rw [hl]; simp; omega)), rfl⟩
      · have hl : lpB y = false := (lpB_not y).2 (by omega)
        go_enter Tryd.func35, Tryd.ntmps35
        go_wp2
        go_ret
        exact ⟨ret_b (by first | (rw [hl]; done) | (rw [hl]; simp; done) | (rw [hl]; simp; omega)), rfl⟩
    · have hl : lpB y = true := (lpB_iff y).2 (by omega)
      go_enter Tryd.func35, Tryd.ntmps35
      go_wp2
      go_ret
      exact ⟨ret_b (by first | (rw [hl]; done) | (rw [hl]; simp; done) | (rw [hl]; simp; omega)), rfl⟩
  · have hl : lpB y = false := (lpB_not y).2 (by omega)
    have c : ¬ y % 400 = 0 := by omega
    go_enter Tryd.func35, Tryd.ntmps35
    go_wp2
    go_ret
    exact ⟨ret_b (by first | (rw [hl]; done) | (rw [hl]; simp; done) | (rw [hl]; simp; omega)), rfl⟩
set_option maxHeartbeats 1000000 in
theorem implSize (y m : Int) (w : World) (ht : Tab w) (h0 : 0 ≤ y) (h1 : y ≤ 20000) (h2 : 1 ≤ m) (h3 : m ≤ 12) :
    Calls Tryd.prog 29 #[.int .i64 y, .int .i64 m] w fun e w' => e = .returned (.int .i64 (dim y m)) ∧ w' = w := by
  rcases twelve h2 h3 with rfl | rfl | rfl | rfl | rfl | rfl | rfl | rfl | rfl | rfl | rfl | rfl
  case inr.inl =>
    have c1 : w.cell? ⟨0, 1, none⟩ = some (.int .i64 28) := ht 1 (by omega)
    clear ht
    cases hl : lpB y with
    | true =>
      have HD : Hid (dim y 2 = 29) := by simp [Hid, dim, lp_yes hl]
      go_enter Tryd.func29, Tryd.ntmps29
      go_wp2_with (go_at_call 35; refine (implLeap _ _ (by omega) (by omega)).mono ?_; rintro e w' ⟨rfl, rfl⟩)
      go_ret
      exact ⟨ret_i HD.out.symm, rfl⟩
    | false =>
      have HD : Hid (dim y 2 = 28) := by simp [Hid, dim, lp_no hl]
      go_enter Tryd.func29, Tryd.ntmps29
      go_wp2_with (go_at_call 35; refine (implLeap _ _ (by omega) (by omega)).mono ?_; rintro e w' ⟨rfl, rfl⟩)
      go_ret
      exact ⟨ret_i HD.out.symm, rfl⟩
  case inl => have c := ht 0 (by omega); clear ht; simp [sizes] at c; go_enter Tryd.func29, Tryd.ntmps29; go_wp2; go_ret; exact ⟨ret_i (by simp [dim]), rfl⟩
  case inr.inr.inl => have c := ht 2 (by omega); clear ht; simp [sizes] at c; go_enter Tryd.func29, Tryd.ntmps29; go_wp2; go_ret; exact ⟨ret_i (by simp [dim]), rfl⟩
  case inr.inr.inr.inl => have c := ht 3 (by omega); clear ht; simp [sizes] at c; go_enter Tryd.func29, Tryd.ntmps29; go_wp2; go_ret; exact ⟨ret_i (by simp [dim]), rfl⟩
  case inr.inr.inr.inr.inl => have c := ht 4 (by omega); clear ht; simp [sizes] at c; go_enter Tryd.func29, Tryd.ntmps29; go_wp2; go_ret; exact ⟨ret_i (by simp [dim]), rfl⟩
  case inr.inr.inr.inr.inr.inl => have c := ht 5 (by omega); clear ht; simp [sizes] at c; go_enter Tryd.func29, Tryd.ntmps29; go_wp2; go_ret; exact ⟨ret_i (by simp [dim]), rfl⟩
  case inr.inr.inr.inr.inr.inr.inl => have c := ht 6 (by omega); clear ht; simp [sizes] at c; go_enter Tryd.func29, Tryd.ntmps29; go_wp2; go_ret; exact ⟨ret_i (by simp [dim]), rfl⟩
  case inr.inr.inr.inr.inr.inr.inr.inl => have c := ht 7 (by omega); clear ht; simp [sizes] at c; go_enter Tryd.func29, Tryd.ntmps29; go_wp2; go_ret; exact ⟨ret_i (by simp [dim]), rfl⟩
  case inr.inr.inr.inr.inr.inr.inr.inr.inl => have c := ht 8 (by omega); clear ht; simp [sizes] at c; go_enter Tryd.func29, Tryd.ntmps29; go_wp2; go_ret; exact ⟨ret_i (by simp [dim]), rfl⟩
  case inr.inr.inr.inr.inr.inr.inr.inr.inr.inl => have c := ht 9 (by omega); clear ht; simp [sizes] at c; go_enter Tryd.func29, Tryd.ntmps29; go_wp2; go_ret; exact ⟨ret_i (by simp [dim]), rfl⟩
  case inr.inr.inr.inr.inr.inr.inr.inr.inr.inr.inl => have c := ht 10 (by omega); clear ht; simp [sizes] at c; go_enter Tryd.func29, Tryd.ntmps29; go_wp2; go_ret; exact ⟨ret_i (by simp [dim]), rfl⟩
  case inr.inr.inr.inr.inr.inr.inr.inr.inr.inr.inr => have c := ht 11 (by omega); clear ht; simp [sizes] at c; go_enter Tryd.func29, Tryd.ntmps29; go_wp2; go_ret; exact ⟨ret_i (by simp [dim]), rfl⟩
def mdays (y m : Int) : Int := if 1 ≤ y ∧ y ≤ 9999 ∧ 1 ≤ m ∧ m ≤ 12 then dim y m else 0
theorem mdays_in {y m : Int} (h : 1 ≤ y ∧ y ≤ 9999 ∧ 1 ≤ m ∧ m ≤ 12) : mdays y m = dim y m := if_pos h
theorem mdays_out {y m : Int} (h : ¬ (1 ≤ y ∧ y ≤ 9999 ∧ 1 ≤ m ∧ m ≤ 12)) : mdays y m = 0 := if_neg h
theorem mdays_bd (y m : Int) : 0 ≤ mdays y m ∧ mdays y m ≤ 31 := by
  have := dim_bd y m
  unfold mdays; split <;> omega
set_option maxHeartbeats 1000000 in
theorem implMonthDays (y m : Int) (w : World) (ht : Tab w) :
    Calls Tryd.prog 28 #[.int .i64 y, .int .i64 m] w fun e w' => e = .returned (.int .i64 (mdays y m)) ∧ w' = w := by
  by_cases h0 : 1 ≤ y
  · by_cases h1 : y ≤ 9999
    · by_cases h2 : 1 ≤ m
      · by_cases h3 : m ≤ 12
        · have HD : Hid (mdays y m = dim y m) := mdays_in ⟨h0, h1, h2, h3⟩
          go_enter Tryd.func28, Tryd.ntmps28
          go_wp2_with (first | (go_at_call 29; refine (implSize _ _ _ ht (by omega) (by omega) (by omega) (by omega)).mono ?_; rintro e w' ⟨rfl, rfl⟩) | go_in)
          go_ret
          exact ⟨ret_i HD.out.symm, rfl⟩
        · have HD : Hid (mdays y m = 0) := mdays_out (by omega)
          go_enter Tryd.func28, Tryd.ntmps28
          go_wp2
          go_ret
          exact ⟨ret_i HD.out.symm, rfl⟩
      · have HD : Hid (mdays y m = 0) := mdays_out (by omega)
        go_enter Tryd.func28, Tryd.ntmps28
        go_wp2
        go_ret
        exact ⟨ret_i HD.out.symm, rfl⟩
    · have HD : Hid (mdays y m = 0) := mdays_out (by omega)
      go_enter Tryd.func28, Tryd.ntmps28
      go_wp2
      go_ret
      exact ⟨ret_i HD.out.symm, rfl⟩
  · have HD : Hid (mdays y m = 0) := mdays_out (by omega)
    go_enter Tryd.func28, Tryd.ntmps28
    go_wp2
    go_ret
    exact ⟨ret_i HD.out.symm, rfl⟩
set_option maxHeartbeats 1000000 in
theorem implDateOk (y m d : Int) (w : World) (ht : Tab w) :
    Calls Tryd.prog 18 #[.agg #[.int .i64 y, .int .i64 m, .int .i64 d]] w fun e w' => e = .returned (.bool (okD y m d)) ∧ Below w.heap.size w w' := by
  have hb : ∀ n, Below w.heap.size w ((w.alloc (.cells #[.int .i64 y, .int .i64 m, .int .i64 d] 24)).drewN n) := fun n => Below.drewN' ((Below.refl _ _).alloc (Nat.le_refl _) _) n
  have HT : Hid (∀ n, Tab ((w.alloc (.cells #[.int .i64 y, .int .i64 m, .int .i64 d] 24)).drewN n)) := fun n => ht.on (hb n)
  have HB : Hid (∀ n, Below w.heap.size w ((w.alloc (.cells #[.int .i64 y, .int .i64 m, .int .i64 d] 24)).drewN n)) := hb
  clear hb ht
  by_cases h0 : 1 ≤ d
  · have HD : Hid (decide (d ≤ mdays y m) = okD y m d) := by
      have hb := dim_bd y m
      unfold Hid
      by_cases hc : 1 ≤ y ∧ y ≤ 9999 ∧ 1 ≤ m ∧ m ≤ 12
      · rw [mdays_in hc, Bool.eq_iff_iff, okD_iff, decide_eq_true_iff]; omega
      · rw [mdays_out hc, Bool.eq_iff_iff, okD_iff, decide_eq_true_iff]; omega
    go_enter Tryd.func18, Tryd.ntmps18
    go_wp2
    go_quiet ((go_at_call 28; exact Calls.quiet_of_same (implMonthDays _ _ _ (HT.out _))))
    go_wp2
    go_ret
    exact ⟨ret_b HD.out, HB.out _⟩
  · have HD : Hid (okD y m d = false) := by unfold Hid; rw [okD_not]; omega
    have hd : decide (1 ≤ d) = false := by simpa using h0
    go_enter Tryd.func18, Tryd.ntmps18
    go_wp2
    go_quiet (fail)
    go_wp2
    go_ret
    exact ⟨ret_b HD.out.symm, HB.out _⟩
theorem implParts (y m d : Int) (w : World) :
    Calls Tryd.prog 19 #[.agg #[.int .i64 y, .int .i64 m, .int .i64 d]] w fun e w' => e = .returned (.agg #[.int .i64 y, .int .i64 m, .int .i64 d]) ∧ Below w.heap.size w w' := by
  go_enter Tryd.func19, Tryd.ntmps19
  go_wp2
  exact bodyPost_ret (v := .agg #[.int .i64 y, .int .i64 m, .int .i64 d]) (by simp [results, Tryd.results19, go_sem]) rfl ⟨rfl, ((Below.refl _ _).alloc (Nat.le_refl _) _).alloc (by simp) _⟩
theorem implDate (y m d : Int) (w : World) :
    Calls Tryd.prog 26 #[.agg #[.int .i64 y, .int .i64 m, .int .i64 d]] w fun e w' => e = .returned (.agg #[.int .i64 y, .int .i64 m, .int .i64 d]) ∧ Below w.heap.size w w' := by
  go_enter Tryd.func26, Tryd.ntmps26
  go_wp2
  exact bodyPost_ret (v := .agg #[.int .i64 y, .int .i64 m, .int .i64 d]) (by simp [results, Tryd.results26, go_sem]) rfl ⟨rfl, ((Below.refl _ _).alloc (Nat.le_refl _) _).alloc (by simp) _⟩
end Go.Proofs.YtllpaojjpefgaarDoor
