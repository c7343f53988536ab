/- FnWeekDay: the law's own walk. -/
import Derived.Test.YtllpaojjpefgaaaDr
import Derived.Test.YtllpaojjpefgaaaWd
namespace Go.Proofs.Ytllpaojjpefgaaa
open Go.RowKit
set_option linter.unusedVariables false

set_option maxHeartbeats 1000000 in
theorem lawWeekDay (a : Option Addr) (len cap : Nat) (w : World) (h : IsCode w a len cap) :
    Calls Try.prog 3 #[.slice a len cap] w fun e w' => e = .returned (.bool true) ∧ Below w.heap.size w w' := by
  by_cases hl : len ≤ 1048576
  · go_enter Try.func3, Try.ntmps3
    go_wp2_with fail
    refine (drawWeekDay w a len cap h).mono ?_
    rintro e w1 ⟨⟨d, rfl, d0, d1⟩, hb⟩
    clear h
    go_wp2_with fail
    refine (implWeekDay d w1).mono ?_
    rintro e w' ⟨rfl, rfl⟩
    by_cases k0 : d < 0
    · go_wp2_with (first | (go_at_call 6; refine (specWeekDay _ _).mono ?_; rintro e w' ⟨rfl, rfl⟩) | (go_at_call 5; refine (implWeekDay _ _).mono ?_; rintro e w' ⟨rfl, rfl⟩))
      go_ret
      exact ⟨by simp, hb⟩
    · by_cases k1 : 3652051 < d
      · go_wp2_with (first | (go_at_call 6; refine (specWeekDay _ _).mono ?_; rintro e w' ⟨rfl, rfl⟩) | (go_at_call 5; refine (implWeekDay _ _).mono ?_; rintro e w' ⟨rfl, rfl⟩))
        go_ret
        exact ⟨by simp, hb⟩
      · have q0 : wd d = d % 7 := wd_in (by omega) (by omega)
        have q1 : 0 ≤ wd d ∧ wd d ≤ 6 := by rw [q0]; omega
        have e1 : (wd (d + 1) == (wd d + 1) % 7) = true := by rw [q0, wd_in (by omega) (by omega)]; simp
        have e2 : (wd (d + 7) == wd d) = true := by rw [q0, wd_in (by omega) (by omega)]; simp
        have e3 : (wd 0 == 0) = true := by decide
        clear q0
        go_wp2_with (first | (go_at_call 6; refine (specWeekDay _ _).mono ?_; rintro e w' ⟨rfl, rfl⟩) | (go_at_call 5; refine (implWeekDay _ _).mono ?_; rintro e w' ⟨rfl, rfl⟩))
        go_ret
        exact ⟨rfl, hb⟩
  · go_enter Try.func3, Try.ntmps3
    obtain ⟨h1, h2, _⟩ := h
    go_wp2
    go_ret
    exact ⟨rfl, Below.refl _ _⟩
end Go.Proofs.Ytllpaojjpefgaaa
