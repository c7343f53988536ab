/- FnYearLeap: the law's own walk. -/
import Derived.Test.YtllpaojjpefgaaaDoorImC
import Derived.Test.YtllpaojjpefgaaaDoorSpD
import Derived.Test.YtllpaojjpefgaaaDoorDr2
namespace Go.Proofs.YtllpaojjpefgaaaDoor
open Go.RowKit
set_option linter.unusedVariables false
theorem yr_yes {y : Int} (h0 : 1 ≤ y) (h1 : y ≤ 9999) : yrB y = true := by unfold yrB; simp; omega
theorem yr_no {y : Int} (h : y < 1 ∨ 9999 < y) : yrB y = false := by unfold yrB; simp; omega
theorem lp_400 (y : Int) : lpB (y + 400) = lpB y := by rw [Bool.eq_iff_iff, lpB_iff, lpB_iff]; omega
set_option maxHeartbeats 2000000 in
theorem lawYearLeap (a : Option Addr) (len cap : Nat) (w : World) (h : IsCode w a len cap) (ht : Tab w) :
    Calls Tryd.prog 3 #[.slice a len cap] w fun e w' => e = .returned (.bool true) ∧ Below w.heap.size w w' := by
  by_cases hl : len ≤ 1048576
  · go_enter Tryd.func3, Tryd.ntmps3
    go_wp2_with fail
    refine (drawYearLeap w a len cap h).mono ?_
    rintro e w1 ⟨⟨y, rfl, y0, y1⟩, hb⟩
    have hT := ht.on hb
    clear h ht
    have HY : Hid (yrB y = inB y 1 9999) := rfl
    go_wp2_with fail
    refine (implYearLeap y w1).mono ?_
    rintro e w' ⟨rfl, rfl⟩
    rw [HY.out]
    by_cases k0 : y < 1
    · go_wp2_with (go_at_call 10; refine (specYearLeap _ _).mono ?_; rintro e w' ⟨rfl, rfl⟩)
      go_ret
      exact ⟨by simp, hb⟩
    · by_cases k1 : 9599 < y
      · go_wp2_with (go_at_call 10; refine (specYearLeap _ _).mono ?_; rintro e w' ⟨rfl, rfl⟩)
        go_ret
        exact ⟨by simp, hb⟩
      · have i1 : inB y 1 9999 = true := in_yes (by omega) (by omega)
        have i2 : yrB (y + 400) = true := yr_yes (by omega) (by omega)
        have i3 := lp_400 y
        cases hl : lpB y with
        | true =>
          have m1 : (mdays y 2 == 29) = true := by rw [mdays_in (by omega)]; simp [dim, lp_yes hl]
          have o1 : okD y 2 29 = true := (okD_iff _ _ _).2 ⟨by omega, by omega, by omega, by omega, by omega, by simp [dim, lp_yes hl]⟩
          have y4 : y % 4 = 0 := ((lpB_iff y).1 hl).1
          rw [hl] at i3
          go_wp2_with (first | (go_at_call 10; refine (specYearLeap _ _).mono ?_; rintro e w' ⟨rfl, rfl⟩) | (go_at_call 9; refine (implYearLeap _ _).mono ?_; rintro e w' ⟨rfl, rfl⟩) | (go_at_call 11; refine (implMonthDays _ _ _ hT).mono ?_; rintro e w' ⟨rfl, rfl⟩) | (go_at_call 12; refine (implDateOk _ _ _ _ hT).mono ?_; rintro e w2 ⟨rfl, hb2⟩))
          go_ret
          exact ⟨by simp, hb.trans (hb2.mono hb.size)⟩
        | false =>
          have m1 : (mdays y 2 == 29) = false := by rw [mdays_in (by omega)]; simp [dim, lp_no hl]
          have o1 : okD y 2 29 = false := (okD_not _ _ _).2 (by simp [dim, lp_no hl])
          rw [hl] at i3
          go_wp2_with (first | (go_at_call 10; refine (specYearLeap _ _).mono ?_; rintro e w' ⟨rfl, rfl⟩) | (go_at_call 9; refine (implYearLeap _ _).mono ?_; rintro e w' ⟨rfl, rfl⟩) | (go_at_call 11; refine (implMonthDays _ _ _ hT).mono ?_; rintro e w' ⟨rfl, rfl⟩) | (go_at_call 12; refine (implDateOk _ _ _ _ hT).mono ?_; rintro e w2 ⟨rfl, hb2⟩))
          go_ret
          exact ⟨by simp, hb.trans (hb2.mono hb.size)⟩
  · obtain ⟨h1, h2, _⟩ := h
    go_enter Tryd.func3, Tryd.ntmps3
    go_wp2
    go_ret
    exact ⟨rfl, Below.refl _ _⟩
end Go.Proofs.YtllpaojjpefgaaaDoor
