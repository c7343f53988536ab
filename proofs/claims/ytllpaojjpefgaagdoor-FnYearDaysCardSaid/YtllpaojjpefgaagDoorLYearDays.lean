/- FnYearDays: the law's own walk. -/
import Derived.Test.YtllpaojjpefgaagDoorCalK
namespace Go.Proofs.YtllpaojjpefgaagDoor
open Go.RowKit
set_option linter.unusedVariables false
theorem implWeekOf_is (n t y : Int) (w : World) (h0 : 0 ≤ n) (h1 : n ≤ 3652058) (ht : n - n % 7 + 3 = t) (y0 : 1 ≤ y) (y1 : fst y ≤ t) (y2 : t < fst (y + 1)) :
    Calls Tryd.prog 12 #[.int .i64 n] w fun e w' => e = .returned (.tuple #[.int .i64 y, .int .i64 ((t - fst y) / 7 + 1)]) ∧ w' = w := by
  refine (implWeekOf_yes n w h0 h1).mono fun e w' hh => ⟨?_, hh.2⟩
  obtain ⟨⟨z, he, hz⟩, _⟩ := hh
  unfold wkY at hz
  rw [ht] at hz he
  obtain rfl := year_uniq y0 hz.1 y1 y2 hz.2.2.1 hz.2.2.2
  exact he
theorem yr_yes' {y : Int} (h0 : 1 ≤ y) (h1 : y ≤ 9999) : yrB y = true := by unfold yrB; simp; omega
/-- The week of a day of a year is of it, or of one at its side, and not behind that of December 28. -/
theorem week_side {y n z : Int} (y0 : 1 ≤ y) (n0 : fst y ≤ n) (n1 : n < fst (y + 1)) (h : 1 ≤ z ∧ z ≤ 20000 ∧ fst z ≤ n - n % 7 + 3 ∧ n - n % 7 + 3 < fst (z + 1)) : y - 1 ≤ z ∧ z ≤ y + 1 := by
  obtain ⟨z0, z1, z2, z3⟩ := h
  constructor
  · by_cases h : y - 1 ≤ z
    · exact h
    · have a := fst_mono (z + 1) (y - 1) (by omega) (by omega)
      have b := fst_succ (y - 1) (by omega)
      have c := lp_01 (y - 1)
      rw [show y - 1 + 1 = y from by omega] at b
      omega
  · by_cases h : z ≤ y + 1
    · exact h
    · have a := fst_mono (y + 1 + 1) z (by omega) (by omega)
      have b := fst_succ (y + 1) (by omega)
      have c := lp_01 (y + 1)
      omega
theorem jan_1 {y : Int} (y0 : 1 ≤ y) (y1 : y ≤ 9999) : okD y 1 1 = true ∧ num y 1 1 = fst y :=
  ⟨(okD_iff _ _ _).2 ⟨y0, y1, by omega, by omega, by omega, by have := dim_bd y 1; omega⟩, by unfold num; rw [cum_one]; omega⟩
theorem jan_next {y : Int} (y0 : 1 ≤ y) (y1 : y ≤ 9998) : okD (y + 1) 1 1 = true ∧ num (y + 1) 1 1 = fst y + 365 + lp y := by
  have h := jan_1 (y := y + 1) (by omega) (by omega)
  rw [fst_succ y y0] at h; exact h
theorem dec_28 {y : Int} (y0 : 1 ≤ y) (y1 : y ≤ 9999) : okD y 12 28 = true ∧ num y 12 28 = fst y + 361 + lp y := by
  refine ⟨(okD_iff _ _ _).2 ⟨y0, y1, by omega, by omega, by omega, by have := dim_bd y 12; omega⟩, ?_⟩
  have h : cum y 12 = 334 + lp y := by simp [cum]
  unfold num; omega
set_option maxHeartbeats 4000000 in
theorem lawYearDays (a : Option Addr) (len cap : Nat) (w : World) (h : IsCode w a len cap) (ht : Tab w) :
    Calls Tryd.prog 4 #[.slice a len cap] w fun e w' => e = .returned (.bool true) ∧ Below w.heap.size w w' := by
  by_cases hl : len ≤ 1048576
  · have hc1 := h.1
    go_enter Tryd.func4, Tryd.ntmps4
    go_wp2_with fail
    refine (drawDayOf w a len cap h).mono ?_
    rintro e w1 ⟨⟨y, m, d, rfl, bd⟩, hb1⟩
    have D := Dat.new w1 y m d 24
    have B : Below w.heap.size w (w1.alloc (.cells #[.int .i64 y, .int .i64 m, .int .i64 d] 24)) := hb1.alloc hb1.size _
    have T := ht.on B
    clear h ht hb1
    cases ok : okD y m d with
    | true =>
      have HOK : Hid (okD y m d = true) := ok
      have nb := num_bd ok
      have ny := num_year ok
      obtain ⟨y0, y1, _⟩ := (okD_iff _ _ _).1 ok
      clear ok
      go_wp2_with fail
      refine (implDayOf_ok y m d _ T HOK.out).mono ?_
      rintro e w2 ⟨rfl, hb2⟩
      replace D := D.below hb2
      replace B := B.trans (hb2.mono B.size)
      replace T := T.on hb2
      have c0 := D.c0
      have c1 := D.c1
      have c2 := D.c2
      have lt := D.lt
      clear hb2
      generalize hn : num y m d = n at *
      have HN : Hid (num y m d = n) := hn
      clear hn
      go_wp2_with fail
      refine (specDayOf_ok y m d _ HOK.out).mono ?_
      rintro e w3 ⟨rfl, hb3⟩
      rw [HN.out]
      replace D := D.below hb3
      replace B := B.trans (hb3.mono B.size)
      replace T := T.on hb3
      have c0 := D.c0
      have c1 := D.c1
      have c2 := D.c2
      have lt := D.lt
      clear hb3
      by_cases k1 : 9998 < y
      · go_wp2_with fail
        refine (specDayOf_ok y m d _ HOK.out).mono ?_
        rintro e w4 ⟨rfl, hb4⟩
        rw [HN.out]
        have hbw := B.trans (hb4.mono B.size)
        go_wp2
        go_ret
        exact ⟨by simp, hbw⟩
      · have l := lp_01 y
        have fb := fst_bd y y0 (by omega)
        have J1 : Hid (okD y 1 1 = true ∧ num y 1 1 = fst y) := jan_1 y0 y1
        have J2 : Hid (okD (y + 1) 1 1 = true ∧ num (y + 1) 1 1 = fst y + 365 + lp y) := jan_next y0 (by omega)
        have J3 : Hid (okD y 12 28 = true ∧ num y 12 28 = fst y + 361 + lp y) := dec_28 y0 y1
        have hyr := yr_yes' y0 y1
        rw [fst_succ y y0] at ny
        go_wp2_with fail
        refine (implDayOf_ok _ _ _ _ T J1.out.1).mono ?_
        rintro e w4 ⟨rfl, hb4⟩
        rw [J1.out.2]
        replace D := D.below hb4
        replace B := B.trans (hb4.mono B.size)
        replace T := T.on hb4
        have c0 := D.c0
        have c1 := D.c1
        have c2 := D.c2
        have lt := D.lt
        clear hb4
        go_wp2_with fail
        refine (implDayOf_ok _ _ _ _ T J2.out.1).mono ?_
        rintro e w5 ⟨rfl, hb5⟩
        rw [J2.out.2]
        replace D := D.below hb5
        replace B := B.trans (hb5.mono B.size)
        replace T := T.on hb5
        have c0 := D.c0
        have c1 := D.c1
        have c2 := D.c2
        have lt := D.lt
        clear hb5
        go_wp2_with fail
        refine (implYearLeap y _).mono ?_
        rintro e w' ⟨rfl, rfl⟩
        rw [hyr, Bool.true_and]
        cases hlp : lpB y with
        | false =>
          have HL : Hid (lp y = 0) := lp_no hlp
          go_wp2_with fail
          refine (implWeekOf_yes n _ nb.1 nb.2).mono ?_
          rintro e w' ⟨⟨z, rfl, hz⟩, rfl⟩
          have zs := week_side y0 ny.1 (by rw [fst_succ y y0]; exact ny.2) hz
          go_wp2_with fail
          refine (implDayOf_ok _ _ _ _ T J3.out.1).mono ?_
          rintro e w6 ⟨rfl, hb6⟩
          rw [J3.out.2]
          replace D := D.below hb6
          replace B := B.trans (hb6.mono B.size)
          replace T := T.on hb6
          have c0 := D.c0
          have c1 := D.c1
          have c2 := D.c2
          have lt := D.lt
          clear hb6
          generalize hdd : fst y + 361 + lp y = dd at *
          have HDD : Hid (fst y + 361 + lp y = dd) := hdd
          have dd0 : 0 ≤ dd ∧ dd ≤ 3652058 := by
            have := (num_bd J3.out.1); rw [J3.out.2] at this; omega
          clear hdd
          go_wp2_with fail
          refine (implWeekOf_is dd _ y _ dd0.1 dd0.2 rfl y0 (by have := HDD.out; omega) (by rw [fst_succ y y0]; have := HDD.out; omega)).mono ?_
          rintro e w' ⟨rfl, rfl⟩
          have q5 : (dd - dd % 7 + 3 - fst y) / 7 + 1 = 52 ∨ (dd - dd % 7 + 3 - fst y) / 7 + 1 = 53 := by have := HDD.out; omega
          have qz : z = y → (n - n % 7 + 3 - fst z) / 7 + 1 ≤ (dd - dd % 7 + 3 - fst y) / 7 + 1 := by
            intro e
            have z3 := hz.2.2.2
            rw [e, fst_succ y y0] at z3
            have := HDD.out
            rw [e]; omega
          have ww : 0 ≤ (n - n % 7 + 3 - fst z) / 7 + 1 ∧ (n - n % 7 + 3 - fst z) / 7 + 1 ≤ 9000000 := by
            have := fst_bd z hz.1 (by omega)
            have := hz.2.2.1
            omega
          generalize (n - n % 7 + 3 - fst z) / 7 + 1 = wk at *
          generalize (dd - dd % 7 + 3 - fst y) / 7 + 1 = lst at *
          have HQ : Hid ((lst = 52 ∨ lst = 53) ∧ (z = y → wk ≤ lst)) := ⟨q5, qz⟩
          clear q5 qz hz
          have g1 : fst y ≤ n := ny.1
          have g2 : n < fst y + 365 + lp y := ny.2
          have z1 : y - 1 ≤ z := zs.1
          have z2 : z ≤ y + 1 := zs.2
          have e1 : (fst y + 365 + lp y - fst y == 365) = true := by rw [beq_iff_eq]; have := HL.out; omega
          by_cases ez : z = y
          · have lw : wk ≤ lst := HQ.out.2 ez
            subst ez
            rcases HQ.out.1 with rfl | rfl
            · go_wp2
              go_ret
              exact ⟨by first | rfl | simp, B⟩
            · go_wp2
              go_ret
              exact ⟨by first | rfl | simp, B⟩
          · have nz : (z != y) = true := by simpa using ez
            rcases HQ.out.1 with rfl | rfl
            · go_wp2
              go_ret
              exact ⟨by first | rfl | simp, B⟩
            · go_wp2
              go_ret
              exact ⟨by first | rfl | simp, B⟩
        | true =>
          have HL : Hid (lp y = 1) := lp_yes hlp
          go_wp2_with fail
          refine (implWeekOf_yes n _ nb.1 nb.2).mono ?_
          rintro e w' ⟨⟨z, rfl, hz⟩, rfl⟩
          have zs := week_side y0 ny.1 (by rw [fst_succ y y0]; exact ny.2) hz
          go_wp2_with fail
          refine (implDayOf_ok _ _ _ _ T J3.out.1).mono ?_
          rintro e w6 ⟨rfl, hb6⟩
          rw [J3.out.2]
          replace D := D.below hb6
          replace B := B.trans (hb6.mono B.size)
          replace T := T.on hb6
          have c0 := D.c0
          have c1 := D.c1
          have c2 := D.c2
          have lt := D.lt
          clear hb6
          generalize hdd : fst y + 361 + lp y = dd at *
          have HDD : Hid (fst y + 361 + lp y = dd) := hdd
          have dd0 : 0 ≤ dd ∧ dd ≤ 3652058 := by
            have := (num_bd J3.out.1); rw [J3.out.2] at this; omega
          clear hdd
          go_wp2_with fail
          refine (implWeekOf_is dd _ y _ dd0.1 dd0.2 rfl y0 (by have := HDD.out; omega) (by rw [fst_succ y y0]; have := HDD.out; omega)).mono ?_
          rintro e w' ⟨rfl, rfl⟩
          have q5 : (dd - dd % 7 + 3 - fst y) / 7 + 1 = 52 ∨ (dd - dd % 7 + 3 - fst y) / 7 + 1 = 53 := by have := HDD.out; omega
          have qz : z = y → (n - n % 7 + 3 - fst z) / 7 + 1 ≤ (dd - dd % 7 + 3 - fst y) / 7 + 1 := by
            intro e
            have z3 := hz.2.2.2
            rw [e, fst_succ y y0] at z3
            have := HDD.out
            rw [e]; omega
          have ww : 0 ≤ (n - n % 7 + 3 - fst z) / 7 + 1 ∧ (n - n % 7 + 3 - fst z) / 7 + 1 ≤ 9000000 := by
            have := fst_bd z hz.1 (by omega)
            have := hz.2.2.1
            omega
          generalize (n - n % 7 + 3 - fst z) / 7 + 1 = wk at *
          generalize (dd - dd % 7 + 3 - fst y) / 7 + 1 = lst at *
          have HQ : Hid ((lst = 52 ∨ lst = 53) ∧ (z = y → wk ≤ lst)) := ⟨q5, qz⟩
          clear q5 qz hz
          have g1 : fst y ≤ n := ny.1
          have g2 : n < fst y + 365 + lp y := ny.2
          have z1 : y - 1 ≤ z := zs.1
          have z2 : z ≤ y + 1 := zs.2
          have e1 : (fst y + 365 + lp y - fst y == 366) = true := by rw [beq_iff_eq]; have := HL.out; omega
          by_cases ez : z = y
          · have lw : wk ≤ lst := HQ.out.2 ez
            subst ez
            rcases HQ.out.1 with rfl | rfl
            · go_wp2
              go_ret
              exact ⟨by first | rfl | simp, B⟩
            · go_wp2
              go_ret
              exact ⟨by first | rfl | simp, B⟩
          · have nz : (z != y) = true := by simpa using ez
            rcases HQ.out.1 with rfl | rfl
            · go_wp2
              go_ret
              exact ⟨by first | rfl | simp, B⟩
            · go_wp2
              go_ret
              exact ⟨by first | rfl | simp, B⟩
    | false =>
      have HOK : Hid (okD y m d = false) := ok
      clear ok
      go_wp2_with fail
      refine (implDayOf_no y m d _ T HOK.out).mono ?_
      rintro e w2 ⟨rfl, hb2⟩
      replace D := D.below hb2
      replace B := B.trans (hb2.mono B.size)
      replace T := T.on hb2
      have c0 := D.c0
      have c1 := D.c1
      have c2 := D.c2
      have lt := D.lt
      clear hb2
      go_wp2_with fail
      refine (specDayOf_no y m d _ HOK.out).mono ?_
      rintro e w3 ⟨rfl, hb3⟩
      replace D := D.below hb3
      replace B := B.trans (hb3.mono B.size)
      replace T := T.on hb3
      have c0 := D.c0
      have c1 := D.c1
      have c2 := D.c2
      have lt := D.lt
      clear hb3
      go_wp2_with fail
      refine (specDayOf_no y m d _ HOK.out).mono ?_
      rintro e w4 ⟨rfl, hb4⟩
      have hbw := B.trans (hb4.mono B.size)
      go_wp2
      go_ret
      exact ⟨by first | rfl | simp, hbw⟩
  · obtain ⟨h1, h2, _⟩ := h
    go_enter Tryd.func4, Tryd.ntmps4
    go_wp2
    go_ret
    exact ⟨rfl, Below.refl _ _⟩
end Go.Proofs.YtllpaojjpefgaagDoor
