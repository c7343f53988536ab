/- FnMonthDays: the law's own walk. -/
import Derived.Test.YtllpaojjpefgaaaDoorImC
import Derived.Test.YtllpaojjpefgaaaDoorSpD
import Derived.Test.YtllpaojjpefgaaaDoorDr2
namespace Go.Proofs.YtllpaojjpefgaaaDoor
open Go.RowKit
set_option linter.unusedVariables false
theorem jan1 {y : Int} (h0 : 1 ≤ y) (h1 : y ≤ 9999) : okD y 1 1 = true ∧ num y 1 1 = fst y := by
  refine ⟨(okD_iff _ _ _).2 ⟨h0, h1, by omega, by omega, by omega, by have := dim_bd y 1; omega⟩, ?_⟩
  unfold num; rw [cum_one]; omega
set_option maxHeartbeats 4000000 in
theorem lawMonthDays (a : Option Addr) (len cap : Nat) (w : World) (h : IsCode w a len cap) (ht : Tab w) :
    Calls Tryd.prog 4 #[.slice a len cap] w fun e w' => e = .returned (.bool true) ∧ Below w.heap.size w w' := by
  by_cases hl : len ≤ 1048576
  · go_enter Tryd.func4, Tryd.ntmps4
    go_wp2_with fail
    refine (drawMonthDays w a len cap h).mono ?_
    rintro e w1 ⟨⟨y, m, rfl, y0, y1, m0, m1⟩, hb⟩
    have hT := ht.on hb
    clear h ht
    have HY : Hid (mdays y m = smdays y m) := rfl
    go_wp2_with fail
    refine (implMonthDays y m w1 hT).mono ?_
    rintro e w' ⟨rfl, rfl⟩
    rw [HY.out]
    by_cases k0 : y < 1
    · go_wp2_with (go_at_call 14; refine (specMonthDays _ _ _).mono ?_; rintro e w' ⟨rfl, rfl⟩)
      go_ret
      exact ⟨by simp, hb⟩
    · by_cases k1 : 9998 < y
      · go_wp2_with (go_at_call 14; refine (specMonthDays _ _ _).mono ?_; rintro e w' ⟨rfl, rfl⟩)
        go_ret
        exact ⟨by simp, hb⟩
      · have l := lp_01 y
        go_wp2_with (go_at_call 14; refine (specMonthDays _ _ _).mono ?_; rintro e w' ⟨rfl, rfl⟩)
        go_loop [6, 7] (fun s k => ∃ j : Int, 1 ≤ j ∧ j ≤ 13 ∧ k = .int .i64 j ∧ s = .int .i64 (cum y j)) (fun _ k => (13 - intOf k).toNat)
        case atStart => exact ⟨1, by omega, by omega, rfl, by rw [cum_one]⟩
        case round =>
          obtain ⟨j, j0, j1, rfl, rfl⟩ := hrel
          have cb := cum_bd y j j0 j1
          by_cases hlt : j ≤ 12
          · have db := dim_bd y j
            have HM : Hid (mdays y j = dim y j) := mdays_in (by omega)
            have CS : Hid (cum y (j + 1) = cum y j + dim y j) := cum_succ y j j0 hlt
            go_wp2_with (go_at_call 11; refine (implMonthDays _ _ _ hT).mono ?_; rintro e w' ⟨rfl, rfl⟩; rw [HM.out])
            go_round
            case rel => exact ⟨j + 1, by omega, by omega, rfl, by rw [CS.out]⟩
            case measure => simp [intOf]; omega
          · have hj : j = 13 := by omega
            subst hj
            have J1 := jan1 (y := y) (by omega) (by omega)
            have J2 := jan1 (y := y + 1) (by omega) (by omega)
            have n1 : dayOf y 1 1 = fst y := by unfold dayOf; rw [if_pos J1.1, J1.2]
            have n2 : dayOf (y + 1) 1 1 = fst (y + 1) := by unfold dayOf; rw [if_pos J2.1, J2.2]
            have b1 := fst_bd y (by omega) (by omega)
            have b2 := fst_bd (y + 1) (by omega) (by omega)
            have d1 : 0 ≤ dayOf y 1 1 ∧ dayOf y 1 1 ≤ 3652059 := by rw [n1]; exact b1
            have d2 : 0 ≤ dayOf (y + 1) 1 1 ∧ dayOf (y + 1) 1 1 ≤ 3652059 := by rw [n2]; exact b2
            have E : (cum y 13 == dayOf (y + 1) 1 1 - dayOf y 1 1) = true := by rw [n1, n2, cum_13, fst_succ y (by omega)]; simp; omega
            have E2 : Hid ((smdays y m == 0) = (decide (m < 1) || decide (12 < m))) := by
              unfold Hid smdays
              have := dim_bd y m
              by_cases hm : 1 ≤ m ∧ m ≤ 12
              · rw [if_pos (by omega), Bool.eq_iff_iff]; simp; omega
              · rw [if_neg (by omega), Bool.eq_iff_iff]; simp; omega
            clear J1 J2 n1 n2 b1 b2 cb
            have s1 := hb.size
            go_wp2_with fail
            refine (implDayOf _ _ _ _ hT).mono ?_
            rintro e w2 ⟨rfl, hb2⟩
            have hT2 := hT.on hb2
            go_wp2_with fail
            refine (implDayOf _ _ _ _ hT2).mono ?_
            rintro e w3 ⟨rfl, hb3⟩
            have hbw := (hb.trans (hb2.mono hb.size)).trans (hb3.mono (Nat.le_trans hb.size hb2.size))
            clear hb2 hb3 hT2 hb
            by_cases m2 : m < 1
            · go_wp2
              go_ret
              exact ⟨ret_b (by rw [E2.out]; simp [m2]), hbw⟩
            · by_cases m3 : 12 < m
              · go_wp2
                go_ret
                exact ⟨ret_b (by rw [E2.out]; simp [m3]), hbw⟩
              · go_wp2
                go_ret
                exact ⟨ret_b (by rw [E2.out]; simp), hbw⟩
  · obtain ⟨h1, h2, _⟩ := h
    go_enter Tryd.func4, Tryd.ntmps4
    go_wp2
    go_ret
    exact ⟨rfl, Below.refl _ _⟩
end Go.Proofs.YtllpaojjpefgaaaDoor
