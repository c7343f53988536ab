/- FnWeekOf: the law's own walk. -/
import Derived.Test.YtllpaojjpefgaaaDoorCalK
import Derived.Test.YtllpaojjpefgaaaDoorWd
namespace Go.Proofs.YtllpaojjpefgaaaDoor
open Go.RowKit
set_option linter.unusedVariables false
theorem implWeekOf_thu (n t y : Int) (w : World) (h0 : 0 ≤ n) (h1 : n ≤ 3652058) (ht : n - n % 7 + 3 = t) (y0 : 1 ≤ y) (y1 : fst y ≤ t) (y2 : t < fst (y + 1)) :
    Calls Tryd.prog 23 #[.int .i64 n] w fun e w' => e = .returned (.tuple #[.int .i64 y, .int .i64 ((t - fst y) / 7 + 1)]) ∧ w' = w := by
  refine (implWeekOf_yes n w h0 h1).mono fun e w' hh => ⟨?_, hh.2⟩
  obtain ⟨⟨z, he, hz⟩, _⟩ := hh
  unfold wkY at hz
  rw [ht] at hz he
  obtain rfl := year_uniq y0 hz.1 y1 y2 hz.2.2.1 hz.2.2.2
  exact he
set_option maxHeartbeats 4000000 in
theorem lawWeekOf (a : Option Addr) (len cap : Nat) (w : World) (h : IsCode w a len cap) (ht : Tab w) :
    Calls Tryd.prog 6 #[.slice a len cap] w fun e w' => e = .returned (.bool true) ∧ Below w.heap.size w w' := by
  by_cases hl : len ≤ 1048576
  · have hc1 := h.1
    go_enter Tryd.func6, Tryd.ntmps6
    go_wp2_with fail
    refine (drawWeekOf w a len cap h).mono ?_
    rintro e w1 ⟨⟨n, rfl, n0, n1⟩, hb1⟩
    have T := ht.on hb1
    clear h ht
    by_cases hn : 0 ≤ n ∧ n ≤ 3652058
    · obtain ⟨p0, p1⟩ := hn
      go_wp2_with fail
      refine (implWeekOf_yes n _ p0 p1).mono ?_
      rintro e w1' ⟨⟨y, rfl, hy⟩, rfl⟩
      obtain ⟨y0, y1, y2, y3⟩ := hy
      generalize htt : n - n % 7 + 3 = t at *
      have HT : Hid (n - n % 7 + 3 = t) := htt
      have t0 : 3 ≤ t ∧ t ≤ 3652058 := by omega
      clear htt
      have y4 : y ≤ 9999 := by
        by_cases h : y ≤ 9999
        · exact h
        · have := fst_mono 10000 y (by omega) (by omega); have := fst_max; omega
      have fb := fst_bd y y0 (by omega)
      have es := fst_succ y y0
      have l := lp_01 y
      have q53 : 1 ≤ (t - fst y) / 7 + 1 ∧ (t - fst y) / 7 + 1 ≤ 53 := by omega
      have Y3 : Hid (t < fst (y + 1)) := y3
      clear es y3
      go_wp2_with fail
      refine (specWeekOf_yes n _ p0 p1).mono ?_
      rintro e w2 ⟨⟨z, rfl, hz⟩, hb2⟩
      unfold swkY at hz
      rw [HT.out] at hz ⊢
      have ez := year_uniq y0 hz.1 y2 Y3.out hz.2.2.1 hz.2.2.2
      subst ez
      have T2 := T.on hb2
      have hb := hb1.trans (hb2.mono hb1.size)
      clear hz hb1 hb2 T
      generalize hk : (t - fst y) / 7 + 1 = k at *
      have HK : Hid ((t - fst y) / 7 + 1 = k) := hk
      clear hk
      by_cases k1 : 3652044 < n
      · go_wp2
        go_ret
        exact ⟨by simp, hb⟩
      · have W : wd n = n % 7 := wd_in p0 p1
        have HW : Hid (n - wd n = t - 3) := by unfold Hid; rw [W]; have := HT.out; omega
        have wb : 0 ≤ wd n ∧ wd n ≤ 6 := by rw [W]; omega
        have tn : t - 3 ≤ n ∧ n ≤ t + 3 := by have := HT.out; omega
        have m7 : Hid ((t - 3) % 7 = 0) := by unfold Hid; have := HT.out; omega
        clear W
        go_wp2_with fail
        refine (implWeekDay n _).mono ?_
        rintro e w' ⟨rfl, rfl⟩
        go_wp2
        rw [HW.out]
        go_loop [9] (fun j => ∃ i : Int, 0 ≤ i ∧ i ≤ 7 ∧ j = .int .i64 i) (fun j => (7 - intOf j).toNat)
        case atStart => exact ⟨0, by omega, by omega, rfl⟩
        case round =>
          obtain ⟨i, i0, i1, rfl⟩ := hrel
          by_cases hlt : i < 7
          · go_wp2_with fail
            refine (implWeekOf_thu (t - 3 + i) t y _ (by omega) (by omega) (by have := m7.out; omega) y0 y2 Y3.out).mono ?_
            rintro e w' ⟨rfl, rfl⟩
            rw [HK.out]
            go_wp2
            go_round
            case rel => exact ⟨i + 1, by omega, by omega, rfl⟩
            case measure => simp [intOf]; omega
          · go_wp2_with fail
            refine (implWeekOf_yes (t - 3 + 7) _ (by omega) (by omega)).mono ?_
            rintro e w' ⟨⟨v, rfl, hv⟩, rfl⟩
            unfold wkY at hv
            have m72 : (t - 3 + 7) - (t - 3 + 7) % 7 + 3 = t + 7 := by have := m7.out; omega
            rw [m72] at hv ⊢
            have E : (v = y ∧ (t + 7 - fst v) / 7 + 1 = k + 1) ∨ (v = y + 1 ∧ (t + 7 - fst v) / 7 + 1 = 1) := by
              have hk := HK.out
              have hY := Y3.out
              by_cases hvy : t + 7 < fst (y + 1)
              · left
                have e := year_uniq y0 hv.1 (by omega) hvy hv.2.2.1 hv.2.2.2
                subst e
                exact ⟨rfl, by omega⟩
              · right
                have s2 := fst_succ (y + 1) (by omega)
                have l2 := lp_01 (y + 1)
                have e := year_uniq (z := v) (y := y + 1) (n := t + 7) (by omega) hv.1 (by omega) (by omega) hv.2.2.1 hv.2.2.2
                subst e
                exact ⟨rfl, by omega⟩
            have HE : Hid ((v = y ∧ (t + 7 - fst v) / 7 + 1 = k + 1) ∨ (v = y + 1 ∧ (t + 7 - fst v) / 7 + 1 = 1)) := E
            have vb : 0 ≤ v ∧ v ≤ 20001 := by omega
            clear E hv m72
            generalize (t + 7 - fst v) / 7 + 1 = q at *
            have hT3 : t - 3 + 3 = t := by omega
            go_wp2_with fail
            refine (implDateOf_yes _ _ T2 (by omega) (by omega)).mono ?_
            rintro e w4 ⟨⟨yy, mm, dd, rfl, ok, hn⟩, hb4⟩
            have hyy := num_year ok
            have k1' := ((okD_iff _ _ _).1 ok).1
            have ey : yy = y := year_uniq k1' y0 hyy.1 hyy.2 (by omega) (by have := Y3.out; omega)
            subst ey
            have hfld : ∀ w : World, (Instr.field 28 (.agg #[.int .i64 yy, .int .i64 mm, .int .i64 dd]) 0).run Tryd.prog w = .ok (.int .i64 yy) w := fun _ => by kernel_rfl
            have hbw := hb.trans (hb4.mono hb.size)
            clear ok hn hyy k1' hb4 hT3
            rcases HE.out with ⟨rfl, rfl⟩ | ⟨rfl, rfl⟩
            · go_wp2
              go_ret
              exact ⟨by first | rfl | simp, hbw⟩
            · have e1 : (yy + 1 == yy) = false := by rw [beq_eq_false_iff_ne]; omega
              go_wp2
              go_ret
              exact ⟨by first | rfl | simp, hbw⟩
    · have HN : Hid (n < 0 ∨ 3652058 < n) := by unfold Hid; omega
      go_wp2_with fail
      refine (implWeekOf_no n _ HN.out).mono ?_
      rintro e w1' ⟨rfl, rfl⟩
      go_wp2_with fail
      refine (specWeekOf_no n _ HN.out).mono ?_
      rintro e w1' ⟨rfl, rfl⟩
      by_cases k0 : n < 0
      · go_wp2
        go_ret
        exact ⟨by simp, hb1⟩
      · have k1 : 3652044 < n := by omega
        go_wp2
        go_ret
        exact ⟨by simp, hb1⟩
  · obtain ⟨h1, h2, _⟩ := h
    go_enter Tryd.func6, Tryd.ntmps6
    go_wp2
    go_ret
    exact ⟨rfl, Below.refl _ _⟩
end Go.Proofs.YtllpaojjpefgaaaDoor
