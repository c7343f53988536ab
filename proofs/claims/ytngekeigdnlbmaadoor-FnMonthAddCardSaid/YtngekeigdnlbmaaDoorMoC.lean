/- Months added: MonthAdd of the specification, where there is such a month. -/
import Derived.Test.YtngekeigdnlbmaaDoorMoB
namespace Go.Proofs.YtngekeigdnlbmaaDoor
open Go.RowKit
set_option linter.unusedVariables false
set_option maxHeartbeats 2000000 in
theorem specMonthAdd_yes (y m d n : Int) (w : World) (h : okD y m d = true) (hn0 : -120000 ≤ n) (hn1 : n ≤ 120000) (hk0 : 0 ≤ mon y m n) (hk1 : mon y m n < 119988) :
    Calls Tryd.prog 12 #[.agg #[.int .i64 y, .int .i64 m, .int .i64 d], .int .i64 n] w fun e w' => e = .returned (.agg #[.int .i64 (moY (mon y m n)), .int .i64 (moM (mon y m n)), .int .i64 (moD (mon y m n) d)]) ∧ Below w.heap.size w w' := by
  have hb0 : Below w.heap.size w ((w.alloc (.cells #[.int .i64 y, .int .i64 m, .int .i64 d] 24)).alloc (.cells #[.int .i64 0, .int .i64 0, .int .i64 0] 24)) := ((Below.refl _ _).alloc (Nat.le_refl _) _).alloc (by simp) _
  have HOK : Hid (okD y m d = true) := h
  have hin : inB n (-120000) 120000 = true := in_yes hn0 hn1
  obtain ⟨k1, k2, k3, k4, k5, k6⟩ := (okD_iff _ _ _).1 h
  have dbm := dim_bd y m
  have k7 : d ≤ 31 := by omega
  clear h k6 dbm
  have q0 : ¬ y * 12 + m - 1 + n < 12 := by unfold mon at hk0; omega
  have q1 : ¬ 120000 ≤ y * 12 + m - 1 + n := by unfold mon at hk1; omega
  have eY : moY (mon y m n) = (y * 12 + m - 1 + n) / 12 := by unfold moY mon; omega
  have eM : moM (mon y m n) = (y * 12 + m - 1 + n) % 12 + 1 := by unfold moM mon; omega
  have db := dim_bd ((y * 12 + m - 1 + n) / 12) ((y * 12 + m - 1 + n) % 12 + 1)
  have eD : moD (mon y m n) d = if d ≤ dim ((y * 12 + m - 1 + n) / 12) ((y * 12 + m - 1 + n) % 12 + 1) then d else dim ((y * 12 + m - 1 + n) / 12) ((y * 12 + m - 1 + n) % 12 + 1) := by unfold moD; rw [eY, eM]
  by_cases hgt : dim ((y * 12 + m - 1 + n) / 12) ((y * 12 + m - 1 + n) % 12 + 1) < d
  · rw [if_neg (by omega)] at eD
    have HE : Hid (moY (mon y m n) = (y * 12 + m - 1 + n) / 12 ∧ moM (mon y m n) = (y * 12 + m - 1 + n) % 12 + 1 ∧ moD (mon y m n) d = dim ((y * 12 + m - 1 + n) / 12) ((y * 12 + m - 1 + n) % 12 + 1)) := ⟨eY, eM, eD⟩
    clear eY eM eD hk0 hk1
    go_enter Tryd.func12, Tryd.ntmps12
    go_wp2_with fail
    refine (specDateOk y m d _).mono ?_
    rintro e w1 ⟨rfl, hb1⟩
    rw [HOK.out]
    obtain ⟨hc, hf⟩ := bcell hb1
    have hs := hb1.size
    simp at hs
    have hs2 : w.heap.size + 1 < w1.heap.size := by omega
    have hs3 : w.heap.size < w1.heap.size := by omega
    have hbw := hb0.trans (hb1.mono (by simp; omega))
    clear hb0 hb1
    go_wp2_with (first | (go_at_call 36; refine (specIn _ _ _ _).mono ?_; rintro e w' ⟨rfl, rfl⟩) | (go_at_call 37; refine (specMonth _ _ _ _ (by omega) (by omega) (by omega) (by omega) (by omega) (by omega) (by omega)).mono ?_; rintro e w' ⟨rfl, rfl⟩))
    go_quiet ((go_at_call 38; exact Calls.quiet_of_same (specDays _ _ _ (by omega) (by omega) (by omega) (by omega))))
    go_wp2_with (first | (go_at_call 38; refine (specDays _ _ _ (by omega) (by omega) (by omega) (by omega)).mono ?_; rintro e w' ⟨rfl, rfl⟩))
    have hbs := hbw.size
    refine bodyPost_ret (v := .agg #[.int .i64 (moY (mon y m n)), .int .i64 (moM (mon y m n)), .int .i64 (moD (mon y m n) d)]) ?_ rfl ⟨rfl, ?_⟩
    · rw [HE.out.1, HE.out.2.1, HE.out.2.2]; simp [results, Tryd.results12, go_sem, hc, hs2]
    · exact (((((Below.drewN' (hbw.alloc hbw.size _) _).setCell hbs _).setCell (p := ⟨w.heap.size + 1, 0, none⟩) (Nat.le_succ _) _).setCell (p := ⟨w.heap.size + 1, 1, none⟩) (Nat.le_succ _) _).setCell (p := ⟨w.heap.size + 1, 2, none⟩) (Nat.le_succ _) _)
  · rw [if_pos (by omega)] at eD
    have HE : Hid (moY (mon y m n) = (y * 12 + m - 1 + n) / 12 ∧ moM (mon y m n) = (y * 12 + m - 1 + n) % 12 + 1 ∧ moD (mon y m n) d = d) := ⟨eY, eM, eD⟩
    clear eY eM eD hk0 hk1
    go_enter Tryd.func12, Tryd.ntmps12
    go_wp2_with fail
    refine (specDateOk y m d _).mono ?_
    rintro e w1 ⟨rfl, hb1⟩
    rw [HOK.out]
    obtain ⟨hc, hf⟩ := bcell hb1
    have hs := hb1.size
    simp at hs
    have hs2 : w.heap.size + 1 < w1.heap.size := by omega
    have hs3 : w.heap.size < w1.heap.size := by omega
    have hbw := hb0.trans (hb1.mono (by simp; omega))
    clear hb0 hb1
    go_wp2_with (first | (go_at_call 36; refine (specIn _ _ _ _).mono ?_; rintro e w' ⟨rfl, rfl⟩) | (go_at_call 37; refine (specMonth _ _ _ _ (by omega) (by omega) (by omega) (by omega) (by omega) (by omega) (by omega)).mono ?_; rintro e w' ⟨rfl, rfl⟩))
    go_quiet ((go_at_call 38; exact Calls.quiet_of_same (specDays _ _ _ (by omega) (by omega) (by omega) (by omega))))
    go_wp2_with (first | (go_at_call 38; refine (specDays _ _ _ (by omega) (by omega) (by omega) (by omega)).mono ?_; rintro e w' ⟨rfl, rfl⟩))
    have hbs := hbw.size
    refine bodyPost_ret (v := .agg #[.int .i64 (moY (mon y m n)), .int .i64 (moM (mon y m n)), .int .i64 (moD (mon y m n) d)]) ?_ rfl ⟨rfl, ?_⟩
    · rw [HE.out.1, HE.out.2.1, HE.out.2.2]; simp [results, Tryd.results12, go_sem, hc, hs2]
    · exact ((((Below.drewN' (hbw.alloc hbw.size _) _).setCell (p := ⟨w.heap.size + 1, 0, none⟩) (Nat.le_succ _) _).setCell (p := ⟨w.heap.size + 1, 1, none⟩) (Nat.le_succ _) _).setCell (p := ⟨w.heap.size + 1, 2, none⟩) (Nat.le_succ _) _)
theorem specMonthAdd (y m d n : Int) (w : World) :
    Calls Tryd.prog 12 #[.agg #[.int .i64 y, .int .i64 m, .int .i64 d], .int .i64 n] w fun e w' => e = .returned (.agg #[.int .i64 (maY y m d n), .int .i64 (maM y m d n), .int .i64 (maD y m d n)]) ∧ Below w.heap.size w w' := by
  cases h : okD y m d with
  | true =>
    by_cases hn : -120000 ≤ n ∧ n ≤ 120000
    · by_cases hc : 0 ≤ mon y m n ∧ mon y m n < 119988
      · refine (specMonthAdd_yes y m d n w h hn.1 hn.2 hc.1 hc.2).mono fun e w' hh => ⟨?_, hh.2⟩
        rw [hh.1]
        have := ma_yes (moB_yes h ⟨hn.1, hn.2, hc.1, hc.2⟩)
        exact agg3 ⟨this.1.symm, this.2.1.symm, this.2.2.symm⟩
      · refine (specMonthAdd_out y m d n w h hn.1 hn.2 (by omega)).mono fun e w' hh => ⟨?_, hh.2⟩
        rw [hh.1]
        have := ma_no (moB_no2 (d := d) (fun h => hc ⟨h.2.2.1, h.2.2.2⟩))
        exact agg3 ⟨this.1.symm, this.2.1.symm, this.2.2.symm⟩
    · refine (specMonthAdd_far y m d n w h (by omega)).mono fun e w' hh => ⟨?_, hh.2⟩
      rw [hh.1]
      have := ma_no (moB_no2 (y := y) (m := m) (d := d) (n := n) (fun h => hn ⟨h.1, h.2.1⟩))
      exact agg3 ⟨this.1.symm, this.2.1.symm, this.2.2.symm⟩
  | false =>
    refine (specMonthAdd_bad y m d n w h).mono fun e w' hh => ⟨?_, hh.2⟩
    rw [hh.1]
    have := ma_no (moB_no1 (n := n) h)
    exact agg3 ⟨this.1.symm, this.2.1.symm, this.2.2.symm⟩
end Go.Proofs.YtngekeigdnlbmaaDoor
