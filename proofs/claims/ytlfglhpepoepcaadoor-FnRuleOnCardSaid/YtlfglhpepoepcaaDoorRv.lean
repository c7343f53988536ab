/- Rules of the program: when one is ok. -/
import Derived.Test.YtlfglhpepoepcaaDoorRu
namespace Go.Proofs.YtlfglhpepoepcaaDoor
open Go.RowKit
set_option linter.unusedVariables false
theorem implWeekDayR (n : Int) (w : World) (r : Bool) (hr : inB n 0 6 = r) : Calls Tryd.prog 83 #[.int .i64 n] w fun e w' => e = .returned (.bool r) ∧ w' = w := by
  subst hr
  by_cases h0 : 0 ≤ n
  · go_enter Tryd.func83, Tryd.ntmps83
    go_wp2
    go_ret
    exact ⟨ret_b (by unfold inB; simp [h0]; omega), rfl⟩
  · go_enter Tryd.func83, Tryd.ntmps83
    go_wp2
    go_ret
    exact ⟨ret_b (by unfold inB; simp; omega), rfl⟩
theorem implDayR (n : Int) (w : World) (r : Bool) (hr : inB n 0 3652058 = r) : Calls Tryd.prog 44 #[.int .i64 n] w fun e w' => e = .returned (.bool r) ∧ w' = w := by
  subst hr
  by_cases h0 : 0 ≤ n
  · go_enter Tryd.func44, Tryd.ntmps44
    go_wp2
    go_ret
    exact ⟨ret_b (by unfold inB; simp [h0]), rfl⟩
  · go_enter Tryd.func44, Tryd.ntmps44
    go_wp2
    go_ret
    exact ⟨ret_b (by unfold inB; simp; omega), rfl⟩
theorem implByAhead (x y x' y' : Int) (w : World) (r : Bool) (hr : ahB x y x' y' = r) : Calls Tryd.prog 85 #[.agg #[.int .i64 x, .int .i64 y], .agg #[.int .i64 x', .int .i64 y']] w fun e w' => e = .returned (.bool r) ∧ Below w.heap.size w w' := by
  subst hr
  have hb0 := ((Below.refl w.heap.size w).alloc (Nat.le_refl _) (.cells #[.int .i64 x, .int .i64 y] 38)).alloc (by simp) (.cells #[.int .i64 x', .int .i64 y'] 38)
  by_cases h0 : y < y'
  · have H : Hid (ahB x y x' y' = true) := (ah_iff _ _ _ _).2 (.inl h0)
    go_enter Tryd.func85, Tryd.ntmps85
    go_wp2
    first | go_quiet (fail) | skip
    go_wp2
    go_ret
    exact ⟨ret_b (by rw [H.out]; first | done | simp), by first | exact hb0 | exact Below.drewN' hb0 _⟩
  · by_cases h1 : y = y'
    · subst h1
      have H : Hid (ahB x y x' y = decide (x < x')) := by unfold Hid ahB; simp
      go_enter Tryd.func85, Tryd.ntmps85
      go_wp2
      first | go_quiet (fail) | skip
      go_wp2
      go_ret
      exact ⟨ret_b (by rw [H.out]; first | done | simp), by first | exact hb0 | exact Below.drewN' hb0 _⟩
    · have H : Hid (ahB x y x' y' = false) := (ah_not _ _ _ _).2 (by omega)
      go_enter Tryd.func85, Tryd.ntmps85
      go_wp2
      first | go_quiet (fail) | skip
      go_wp2
      go_ret
      exact ⟨ret_b (by rw [H.out]; first | done | simp), by first | exact hb0 | exact Below.drewN' hb0 _⟩
set_option maxHeartbeats 2000000 in
theorem implNumMost (f ev ct un : Int) (a0 : Option Addr) (c0 : Nat) (ds : List (Int × Int)) (a1 : Option Addr) (c1 : Nat) (da : List Int) (a2 : Option Addr) (c2 : Nat) (mo : List Int) (a3 : Option Addr) (c3 : Nat) (pl : List Int) (wk : Int) (w : World) : Calls Tryd.prog 84 #[.agg #[.int .i64 f, .int .i64 ev, .int .i64 ct, .int .i64 un, .slice a0 ds.length c0, .slice a1 da.length c1, .slice a2 mo.length c2, .slice a3 pl.length c3, .int .i64 wk]] w fun e w' => e = .returned (.int .i64 (numM f mo.length)) ∧ Below w.heap.size w w' := by
  have hb0 := (Below.refl w.heap.size w).alloc (Nat.le_refl _) (.cells #[.int .i64 f, .int .i64 ev, .int .i64 ct, .int .i64 un, .slice a0 ds.length c0, .slice a1 da.length c1, .slice a2 mo.length c2, .slice a3 pl.length c3, .int .i64 wk] 26)
  by_cases h4 : f = 4
  · subst h4
    by_cases h0 : mo = []
    · subst h0
      have H : Hid (numM 4 ([] : List Int).length = 53) := if_pos ⟨rfl, rfl⟩
      go_enter Tryd.func84, Tryd.ntmps84
      go_wp2
      first | go_quiet (fail) | skip
      go_wp2
      go_ret
      exact ⟨ret_i H.out.symm, by first | exact hb0 | exact Below.drewN' hb0 _⟩
    · have h1 : 0 < mo.length := List.length_pos_iff.2 h0
      clear h0
      have H : Hid (numM 4 mo.length = 5) := by unfold Hid numM; rw [if_neg (by omega), if_pos (.inl rfl)]
      go_enter Tryd.func84, Tryd.ntmps84
      go_wp2
      first | go_quiet (fail) | skip
      go_wp2
      go_ret
      exact ⟨ret_i H.out.symm, by first | exact hb0 | exact Below.drewN' hb0 _⟩
  · by_cases h3 : f = 3
    · subst h3
      have H : Hid (numM 3 mo.length = 5) := by unfold Hid numM; rw [if_neg (by omega), if_pos (.inr rfl)]
      go_enter Tryd.func84, Tryd.ntmps84
      go_wp2
      first | go_quiet (fail) | skip
      go_wp2
      go_ret
      exact ⟨ret_i H.out.symm, by first | exact hb0 | exact Below.drewN' hb0 _⟩
    · have H : Hid (numM f mo.length = 0) := by unfold Hid numM; rw [if_neg (by omega), if_neg (by omega)]
      have b4 : (f == 4) = false := by simpa using h4
      have b3 : (f == 3) = false := by simpa using h3
      go_enter Tryd.func84, Tryd.ntmps84
      go_wp2
      first | go_quiet (fail) | skip
      go_wp2
      go_ret
      exact ⟨ret_i H.out.symm, by first | exact hb0 | exact Below.drewN' hb0 _⟩
set_option maxHeartbeats 8000000 in
theorem implOften (f ev ct un : Int) (a0 : Option Addr) (c0 : Nat) (ds : List (Int × Int)) (a1 : Option Addr) (c1 : Nat) (da : List Int) (a2 : Option Addr) (c2 : Nat) (mo : List Int) (a3 : Option Addr) (c3 : Nat) (pl : List Int) (wk : Int) (w : World) : Calls Tryd.prog 65 #[.agg #[.int .i64 f, .int .i64 ev, .int .i64 ct, .int .i64 un, .slice a0 ds.length c0, .slice a1 da.length c1, .slice a2 mo.length c2, .slice a3 pl.length c3, .int .i64 wk]] w fun z w' => z = .returned (.bool (ofB f ev ct un wk)) ∧ Below w.heap.size w w' := by
  have hb0 := (Below.refl w.heap.size w).alloc (Nat.le_refl _) (.cells #[.int .i64 f, .int .i64 ev, .int .i64 ct, .int .i64 un, .slice a0 ds.length c0, .slice a1 da.length c1, .slice a2 mo.length c2, .slice a3 pl.length c3, .int .i64 wk] 26)
  have BAD : Hid (¬ ((1 ≤ f ∧ f ≤ 4) ∧ (1 ≤ ev ∧ ev ≤ 100) ∧ (0 ≤ ct ∧ ct ≤ 500) ∧ (0 ≤ un ∧ un ≤ 3652058) ∧ (ct = 0 ∨ un = 0) ∧ (0 ≤ wk ∧ wk ≤ 6)) → ofB f ev ct un wk = false) := fun h => by
    rw [← of_iff] at h; simpa using h
  generalize hu : inB un 0 3652058 = bu
  generalize hw : inB wk 0 6 = bw
  by_cases k0 : 1 ≤ f
  rotate_left
  · have HB : Hid (ofB f ev ct un wk = false) := BAD.out (by omega)
    go_enter Tryd.func65, Tryd.ntmps65
    go_wp2_with (first | (go_at_call 44; refine (implDayR _ _ _ hu).mono ?_; rintro e w' ⟨rfl, rfl⟩) | (go_at_call 83; refine (implWeekDayR _ _ _ hw).mono ?_; rintro e w' ⟨rfl, rfl⟩))
    first | go_quiet (first | (go_at_call 44; exact Calls.quiet_of_same (implDayR _ _ _ hu)) | (go_at_call 83; exact Calls.quiet_of_same (implWeekDayR _ _ _ hw))) | skip
    go_wp2
    go_ret
    exact ⟨ret_b (by rw [HB.out]; first | done | simp), by first | exact hb0 | exact Below.drewN' hb0 _⟩
  by_cases k1 : f ≤ 4
  rotate_left
  · have HB : Hid (ofB f ev ct un wk = false) := BAD.out (by omega)
    go_enter Tryd.func65, Tryd.ntmps65
    go_wp2_with (first | (go_at_call 44; refine (implDayR _ _ _ hu).mono ?_; rintro e w' ⟨rfl, rfl⟩) | (go_at_call 83; refine (implWeekDayR _ _ _ hw).mono ?_; rintro e w' ⟨rfl, rfl⟩))
    first | go_quiet (first | (go_at_call 44; exact Calls.quiet_of_same (implDayR _ _ _ hu)) | (go_at_call 83; exact Calls.quiet_of_same (implWeekDayR _ _ _ hw))) | skip
    go_wp2
    go_ret
    exact ⟨ret_b (by rw [HB.out]; first | done | simp), by first | exact hb0 | exact Below.drewN' hb0 _⟩
  by_cases k2 : 1 ≤ ev
  rotate_left
  · have HB : Hid (ofB f ev ct un wk = false) := BAD.out (by omega)
    go_enter Tryd.func65, Tryd.ntmps65
    go_wp2_with (first | (go_at_call 44; refine (implDayR _ _ _ hu).mono ?_; rintro e w' ⟨rfl, rfl⟩) | (go_at_call 83; refine (implWeekDayR _ _ _ hw).mono ?_; rintro e w' ⟨rfl, rfl⟩))
    first | go_quiet (first | (go_at_call 44; exact Calls.quiet_of_same (implDayR _ _ _ hu)) | (go_at_call 83; exact Calls.quiet_of_same (implWeekDayR _ _ _ hw))) | skip
    go_wp2
    go_ret
    exact ⟨ret_b (by rw [HB.out]; first | done | simp), by first | exact hb0 | exact Below.drewN' hb0 _⟩
  by_cases k3 : ev ≤ 100
  rotate_left
  · have HB : Hid (ofB f ev ct un wk = false) := BAD.out (by omega)
    go_enter Tryd.func65, Tryd.ntmps65
    go_wp2_with (first | (go_at_call 44; refine (implDayR _ _ _ hu).mono ?_; rintro e w' ⟨rfl, rfl⟩) | (go_at_call 83; refine (implWeekDayR _ _ _ hw).mono ?_; rintro e w' ⟨rfl, rfl⟩))
    first | go_quiet (first | (go_at_call 44; exact Calls.quiet_of_same (implDayR _ _ _ hu)) | (go_at_call 83; exact Calls.quiet_of_same (implWeekDayR _ _ _ hw))) | skip
    go_wp2
    go_ret
    exact ⟨ret_b (by rw [HB.out]; first | done | simp), by first | exact hb0 | exact Below.drewN' hb0 _⟩
  by_cases k4 : 0 ≤ ct
  rotate_left
  · have HB : Hid (ofB f ev ct un wk = false) := BAD.out (by omega)
    go_enter Tryd.func65, Tryd.ntmps65
    go_wp2_with (first | (go_at_call 44; refine (implDayR _ _ _ hu).mono ?_; rintro e w' ⟨rfl, rfl⟩) | (go_at_call 83; refine (implWeekDayR _ _ _ hw).mono ?_; rintro e w' ⟨rfl, rfl⟩))
    first | go_quiet (first | (go_at_call 44; exact Calls.quiet_of_same (implDayR _ _ _ hu)) | (go_at_call 83; exact Calls.quiet_of_same (implWeekDayR _ _ _ hw))) | skip
    go_wp2
    go_ret
    exact ⟨ret_b (by rw [HB.out]; first | done | simp), by first | exact hb0 | exact Below.drewN' hb0 _⟩
  by_cases k5 : ct ≤ 500
  rotate_left
  · have HB : Hid (ofB f ev ct un wk = false) := BAD.out (by omega)
    go_enter Tryd.func65, Tryd.ntmps65
    go_wp2_with (first | (go_at_call 44; refine (implDayR _ _ _ hu).mono ?_; rintro e w' ⟨rfl, rfl⟩) | (go_at_call 83; refine (implWeekDayR _ _ _ hw).mono ?_; rintro e w' ⟨rfl, rfl⟩))
    first | go_quiet (first | (go_at_call 44; exact Calls.quiet_of_same (implDayR _ _ _ hu)) | (go_at_call 83; exact Calls.quiet_of_same (implWeekDayR _ _ _ hw))) | skip
    go_wp2
    go_ret
    exact ⟨ret_b (by rw [HB.out]; first | done | simp), by first | exact hb0 | exact Below.drewN' hb0 _⟩
  cases bu with
  | false =>
    have hu' := (in_not _ _ _).1 hu
    have HB : Hid (ofB f ev ct un wk = false) := BAD.out (by omega)
    go_enter Tryd.func65, Tryd.ntmps65
    go_wp2_with (first | (go_at_call 44; refine (implDayR _ _ _ hu).mono ?_; rintro e w' ⟨rfl, rfl⟩) | (go_at_call 83; refine (implWeekDayR _ _ _ hw).mono ?_; rintro e w' ⟨rfl, rfl⟩))
    first | go_quiet (first | (go_at_call 44; exact Calls.quiet_of_same (implDayR _ _ _ hu)) | (go_at_call 83; exact Calls.quiet_of_same (implWeekDayR _ _ _ hw))) | skip
    go_wp2
    go_ret
    exact ⟨ret_b (by rw [HB.out]; first | done | simp), by first | exact hb0 | exact Below.drewN' hb0 _⟩
  | true =>
    have hu' := (in_iff _ _ _).1 hu
    by_cases z0 : ct = 0
    · subst z0
      have HB : Hid (ofB f ev 0 un wk = bw) := by unfold Hid ofB; rw [in_yes k0 k1, in_yes k2 k3, in_yes k4 k5, hu, hw]; simp
      go_enter Tryd.func65, Tryd.ntmps65
      go_wp2_with (first | (go_at_call 44; refine (implDayR _ _ _ hu).mono ?_; rintro e w' ⟨rfl, rfl⟩) | (go_at_call 83; refine (implWeekDayR _ _ _ hw).mono ?_; rintro e w' ⟨rfl, rfl⟩))
      first | go_quiet (first | (go_at_call 44; exact Calls.quiet_of_same (implDayR _ _ _ hu)) | (go_at_call 83; exact Calls.quiet_of_same (implWeekDayR _ _ _ hw))) | skip
      go_wp2
      go_ret
      exact ⟨ret_b (by rw [HB.out]; first | done | simp), by first | exact hb0 | exact Below.drewN' hb0 _⟩
    · have b0 : (ct == 0) = false := by simpa using z0
      by_cases z1 : un = 0
      · subst z1
        have HB : Hid (ofB f ev ct 0 wk = bw) := by unfold Hid ofB; rw [in_yes k0 k1, in_yes k2 k3, in_yes k4 k5, hu, hw]; simp
        go_enter Tryd.func65, Tryd.ntmps65
        go_wp2_with (first | (go_at_call 44; refine (implDayR _ _ _ hu).mono ?_; rintro e w' ⟨rfl, rfl⟩) | (go_at_call 83; refine (implWeekDayR _ _ _ hw).mono ?_; rintro e w' ⟨rfl, rfl⟩))
        first | go_quiet (first | (go_at_call 44; exact Calls.quiet_of_same (implDayR _ _ _ hu)) | (go_at_call 83; exact Calls.quiet_of_same (implWeekDayR _ _ _ hw))) | skip
        go_wp2
        go_ret
        exact ⟨ret_b (by rw [HB.out]; first | done | simp), by first | exact hb0 | exact Below.drewN' hb0 _⟩
      · have b1 : (un == 0) = false := by simpa using z1
        have HB : Hid (ofB f ev ct un wk = false) := BAD.out (by omega)
        go_enter Tryd.func65, Tryd.ntmps65
        go_wp2_with (first | (go_at_call 44; refine (implDayR _ _ _ hu).mono ?_; rintro e w' ⟨rfl, rfl⟩) | (go_at_call 83; refine (implWeekDayR _ _ _ hw).mono ?_; rintro e w' ⟨rfl, rfl⟩))
        first | go_quiet (first | (go_at_call 44; exact Calls.quiet_of_same (implDayR _ _ _ hu)) | (go_at_call 83; exact Calls.quiet_of_same (implWeekDayR _ _ _ hw))) | skip
        go_wp2
        go_ret
        exact ⟨ret_b (by rw [HB.out]; first | done | simp), by first | exact hb0 | exact Below.drewN' hb0 _⟩
end Go.Proofs.YtlfglhpepoepcaaDoor
