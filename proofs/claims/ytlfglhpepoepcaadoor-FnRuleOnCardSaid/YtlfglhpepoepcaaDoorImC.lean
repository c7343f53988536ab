/- The program's small functions of the calendar: what each answers. -/
import Derived.Test.YtlfglhpepoepcaaDoorBs
import Derived.Test.YtlfglhpepoepcaaDoorCal
import Derived.Test.YtlfglhpepoepcaaDoorTab
import Derived.Deep.QuietTactic
import Derived.BigQuiet
import Derived.Outline
namespace Go.Proofs.YtlfglhpepoepcaaDoor
open Go.RowKit
set_option linter.unusedVariables false

def yrB (y : Int) : Bool := decide (1 ≤ y ∧ y ≤ 9999)
set_option maxHeartbeats 400000 in
theorem implLeap (y : Int) (w : World) (h0 : 0 ≤ y) (h1 : y ≤ 20000) :
    Calls Tryd.prog 64 #[.int .i64 y] w fun e w' => e = .returned (.bool (lpB y)) ∧ w' = w := by
  by_cases a : y % 4 = 0
  · by_cases b : y % 100 = 0
    · by_cases c : y % 400 = 0
      · have hl : lpB y = true := (lpB_iff y).2 (by omega)
        go_enter Tryd.func64, Tryd.ntmps64
        go_wp2
        go_ret
        exact ⟨ret_b (by first | (rw [hl]; done) | (rw [hl]; simp; done) | (rw [hl]; simp; omega)), rfl⟩
      · have hl : lpB y = false := (lpB_not y).2 (by omega)
        go_enter Tryd.func64, Tryd.ntmps64
        go_wp2
        go_ret
        exact ⟨ret_b (by first | (rw [hl]; done) | (rw [hl]; simp; done) | (rw [hl]; simp; omega)), rfl⟩
    · have hl : lpB y = true := (lpB_iff y).2 (by omega)
      go_enter Tryd.func64, Tryd.ntmps64
      go_wp2
      go_ret
      exact ⟨ret_b (by first | (rw [hl]; done) | (rw [hl]; simp; done) | (rw [hl]; simp; omega)), rfl⟩
  · have hl : lpB y = false := (lpB_not y).2 (by omega)
    have c : ¬ y % 400 = 0 := by omega
    go_enter Tryd.func64, Tryd.ntmps64
    go_wp2
    go_ret
    exact ⟨ret_b (by first | (rw [hl]; done) | (rw [hl]; simp; done) | (rw [hl]; simp; omega)), rfl⟩
set_option maxHeartbeats 1000000 in
theorem implSize (y m : Int) (w : World) (ht : Tab w) (h0 : 0 ≤ y) (h1 : y ≤ 20000) (h2 : 1 ≤ m) (h3 : m ≤ 12) :
    Calls Tryd.prog 49 #[.int .i64 y, .int .i64 m] w fun e w' => e = .returned (.int .i64 (dim y m)) ∧ w' = w := by
  rcases twelve h2 h3 with rfl | rfl | rfl | rfl | rfl | rfl | rfl | rfl | rfl | rfl | rfl | rfl
  case inr.inl =>
    have c1 : w.cell? ⟨0, 1, none⟩ = some (.int .i64 28) := ht 1 (by omega)
    clear ht
    cases hl : lpB y with
    | true =>
      have HD : Hid (dim y 2 = 29) := by simp [Hid, dim, lp_yes hl]
      go_enter Tryd.func49, Tryd.ntmps49
      go_wp2_with (go_at_call 64; refine (implLeap _ _ (by omega) (by omega)).mono ?_; rintro e w' ⟨rfl, rfl⟩)
      go_ret
      exact ⟨ret_i HD.out.symm, rfl⟩
    | false =>
      have HD : Hid (dim y 2 = 28) := by simp [Hid, dim, lp_no hl]
      go_enter Tryd.func49, Tryd.ntmps49
      go_wp2_with (go_at_call 64; refine (implLeap _ _ (by omega) (by omega)).mono ?_; rintro e w' ⟨rfl, rfl⟩)
      go_ret
      exact ⟨ret_i HD.out.symm, rfl⟩
  case inl => have c := ht 0 (by omega); clear ht; simp [sizes] at c; go_enter Tryd.func49, Tryd.ntmps49; go_wp2; go_ret; exact ⟨ret_i (by simp [dim]), rfl⟩
  case inr.inr.inl => have c := ht 2 (by omega); clear ht; simp [sizes] at c; go_enter Tryd.func49, Tryd.ntmps49; go_wp2; go_ret; exact ⟨ret_i (by simp [dim]), rfl⟩
  case inr.inr.inr.inl => have c := ht 3 (by omega); clear ht; simp [sizes] at c; go_enter Tryd.func49, Tryd.ntmps49; go_wp2; go_ret; exact ⟨ret_i (by simp [dim]), rfl⟩
  case inr.inr.inr.inr.inl => have c := ht 4 (by omega); clear ht; simp [sizes] at c; go_enter Tryd.func49, Tryd.ntmps49; go_wp2; go_ret; exact ⟨ret_i (by simp [dim]), rfl⟩
  case inr.inr.inr.inr.inr.inl => have c := ht 5 (by omega); clear ht; simp [sizes] at c; go_enter Tryd.func49, Tryd.ntmps49; go_wp2; go_ret; exact ⟨ret_i (by simp [dim]), rfl⟩
  case inr.inr.inr.inr.inr.inr.inl => have c := ht 6 (by omega); clear ht; simp [sizes] at c; go_enter Tryd.func49, Tryd.ntmps49; go_wp2; go_ret; exact ⟨ret_i (by simp [dim]), rfl⟩
  case inr.inr.inr.inr.inr.inr.inr.inl => have c := ht 7 (by omega); clear ht; simp [sizes] at c; go_enter Tryd.func49, Tryd.ntmps49; go_wp2; go_ret; exact ⟨ret_i (by simp [dim]), rfl⟩
  case inr.inr.inr.inr.inr.inr.inr.inr.inl => have c := ht 8 (by omega); clear ht; simp [sizes] at c; go_enter Tryd.func49, Tryd.ntmps49; go_wp2; go_ret; exact ⟨ret_i (by simp [dim]), rfl⟩
  case inr.inr.inr.inr.inr.inr.inr.inr.inr.inl => have c := ht 9 (by omega); clear ht; simp [sizes] at c; go_enter Tryd.func49, Tryd.ntmps49; go_wp2; go_ret; exact ⟨ret_i (by simp [dim]), rfl⟩
  case inr.inr.inr.inr.inr.inr.inr.inr.inr.inr.inl => have c := ht 10 (by omega); clear ht; simp [sizes] at c; go_enter Tryd.func49, Tryd.ntmps49; go_wp2; go_ret; exact ⟨ret_i (by simp [dim]), rfl⟩
  case inr.inr.inr.inr.inr.inr.inr.inr.inr.inr.inr => have c := ht 11 (by omega); clear ht; simp [sizes] at c; go_enter Tryd.func49, Tryd.ntmps49; go_wp2; go_ret; exact ⟨ret_i (by simp [dim]), rfl⟩
def mdays (y m : Int) : Int := if 1 ≤ y ∧ y ≤ 9999 ∧ 1 ≤ m ∧ m ≤ 12 then dim y m else 0
theorem mdays_in {y m : Int} (h : 1 ≤ y ∧ y ≤ 9999 ∧ 1 ≤ m ∧ m ≤ 12) : mdays y m = dim y m := if_pos h
theorem mdays_out {y m : Int} (h : ¬ (1 ≤ y ∧ y ≤ 9999 ∧ 1 ≤ m ∧ m ≤ 12)) : mdays y m = 0 := if_neg h
theorem mdays_bd (y m : Int) : 0 ≤ mdays y m ∧ mdays y m ≤ 31 := by
  have := dim_bd y m
  unfold mdays; split <;> omega
set_option maxHeartbeats 1000000 in
theorem implMonthDays (y m : Int) (w : World) (ht : Tab w) :
    Calls Tryd.prog 27 #[.int .i64 y, .int .i64 m] w fun e w' => e = .returned (.int .i64 (mdays y m)) ∧ w' = w := by
  by_cases h0 : 1 ≤ y
  · by_cases h1 : y ≤ 9999
    · by_cases h2 : 1 ≤ m
      · by_cases h3 : m ≤ 12
        · have HD : Hid (mdays y m = dim y m) := mdays_in ⟨h0, h1, h2, h3⟩
          go_enter Tryd.func27, Tryd.ntmps27
          go_wp2_with (first | (go_at_call 49; refine (implSize _ _ _ ht (by omega) (by omega) (by omega) (by omega)).mono ?_; rintro e w' ⟨rfl, rfl⟩) | go_in)
          go_ret
          exact ⟨ret_i HD.out.symm, rfl⟩
        · have HD : Hid (mdays y m = 0) := mdays_out (by omega)
          go_enter Tryd.func27, Tryd.ntmps27
          go_wp2
          go_ret
          exact ⟨ret_i HD.out.symm, rfl⟩
      · have HD : Hid (mdays y m = 0) := mdays_out (by omega)
        go_enter Tryd.func27, Tryd.ntmps27
        go_wp2
        go_ret
        exact ⟨ret_i HD.out.symm, rfl⟩
    · have HD : Hid (mdays y m = 0) := mdays_out (by omega)
      go_enter Tryd.func27, Tryd.ntmps27
      go_wp2
      go_ret
      exact ⟨ret_i HD.out.symm, rfl⟩
  · have HD : Hid (mdays y m = 0) := mdays_out (by omega)
    go_enter Tryd.func27, Tryd.ntmps27
    go_wp2
    go_ret
    exact ⟨ret_i HD.out.symm, rfl⟩
theorem implDate (y m d : Int) (w : World) :
    Calls Tryd.prog 46 #[.agg #[.int .i64 y, .int .i64 m, .int .i64 d]] w fun e w' => e = .returned (.agg #[.int .i64 y, .int .i64 m, .int .i64 d]) ∧ Below w.heap.size w w' := by
  go_enter Tryd.func46, Tryd.ntmps46
  go_wp2
  exact bodyPost_ret (v := .agg #[.int .i64 y, .int .i64 m, .int .i64 d]) (by simp [results, Tryd.results46, go_sem]) rfl ⟨rfl, ((Below.refl _ _).alloc (Nat.le_refl _) _).alloc (by simp) _⟩
theorem implStart (y : Int) (w : World) (h0 : 1 ≤ y) (h1 : y ≤ 20000) :
    Calls Tryd.prog 63 #[.int .i64 y] w fun e w' => e = .returned (.int .i64 (fst y)) ∧ w' = w := by
  go_enter Tryd.func63, Tryd.ntmps63
  go_wp2
  go_ret
  exact ⟨ret_i (by unfold fst; omega), rfl⟩
set_option maxHeartbeats 1000000 in
theorem implYear (n : Int) (w : World) (h0 : 0 ≤ n) (h1 : n ≤ 4000000) :
    Calls Tryd.prog 62 #[.int .i64 n] w fun e w' => (∃ y : Int, e = .returned (.int .i64 y) ∧ 1 ≤ y ∧ y ≤ 20000 ∧ fst y ≤ n ∧ n < fst (y + 1)) ∧ w' = w := by
  go_enter Tryd.func62, Tryd.ntmps62
  go_wp2
  all_goals
    go_ret
    first
      | exact ⟨⟨_, rfl, year_ll n h0 h1 (by assumption) (by assumption) _ rfl⟩, rfl⟩
      | exact ⟨⟨_, rfl, year_lg n h0 h1 (by assumption) (by assumption) _ rfl⟩, rfl⟩
      | exact ⟨⟨_, rfl, year_gl n h0 h1 (by assumption) (by assumption) _ rfl⟩, rfl⟩
      | exact ⟨⟨_, rfl, year_gg n h0 h1 (by assumption) (by assumption) _ rfl⟩, rfl⟩
set_option maxHeartbeats 1000000 in
theorem implNumber (y m d : Int) (w : World) (ht : Tab w) (h0 : 1 ≤ y) (h1 : y ≤ 9999) (h2 : 1 ≤ m) (h3 : m ≤ 12) (h4 : -100 ≤ d) (h5 : d ≤ 100) :
    Calls Tryd.prog 101 #[.agg #[.int .i64 y, .int .i64 m, .int .i64 d]] w fun e w' => e = .returned (.int .i64 (num y m d)) ∧ Below w.heap.size w w' := by
  have hb : ∀ n, Below w.heap.size w ((w.alloc (.cells #[.int .i64 y, .int .i64 m, .int .i64 d] 56)).drewN n) := fun n => Below.drewN' ((Below.refl _ _).alloc (Nat.le_refl _) _) n
  have HT : Hid (∀ n, Tab ((w.alloc (.cells #[.int .i64 y, .int .i64 m, .int .i64 d] 56)).drewN n)) := fun n => ht.on (hb n)
  have HB : Hid (∀ n, Below w.heap.size w ((w.alloc (.cells #[.int .i64 y, .int .i64 m, .int .i64 d] 56)).drewN n)) := hb
  clear hb ht
  have hf := fst_bd y h0 (by omega)
  have k1 := IntWalk.i64_in (fst y + d) (by omega)
  have k2 := IntWalk.i64_in (fst y + d - 1) (by omega)
  go_enter Tryd.func101, Tryd.ntmps101
  go_wp2
  go_quiet ((go_at_call 63; exact Calls.quiet_of_same (implStart _ _ (by omega) (by omega))))
  clear k1 k2
  go_wp2
  go_loop [3, 4] (fun n k => ∃ j : Int, 1 ≤ j ∧ j ≤ m ∧ k = .int .i64 j ∧ n = .int .i64 (fst y + d - 1 + cum y j)) (fun _ k => (m - intOf k).toNat)
  case atStart => exact ⟨1, by omega, by omega, rfl, by rw [cum_one, Int.add_zero]⟩
  case round =>
    obtain ⟨j, hj1, hj2, rfl, rfl⟩ := hrel
    have cb := cum_bd y j hj1 (by omega)
    have db := dim_bd y j
    by_cases hlt : j < m
    · have CS : Hid (cum y (j + 1) = cum y j + dim y j) := cum_succ y j hj1 (by omega)
      go_wp2_with (go_at_call 49; refine (implSize _ _ _ (HT.out _) (by omega) (by omega) (by omega) (by omega)).mono ?_; rintro e w' ⟨rfl, rfl⟩)
      go_round
      case rel => exact ⟨j + 1, by omega, by omega, rfl, by rw [CS.out]; go_num⟩
      case measure => simp [intOf]; omega
    · have hm : j = m := by omega
      subst hm
      go_wp2
      go_ret
      exact ⟨ret_i (by unfold num; omega), HB.out _⟩
set_option maxHeartbeats 1000000 in
theorem implPartsOf (n : Int) (w : World) (ht : Tab w) (h0 : 0 ≤ n) (h1 : n ≤ 3652058) :
    Calls Tryd.prog 45 #[.int .i64 n] w fun e w' => (∃ y m d : Int, e = .returned (.agg #[.int .i64 y, .int .i64 m, .int .i64 d]) ∧ okD y m d = true ∧ num y m d = n) ∧ Below w.heap.size w w' := by
  have HT : Hid (Tab (w.alloc (.cells #[.int .i64 0, .int .i64 0, .int .i64 0] 56))) := ht.on ((Below.refl _ _).alloc (Nat.le_refl _) _)
  clear ht
  go_enter Tryd.func45, Tryd.ntmps45
  go_wp2_with fail
  refine (implYear n _ h0 (by omega)).mono ?_
  rintro e w1 ⟨⟨y, rfl, y0, y1, y2, y3⟩, rfl⟩
  have y4 : y ≤ 9999 := by
    by_cases h : y ≤ 9999
    · exact h
    · have := fst_mono 10000 y (by omega) (by omega); have := fst_max; omega
  have es := fst_succ y y0
  have l := lp_01 y
  have hr1 : n - fst y ≤ 365 := by omega
  have fb := fst_bd y y0 (by omega)
  have ES : Hid (n < fst y + 365 + lp y) := by unfold Hid; omega
  clear es y3
  go_wp2_with (go_at_call 63; refine (implStart _ _ (by omega) (by omega)).mono ?_; rintro e w' ⟨rfl, rfl⟩)
  go_loop [4, 5] (fun r k => ∃ j : Int, 1 ≤ j ∧ j ≤ 12 ∧ k = .int .i64 j ∧ 0 ≤ n - fst y - cum y j ∧ r = .int .i64 (n - fst y - cum y j)) (fun _ k => (12 - intOf k).toNat)
  case atStart => exact ⟨1, by omega, by omega, rfl, by rw [cum_one]; omega, by rw [cum_one, Int.sub_zero]⟩
  case round =>
    obtain ⟨j, hj1, hj2, rfl, hr, rfl⟩ := hrel
    have cb := cum_bd y j hj1 (by omega)
    have db := dim_bd y j
    have cs := cum_succ y j hj1 hj2
    by_cases hlt : dim y j ≤ n - fst y - cum y j
    · have hj3 : j < 12 := by
        by_cases h : j < 12
        · exact h
        · have hj : j = 12 := by omega
          subst hj
          have c13 : cum y (12 + 1) = 365 + lp y := cum_13 y
          have := ES.out
          omega
      have CS : Hid (cum y (j + 1) = cum y j + dim y j) := cs
      clear cs
      go_wp2_with (go_at_call 49; refine (implSize _ _ _ HT.out (by omega) (by omega) (by omega) (by omega)).mono ?_; rintro e w' ⟨rfl, rfl⟩)
      go_round
      case rel => exact ⟨j + 1, by omega, by omega, rfl, by rw [CS.out]; omega, by rw [CS.out]; go_num⟩
      case measure => simp [intOf]; omega
    · clear cs
      go_wp2_with (go_at_call 49; refine (implSize _ _ _ HT.out (by omega) (by omega) (by omega) (by omega)).mono ?_; rintro e w' ⟨rfl, rfl⟩)
      refine bodyPost_ret (v := .agg #[.int .i64 y, .int .i64 j, .int .i64 (n - fst y - cum y j + 1)]) (by simp [results, Tryd.results45, go_sem]) rfl ⟨⟨y, j, _, rfl, (okD_iff _ _ _).2 ⟨y0, y4, hj1, hj2, by omega, by omega⟩, by unfold num; omega⟩, ?_⟩
      exact (Below.refl _ _).alloc (Nat.le_refl _) _
def dyB (n : Int) : Bool := decide (0 ≤ n ∧ n ≤ 3652058)
theorem implIsDay (n : Int) (w : World) :
    Calls Tryd.prog 44 #[.int .i64 n] w fun e w' => e = .returned (.bool (dyB n)) ∧ w' = w := by
  by_cases h0 : 0 ≤ n
  · go_enter Tryd.func44, Tryd.ntmps44
    go_wp2
    go_ret
    exact ⟨ret_b (by unfold dyB; simp [h0]), rfl⟩
  · go_enter Tryd.func44, Tryd.ntmps44
    go_wp2
    go_ret
    exact ⟨ret_b (by unfold dyB; simp; omega), rfl⟩
theorem dy_yes {n : Int} (h0 : 0 ≤ n) (h1 : n ≤ 3652058) : dyB n = true := by unfold dyB; simp; omega
theorem dy_no {n : Int} (h : n < 0 ∨ 3652058 < n) : dyB n = false := by unfold dyB; simp; omega
set_option maxHeartbeats 1000000 in
theorem implDateOf_no (n : Int) (w : World) (h : n < 0 ∨ 3652058 < n) :
    Calls Tryd.prog 25 #[.int .i64 n] w fun e w' => e = .returned (.agg #[.int .i64 0, .int .i64 0, .int .i64 0]) ∧ Below w.heap.size w w' := by
  have hd := dy_no h
  clear h
  go_enter Tryd.func25, Tryd.ntmps25
  go_wp2_with (go_at_call 44; refine (implIsDay _ _).mono ?_; rintro e w' ⟨rfl, rfl⟩)
  exact bodyPost_ret (v := .agg #[.int .i64 0, .int .i64 0, .int .i64 0]) (by simp [results, Tryd.results25, go_sem]) rfl ⟨rfl, (Below.refl _ _).alloc (Nat.le_refl _) _⟩
set_option maxHeartbeats 1000000 in
theorem implDateOf_yes (n : Int) (w : World) (ht : Tab w) (h0 : 0 ≤ n) (h1 : n ≤ 3652058) :
    Calls Tryd.prog 25 #[.int .i64 n] w fun e w' => (∃ y m d : Int, e = .returned (.agg #[.int .i64 y, .int .i64 m, .int .i64 d]) ∧ okD y m d = true ∧ num y m d = n) ∧ Below w.heap.size w w' := by
  have hb0 : Below w.heap.size w (w.alloc (.cells #[.int .i64 0, .int .i64 0, .int .i64 0] 35)) := (Below.refl _ _).alloc (Nat.le_refl _) _
  have HT : Hid (Tab (w.alloc (.cells #[.int .i64 0, .int .i64 0, .int .i64 0] 35))) := ht.on hb0
  clear ht
  have hd := dy_yes h0 h1
  go_enter Tryd.func25, Tryd.ntmps25
  go_wp2_with (go_at_call 44; refine (implIsDay _ _).mono ?_; rintro e w' ⟨rfl, rfl⟩)
  refine (implPartsOf n _ HT.out h0 h1).mono ?_
  rintro e w1 ⟨⟨y, m, d, rfl, ok, hn⟩, hb1⟩
  have OK : Hid (okD y m d = true ∧ num y m d = n) := ⟨ok, hn⟩
  clear ok hn
  go_wp2_with fail
  refine (implDate y m d _).mono ?_
  rintro e w2 ⟨rfl, hb2⟩
  have hb := bstep hb1 hb2
  obtain ⟨hc, hf⟩ := bcell hb
  have hs := hb.size
  simp at hs
  have hbw := bstep hb0 hb
  clear hb0 hb1 hb2 hb
  have c0 : w2.cell? ⟨w.heap.size, 0, none⟩ = some (.int .i64 0) := by rw [hc _ _ (by simp)]; simp
  have c1 : w2.cell? ⟨w.heap.size, 1, none⟩ = some (.int .i64 0) := by rw [hc _ _ (by simp)]; simp
  have c2 : w2.cell? ⟨w.heap.size, 2, none⟩ = some (.int .i64 0) := by rw [hc _ _ (by simp)]; simp
  have f0 : w2.frozen? ⟨w.heap.size, 0, none⟩ = false := by rw [hf _ _ (by simp)]; simp
  have f1 : w2.frozen? ⟨w.heap.size, 1, none⟩ = false := by rw [hf _ _ (by simp)]; simp
  have f2 : w2.frozen? ⟨w.heap.size, 2, none⟩ = false := by rw [hf _ _ (by simp)]; simp
  clear hc hf
  go_wp2
  refine bodyPost_ret (v := .agg #[.int .i64 y, .int .i64 m, .int .i64 d]) (by simp [results, Tryd.results25, go_sem, c0, c1, c2]) rfl ⟨⟨y, m, d, rfl, OK.out⟩, ?_⟩
  exact (((hbw.setCell (p := ⟨w.heap.size, 0, none⟩) (Nat.le_refl _) _).setCell (p := ⟨w.heap.size, 1, none⟩) (Nat.le_refl _) _).setCell (p := ⟨w.heap.size, 2, none⟩) (Nat.le_refl _) _)
end Go.Proofs.YtlfglhpepoepcaaDoor
