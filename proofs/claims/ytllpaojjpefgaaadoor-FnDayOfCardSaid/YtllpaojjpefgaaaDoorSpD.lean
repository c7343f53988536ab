/- The specification's functions of chapter 1: what each answers. -/
import Derived.Test.YtllpaojjpefgaaaDoorSpC
import Derived.Deep.QuietTactic
import Derived.BigQuiet
import Derived.Deep.RegionWith
import Derived.Deep.LoopGhost
namespace Go.Proofs.YtllpaojjpefgaaaDoor
open Go.RowKit
set_option linter.unusedVariables false

def inB (n a b : Int) : Bool := decide (a ≤ n ∧ n ≤ b)
theorem in_yes {n a b : Int} (h0 : a ≤ n) (h1 : n ≤ b) : inB n a b = true := by unfold inB; simp; omega
theorem in_no {n a b : Int} (h : n < a ∨ b < n) : inB n a b = false := by unfold inB; simp; omega
theorem in_iff (n a b : Int) : inB n a b = true ↔ a ≤ n ∧ n ≤ b := by unfold inB; exact decide_eq_true_iff
theorem in_not (n a b : Int) : inB n a b = false ↔ ¬ (a ≤ n ∧ n ≤ b) := by unfold inB; exact decide_eq_false_iff_not
theorem specIn (n a b : Int) (w : World) :
    Calls Tryd.prog 34 #[.int .i64 n, .int .i64 a, .int .i64 b] w fun e w' => e = .returned (.bool (inB n a b)) ∧ w' = w := by
  by_cases h0 : a ≤ n
  · go_enter Tryd.func34, Tryd.ntmps34
    go_wp2
    go_ret
    exact ⟨ret_b (by unfold inB; simp [h0]), rfl⟩
  · go_enter Tryd.func34, Tryd.ntmps34
    go_wp2
    go_ret
    exact ⟨ret_b (by unfold inB; simp; omega), rfl⟩
theorem specInR (n a b : Int) (w : World) (r : Bool) (hr : inB n a b = r) :
    Calls Tryd.prog 34 #[.int .i64 n, .int .i64 a, .int .i64 b] w fun e w' => e = .returned (.bool r) ∧ w' = w := by
  subst hr; exact specIn n a b w
theorem specYearLeap (y : Int) (w : World) :
    Calls Tryd.prog 10 #[.int .i64 y] w fun e w' => e = .returned (.bool (inB y 1 9999 && lpB y)) ∧ w' = w := by
  cases h : inB y 1 9999 with
  | true =>
    have hy := (in_iff _ _ _).1 h
    go_enter Tryd.func10, Tryd.ntmps10
    go_wp2_with (first | (go_at_call 34; refine (specIn _ _ _ _).mono ?_; rintro e w' ⟨rfl, rfl⟩) | (go_at_call 35; refine (specLeap _ _ (by omega) (by omega)).mono ?_; rintro e w' ⟨rfl, rfl⟩))
    go_ret
    exact ⟨ret_b (by first | rfl | simp), rfl⟩
  | false =>
    go_enter Tryd.func10, Tryd.ntmps10
    go_wp2_with (first | (go_at_call 34; refine (specIn _ _ _ _).mono ?_; rintro e w' ⟨rfl, rfl⟩))
    go_ret
    exact ⟨ret_b (by first | rfl | simp), rfl⟩
def smdays (y m : Int) : Int := if 1 ≤ y ∧ y ≤ 9999 ∧ 1 ≤ m ∧ m ≤ 12 then dim y m else 0
set_option maxHeartbeats 1000000 in
theorem specMonthDays (y m : Int) (w : World) :
    Calls Tryd.prog 14 #[.int .i64 y, .int .i64 m] w fun e w' => e = .returned (.int .i64 (smdays y m)) ∧ w' = w := by
  cases h : inB y 1 9999 with
  | true =>
    have hy := (in_iff _ _ _).1 h
    cases h' : inB m 1 12 with
    | true =>
      have hm := (in_iff _ _ _).1 h'
      have HD : Hid (smdays y m = dim y m) := if_pos ⟨hy.1, hy.2, hm.1, hm.2⟩
      go_enter Tryd.func14, Tryd.ntmps14
      go_wp2_with (first | (go_at_call 34; refine (specIn _ _ _ _).mono ?_; rintro e w' ⟨rfl, rfl⟩) | (go_at_call 38; refine (specDays _ _ _ (by omega) (by omega) (by omega) (by omega)).mono ?_; rintro e w' ⟨rfl, rfl⟩))
      go_ret
      exact ⟨ret_i HD.out.symm, rfl⟩
    | false =>
      have hm := (in_not _ _ _).1 h'
      have HD : Hid (smdays y m = 0) := if_neg (by omega)
      clear hm
      go_enter Tryd.func14, Tryd.ntmps14
      go_wp2_with (first | (go_at_call 34; refine (specIn _ _ _ _).mono ?_; rintro e w' ⟨rfl, rfl⟩))
      go_ret
      exact ⟨ret_i HD.out.symm, rfl⟩
  | false =>
    have hm := (in_not _ _ _).1 h
    have HD : Hid (smdays y m = 0) := if_neg (by omega)
    clear hm
    go_enter Tryd.func14, Tryd.ntmps14
    go_wp2_with (first | (go_at_call 34; refine (specIn _ _ _ _).mono ?_; rintro e w' ⟨rfl, rfl⟩))
    go_ret
    exact ⟨ret_i HD.out.symm, rfl⟩
set_option maxHeartbeats 1000000 in
theorem specDateOk (y m d : Int) (w : World) :
    Calls Tryd.prog 18 #[.agg #[.int .i64 y, .int .i64 m, .int .i64 d]] w fun e w' => e = .returned (.bool (okD y m d)) ∧ Below w.heap.size w w' := by
  have HB : Hid (∀ n, Below w.heap.size w ((w.alloc (.cells #[.int .i64 y, .int .i64 m, .int .i64 d] 28)).drewN n)) := fun n => Below.drewN' ((Below.refl _ _).alloc (Nat.le_refl _) _) n
  cases h : inB y 1 9999 with
  | true =>
    have hy := (in_iff _ _ _).1 h
    cases h' : inB m 1 12 with
    | true =>
      have hm := (in_iff _ _ _).1 h'
      have HD : Hid (inB d 1 (dim y m) = okD y m d) := by
        unfold Hid; rw [Bool.eq_iff_iff, okD_iff, in_iff]; omega
      go_enter Tryd.func18, Tryd.ntmps18
      go_wp2
      go_quiet ((first | (go_at_call 34; exact Calls.quiet_of_same (specInR _ _ _ _ _ (by first | exact h | exact h' | rfl))) | (go_at_call 38; exact Calls.quiet_of_same (specDays _ _ _ (by omega) (by omega) (by omega) (by omega)))))
      go_wp2
      go_ret
      exact ⟨ret_b HD.out, HB.out _⟩
    | false =>
      have hm := (in_not _ _ _).1 h'
      have HD : Hid (okD y m d = false) := (okD_not _ _ _).2 (by omega)
      clear hm
      go_enter Tryd.func18, Tryd.ntmps18
      go_wp2
      go_quiet ((go_at_call 34; exact Calls.quiet_of_same (specInR _ _ _ _ _ (by first | exact h | exact h'))))
      go_wp2
      go_ret
      exact ⟨ret_b HD.out.symm, HB.out _⟩
  | false =>
    have hm := (in_not _ _ _).1 h
    have HD : Hid (okD y m d = false) := (okD_not _ _ _).2 (by omega)
    clear hm
    go_enter Tryd.func18, Tryd.ntmps18
    go_wp2
    go_quiet ((go_at_call 34; exact Calls.quiet_of_same (specInR _ _ _ _ _ (by exact h))))
    go_wp2
    go_ret
    exact ⟨ret_b HD.out.symm, HB.out _⟩
def sdayOf (y m d : Int) : Int := if okD y m d = true then num y m d else -1
set_option maxHeartbeats 1000000 in
theorem specDayOf (y m d : Int) (w : World) :
    Calls Tryd.prog 17 #[.agg #[.int .i64 y, .int .i64 m, .int .i64 d]] w fun e w' => e = .returned (.int .i64 (sdayOf y m d)) ∧ Below w.heap.size w w' := by
  have hb0 : Below w.heap.size w (w.alloc (.cells #[.int .i64 y, .int .i64 m, .int .i64 d] 28)) := (Below.refl _ _).alloc (Nat.le_refl _) _
  cases ok : okD y m d with
  | true =>
    have HD : Hid (sdayOf y m d = num y m d) := by unfold Hid sdayOf; rw [if_pos ok]
    obtain ⟨k1, k2, k3, k4, k5, k6⟩ := (okD_iff y m d).1 ok
    have db := dim_bd y m
    have HOK : Hid (okD y m d = true) := ok
    clear ok
    go_enter Tryd.func17, Tryd.ntmps17
    go_wp2_with fail
    refine (specDateOk y m d _).mono ?_
    rintro e w1 ⟨rfl, hb1⟩
    rw [HOK.out]
    obtain ⟨hc, hf⟩ := bcell hb1
    have hs1 := hb1.size
    simp at hs1
    go_wp2_with fail
    refine (specDay y m d _ k1 k2 k3 k4 (by omega) (by omega)).mono ?_
    rintro e w2 ⟨rfl, hw2⟩
    have hb2 : Below w1.heap.size w1 w2 := by rw [hw2]; exact (Below.refl _ _).alloc (Nat.le_refl _) _
    have hb := bstep (bstep hb0 hb1) hb2
    clear hc hf hw2
    go_wp2
    go_ret
    exact ⟨ret_i HD.out.symm, hb⟩
  | false =>
    have HD : Hid (sdayOf y m d = -1) := by unfold Hid sdayOf; rw [if_neg (by rw [ok]; exact Bool.false_ne_true)]
    have HOK : Hid (okD y m d = false) := ok
    clear ok
    go_enter Tryd.func17, Tryd.ntmps17
    go_wp2_with fail
    refine (specDateOk y m d _).mono ?_
    rintro e w1 ⟨rfl, hb1⟩
    rw [HOK.out]
    have hb := bstep hb0 hb1
    go_wp2
    go_ret
    exact ⟨ret_i HD.out.symm, hb⟩
theorem fst_guess (n : Int) (h0 : 0 ≤ n) : fst (n / 366 + 1) ≤ n := by unfold fst; omega
/-- Where the date that is being reckoned lies. -/
structure DW (w wr : World) (y m d : Int) : Prop where
  hsz : w.heap.size + 1 < wr.heap.size
  c0 : wr.cell? ⟨w.heap.size + 1, 0, none⟩ = some (.int .i64 y)
  c1 : wr.cell? ⟨w.heap.size + 1, 1, none⟩ = some (.int .i64 m)
  c2 : wr.cell? ⟨w.heap.size + 1, 2, none⟩ = some (.int .i64 d)
  f1 : wr.frozen? ⟨w.heap.size + 1, 1, none⟩ = false
  f2 : wr.frozen? ⟨w.heap.size + 1, 2, none⟩ = false
  e0 : wr.cell? ⟨w.heap.size, 0, none⟩ = some (.int .i64 0)
  e1 : wr.cell? ⟨w.heap.size, 1, none⟩ = some (.int .i64 0)
  e2 : wr.cell? ⟨w.heap.size, 2, none⟩ = some (.int .i64 0)
  g0 : wr.frozen? ⟨w.heap.size, 0, none⟩ = false
  g1 : wr.frozen? ⟨w.heap.size, 1, none⟩ = false
  g2 : wr.frozen? ⟨w.heap.size, 2, none⟩ = false
  hb : Below w.heap.size w wr
theorem DW.step {w wr : World} {y m d : Int} (h : DW w wr y m d) (q : Nat) (d' m' : Int) :
    DW w (((wr.drewN q).setCell ⟨w.heap.size + 1, 2, none⟩ (.int .i64 d')).setCell ⟨w.heap.size + 1, 1, none⟩ (.int .i64 m')) y m' d' := by
  obtain ⟨hsz, c0, c1, c2, f1, f2, e0, e1, e2, g0, g1, g2, hb⟩ := h
  refine ⟨by simpa using hsz, ?_, ?_, ?_, by simpa using f1, by simpa using f2, ?_, ?_, ?_, by simpa using g0, by simpa using g1, by simpa using g2, ?_⟩
  · rw [World.cell?_setCell_other _ _ _ _ (by simp), World.cell?_setCell_other _ _ _ _ (by simp)]; exact c0
  · exact World.cell?_setCell_same _ _ _ (u := .int .i64 m) (by rw [World.cell?_setCell_other _ _ _ _ (by simp)]; exact c1)
  · rw [World.cell?_setCell_other _ _ _ _ (by simp)]; exact World.cell?_setCell_same _ _ _ (u := .int .i64 d) c2
  · rw [World.cell?_setCell_other _ _ _ _ (by simp), World.cell?_setCell_other _ _ _ _ (by simp)]; exact e0
  · rw [World.cell?_setCell_other _ _ _ _ (by simp), World.cell?_setCell_other _ _ _ _ (by simp)]; exact e1
  · rw [World.cell?_setCell_other _ _ _ _ (by simp), World.cell?_setCell_other _ _ _ _ (by simp)]; exact e2
  · exact (((Below.drewN' hb q).setCell (p := ⟨w.heap.size + 1, 2, none⟩) (Nat.le_succ _) _).setCell (p := ⟨w.heap.size + 1, 1, none⟩) (Nat.le_succ _) _)

set_option maxHeartbeats 2000000 in
theorem specDate (n : Int) (w : World) (h0 : 0 ≤ n) (h1 : n ≤ 3652058) :
    Calls Tryd.prog 47 #[.int .i64 n] w fun e w' => (∃ y m d : Int, e = .returned (.agg #[.int .i64 y, .int .i64 m, .int .i64 d]) ∧ okD y m d = true ∧ num y m d = n) ∧ Below w.heap.size w w' := by
  have g0 := fst_guess n h0
  go_enter Tryd.func47, Tryd.ntmps47
  go_wp2
  go_loop [3] (fun t => ∃ y : Int, 1 ≤ y ∧ y ≤ 9999 ∧ fst y ≤ n ∧ t = .int .i64 y) (fun t => (9999 - intOf t).toNat)
  case atStart => exact ⟨_, by omega, by omega, g0, rfl⟩
  case round =>
    obtain ⟨y, y0, y1, y2, rfl⟩ := hrel
    have fb := fst_bd y y0 (by omega)
    by_cases hlt : fst (y + 1) ≤ n
    · have y3 : y < 9999 := by
        by_cases h : y < 9999
        · exact h
        · have hy : y = 9999 := by omega
          subst hy
          have := fst_max
          have e : fst (9999 + 1) = fst 10000 := rfl
          omega
      go_wp2_with (go_at_call 48; refine (specFirst _ _ (by omega) (by omega)).mono ?_; rintro e w' ⟨rfl, rfl⟩)
      go_round
      case rel => exact ⟨y + 1, by omega, by omega, hlt, rfl⟩
      case measure => simp [intOf]; omega
    · have es := fst_succ y y0
      have l := lp_01 y
      have ES : Hid (n < fst y + 365 + lp y) := by unfold Hid; omega
      have hr1 : n - fst y ≤ 365 := by omega
      clear es g0
      go_wp2_with (go_at_call 48; refine (specFirst _ _ (by omega) (by omega)).mono ?_; rintro e w' ⟨rfl, rfl⟩)
      go_loopg [] 12 (fun k wr => ∃ m d : Int, 1 ≤ m ∧ m + k = 13 ∧ m ≤ 12 ∧ 1 ≤ d ∧ d = n - fst y - cum y m + 1 ∧ DW w wr y m d)
      case atStart =>
        refine ⟨1, n - fst y + 1, by omega, by omega, by omega, by omega, by rw [cum_one]; omega, ⟨by simp, by simp, by simp, by simp, by simp, by simp, by simp, by simp, by simp, by simp, by simp, by simp, ?_⟩⟩
        exact ((Below.refl _ _).alloc (Nat.le_refl _) _).alloc (by simp) _
      case round =>
        obtain ⟨m, d, m0, mk, m1, d0, hd, dw⟩ := hrel
        obtain ⟨hsz, c0, c1, c2, f1, f2, e0, e1, e2, g0, g1, g2, hb⟩ := dw
        have cb := cum_bd y m m0 (by omega)
        have db := dim_bd y m
        have cs := cum_succ y m m0 m1
        have dB : d ≤ 400 := by omega
        by_cases hgt : dim y m < d
        · have m2 : m < 12 := by
            by_cases h : m < 12
            · exact h
            · have hm : m = 12 := by omega
              subst hm
              have c13 : cum y (12 + 1) = 365 + lp y := cum_13 y
              have := ES.out
              omega
          have A : Aside (cum y (m + 1) = cum y m + dim y m ∧ d = n - fst y - cum y m + 1 ∧ m + (gk : Int) = 13) := ⟨cs, hd, mk⟩
          clear cs hd mk
          go_wp2
          go_quiet ((go_at_call 38; exact Calls.quiet_of_same (specDays _ _ _ (by omega) (by omega) (by omega) (by omega))))
          go_wp2
          go_region_with (go_at_call 38; refine (specDays _ _ _ (by omega) (by omega) (by omega) (by omega)).mono ?_; rintro e w' ⟨rfl, rfl⟩)
          all_goals
            go_wp2
            go_roundg (gk - 1)
            case measure => have := A.out; omega
            case rel =>
              obtain ⟨cs, hd, mk⟩ := A.out
              exact ⟨m + 1, d - dim y m, by omega, by omega, by omega, by omega, by rw [cs]; omega, DW.step ⟨hsz, c0, c1, c2, f1, f2, e0, e1, e2, g0, g1, g2, hb⟩ _ _ _⟩
        · have OK : Hid (okD y m d = true ∧ num y m d = n) := ⟨(okD_iff _ _ _).2 ⟨y0, y1, m0, m1, d0, by omega⟩, by unfold num; omega⟩
          clear cs hd mk
          go_wp2
          go_quiet ((go_at_call 38; exact Calls.quiet_of_same (specDays _ _ _ (by omega) (by omega) (by omega) (by omega))))
          go_wp2
          refine bodyPost_ret (v := .agg #[.int .i64 y, .int .i64 m, .int .i64 d]) (by simp [results, Tryd.results47, go_sem, e0, e1, e2]) rfl ⟨⟨y, m, d, rfl, OK.out⟩, ?_⟩
          exact ((((Below.drewN' hb _).setCell (p := ⟨w.heap.size, 0, none⟩) (Nat.le_refl _) _).setCell (p := ⟨w.heap.size, 1, none⟩) (Nat.le_refl _) _).setCell (p := ⟨w.heap.size, 2, none⟩) (Nat.le_refl _) _)
set_option maxHeartbeats 1000000 in
theorem specDateOf_no (n : Int) (w : World) (h : n < 0 ∨ 3652058 < n) :
    Calls Tryd.prog 21 #[.int .i64 n] w fun e w' => e = .returned (.agg #[.int .i64 0, .int .i64 0, .int .i64 0]) ∧ Below w.heap.size w w' := by
  have hd := in_no (n := n) (a := 0) (b := 3652058) h
  clear h
  go_enter Tryd.func21, Tryd.ntmps21
  go_wp2_with (go_at_call 34; refine (specIn _ _ _ _).mono ?_; rintro e w' ⟨rfl, rfl⟩)
  exact bodyPost_ret (v := .agg #[.int .i64 0, .int .i64 0, .int .i64 0]) (by simp [results, Tryd.results21, go_sem]) rfl ⟨rfl, (Below.refl _ _).alloc (Nat.le_refl _) _⟩
set_option maxHeartbeats 1000000 in
theorem specDateOf_yes (n : Int) (w : World) (h0 : 0 ≤ n) (h1 : n ≤ 3652058) :
    Calls Tryd.prog 21 #[.int .i64 n] w fun e w' => (∃ y m d : Int, e = .returned (.agg #[.int .i64 y, .int .i64 m, .int .i64 d]) ∧ okD y m d = true ∧ num y m d = n) ∧ Below w.heap.size w w' := by
  have hb0 : Below w.heap.size w (w.alloc (.cells #[.int .i64 0, .int .i64 0, .int .i64 0] 28)) := (Below.refl _ _).alloc (Nat.le_refl _) _
  have hd := in_yes (n := n) (a := 0) (b := 3652058) h0 h1
  go_enter Tryd.func21, Tryd.ntmps21
  go_wp2_with (go_at_call 34; refine (specIn _ _ _ _).mono ?_; rintro e w' ⟨rfl, rfl⟩)
  refine (specDate n _ h0 h1).mono ?_
  rintro e w2 ⟨⟨y, m, d, rfl, ok, hn⟩, hb1⟩
  have OK : Hid (okD y m d = true ∧ num y m d = n) := ⟨ok, hn⟩
  clear ok hn
  obtain ⟨hc, hf⟩ := bcell hb1
  have hs := hb1.size
  simp at hs
  have hbw := bstep hb0 hb1
  clear hb0 hb1
  have c0 : w2.cell? ⟨w.heap.size, 0, none⟩ = some (.int .i64 0) := by rw [hc _ _ (by simp)]; simp
  have c1 : w2.cell? ⟨w.heap.size, 1, none⟩ = some (.int .i64 0) := by rw [hc _ _ (by simp)]; simp
  have c2 : w2.cell? ⟨w.heap.size, 2, none⟩ = some (.int .i64 0) := by rw [hc _ _ (by simp)]; simp
  have f0 : w2.frozen? ⟨w.heap.size, 0, none⟩ = false := by rw [hf _ _ (by simp)]; simp
  have f1 : w2.frozen? ⟨w.heap.size, 1, none⟩ = false := by rw [hf _ _ (by simp)]; simp
  have f2 : w2.frozen? ⟨w.heap.size, 2, none⟩ = false := by rw [hf _ _ (by simp)]; simp
  clear hc hf
  go_wp2
  refine bodyPost_ret (v := .agg #[.int .i64 y, .int .i64 m, .int .i64 d]) (by simp [results, Tryd.results21, go_sem, c0, c1, c2]) rfl ⟨⟨y, m, d, rfl, OK.out⟩, ?_⟩
  exact (((hbw.setCell (p := ⟨w.heap.size, 0, none⟩) (Nat.le_refl _) _).setCell (p := ⟨w.heap.size, 1, none⟩) (Nat.le_refl _) _).setCell (p := ⟨w.heap.size, 2, none⟩) (Nat.le_refl _) _)
def swkY (n y : Int) : Prop := 1 ≤ y ∧ y ≤ 20000 ∧ fst y ≤ n - n % 7 + 3 ∧ n - n % 7 + 3 < fst (y + 1)
theorem specWeekOf_no (n : Int) (w : World) (h : n < 0 ∨ 3652058 < n) :
    Calls Tryd.prog 24 #[.int .i64 n] w fun e w' => e = .returned (.tuple #[.int .i64 0, .int .i64 0]) ∧ w' = w := by
  have hd := in_no (n := n) (a := 0) (b := 3652058) h
  clear h
  go_enter Tryd.func24, Tryd.ntmps24
  go_wp2_with (go_at_call 34; refine (specIn _ _ _ _).mono ?_; rintro e w' ⟨rfl, rfl⟩)
  go_ret2
  exact ⟨rfl, rfl⟩
set_option maxHeartbeats 1000000 in
theorem specWeekOf_yes (n : Int) (w : World) (h0 : 0 ≤ n) (h1 : n ≤ 3652058) :
    Calls Tryd.prog 24 #[.int .i64 n] w fun e w' => (∃ y : Int, e = .returned (.tuple #[.int .i64 y, .int .i64 ((n - n % 7 + 3 - fst y) / 7 + 1)]) ∧ swkY n y) ∧ Below w.heap.size w w' := by
  have hd := in_yes (n := n) (a := 0) (b := 3652058) h0 h1
  have h2 : ¬ 3652058 < n - n % 7 + 3 := by omega
  go_enter Tryd.func24, Tryd.ntmps24
  go_wp2_with (go_at_call 34; refine (specIn _ _ _ _).mono ?_; rintro e w' ⟨rfl, rfl⟩)
  refine (specDate _ _ (by omega) (by omega)).mono ?_
  rintro e w1 ⟨⟨y, m, d, rfl, ok, hn⟩, hb⟩
  have hy := num_year ok
  obtain ⟨k1, k2, k3⟩ := (okD_iff _ _ _).1 ok
  rw [hn] at hy
  have WK : Hid (swkY n y) := ⟨k1, by omega, hy.1, hy.2⟩
  have fb : 0 ≤ fst y ∧ fst y ≤ n - n % 7 + 3 := ⟨(fst_bd y k1 (by omega)).1, hy.1⟩
  have hfld : ∀ w : World, (Instr.field 28 (.agg #[.int .i64 y, .int .i64 m, .int .i64 d]) 0).run Tryd.prog w = .ok (.int .i64 y) w := fun _ => by kernel_rfl
  clear ok hn hy k3 hd
  go_wp2_with (go_at_call 48; refine (specFirst _ _ (by omega) (by omega)).mono ?_; rintro e w' ⟨rfl, rfl⟩)
  go_ret2
  exact ⟨⟨y, rfl, WK.out⟩, hb⟩
end Go.Proofs.YtllpaojjpefgaaaDoor
