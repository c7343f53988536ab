/- The specification's functions of chapter 1: what each answers. -/
import Derived.Test.YtlfglhpepoepcaaDoorSpC
import Derived.Deep.QuietTactic
import Derived.BigQuiet
import Derived.Deep.RegionWith
import Derived.Deep.LoopGhost
namespace Go.Proofs.YtlfglhpepoepcaaDoor
open Go.RowKit
set_option linter.unusedVariables false

def inB (n a b : Int) : Bool := decide (a ≤ n ∧ n ≤ b)
theorem in_yes {n a b : Int} (h0 : a ≤ n) (h1 : n ≤ b) : inB n a b = true := by unfold inB; simp; omega
theorem in_no {n a b : Int} (h : n < a ∨ b < n) : inB n a b = false := by unfold inB; simp; omega
theorem in_iff (n a b : Int) : inB n a b = true ↔ a ≤ n ∧ n ≤ b := by unfold inB; exact decide_eq_true_iff
theorem in_not (n a b : Int) : inB n a b = false ↔ ¬ (a ≤ n ∧ n ≤ b) := by unfold inB; exact decide_eq_false_iff_not
theorem specIn (n a b : Int) (w : World) :
    Calls Tryd.prog 51 #[.int .i64 n, .int .i64 a, .int .i64 b] w fun e w' => e = .returned (.bool (inB n a b)) ∧ w' = w := by
  by_cases h0 : a ≤ n
  · go_enter Tryd.func51, Tryd.ntmps51
    go_wp2
    go_ret
    exact ⟨ret_b (by unfold inB; simp [h0]), rfl⟩
  · go_enter Tryd.func51, Tryd.ntmps51
    go_wp2
    go_ret
    exact ⟨ret_b (by unfold inB; simp; omega), rfl⟩
theorem specInR (n a b : Int) (w : World) (r : Bool) (hr : inB n a b = r) :
    Calls Tryd.prog 51 #[.int .i64 n, .int .i64 a, .int .i64 b] w fun e w' => e = .returned (.bool r) ∧ w' = w := by
  subst hr; exact specIn n a b w
theorem fst_guess (n : Int) (h0 : 0 ≤ n) : fst (n / 366 + 1) ≤ n := by unfold fst; omega
/-- Where the date that is being reckoned lies. -/
structure DW (w wr : World) (y m d : Int) : Prop where
  hsz : w.heap.size + 1 < wr.heap.size
  c0 : wr.cell? ⟨w.heap.size + 1, 0, none⟩ = some (.int .i64 y)
  c1 : wr.cell? ⟨w.heap.size + 1, 1, none⟩ = some (.int .i64 m)
  c2 : wr.cell? ⟨w.heap.size + 1, 2, none⟩ = some (.int .i64 d)
  f1 : wr.frozen? ⟨w.heap.size + 1, 1, none⟩ = false
  f2 : wr.frozen? ⟨w.heap.size + 1, 2, none⟩ = false
  e0 : wr.cell? ⟨w.heap.size, 0, none⟩ = some (.int .i64 0)
  e1 : wr.cell? ⟨w.heap.size, 1, none⟩ = some (.int .i64 0)
  e2 : wr.cell? ⟨w.heap.size, 2, none⟩ = some (.int .i64 0)
  g0 : wr.frozen? ⟨w.heap.size, 0, none⟩ = false
  g1 : wr.frozen? ⟨w.heap.size, 1, none⟩ = false
  g2 : wr.frozen? ⟨w.heap.size, 2, none⟩ = false
  hb : Below w.heap.size w wr
theorem DW.step {w wr : World} {y m d : Int} (h : DW w wr y m d) (q : Nat) (d' m' : Int) :
    DW w (((wr.drewN q).setCell ⟨w.heap.size + 1, 2, none⟩ (.int .i64 d')).setCell ⟨w.heap.size + 1, 1, none⟩ (.int .i64 m')) y m' d' := by
  obtain ⟨hsz, c0, c1, c2, f1, f2, e0, e1, e2, g0, g1, g2, hb⟩ := h
  refine ⟨by simpa using hsz, ?_, ?_, ?_, by simpa using f1, by simpa using f2, ?_, ?_, ?_, by simpa using g0, by simpa using g1, by simpa using g2, ?_⟩
  · rw [World.cell?_setCell_other _ _ _ _ (by simp), World.cell?_setCell_other _ _ _ _ (by simp)]; exact c0
  · exact World.cell?_setCell_same _ _ _ (u := .int .i64 m) (by rw [World.cell?_setCell_other _ _ _ _ (by simp)]; exact c1)
  · rw [World.cell?_setCell_other _ _ _ _ (by simp)]; exact World.cell?_setCell_same _ _ _ (u := .int .i64 d) c2
  · rw [World.cell?_setCell_other _ _ _ _ (by simp), World.cell?_setCell_other _ _ _ _ (by simp)]; exact e0
  · rw [World.cell?_setCell_other _ _ _ _ (by simp), World.cell?_setCell_other _ _ _ _ (by simp)]; exact e1
  · rw [World.cell?_setCell_other _ _ _ _ (by simp), World.cell?_setCell_other _ _ _ _ (by simp)]; exact e2
  · exact (((Below.drewN' hb q).setCell (p := ⟨w.heap.size + 1, 2, none⟩) (Nat.le_succ _) _).setCell (p := ⟨w.heap.size + 1, 1, none⟩) (Nat.le_succ _) _)

set_option maxHeartbeats 2000000 in
theorem specDate (n : Int) (w : World) (h0 : 0 ≤ n) (h1 : n ≤ 3652058) :
    Calls Tryd.prog 77 #[.int .i64 n] w fun e w' => (∃ y m d : Int, e = .returned (.agg #[.int .i64 y, .int .i64 m, .int .i64 d]) ∧ okD y m d = true ∧ num y m d = n) ∧ Below w.heap.size w w' := by
  have g0 := fst_guess n h0
  go_enter Tryd.func77, Tryd.ntmps77
  go_wp2
  go_loop [3] (fun t => ∃ y : Int, 1 ≤ y ∧ y ≤ 9999 ∧ fst y ≤ n ∧ t = .int .i64 y) (fun t => (9999 - intOf t).toNat)
  case atStart => exact ⟨_, by omega, by omega, g0, rfl⟩
  case round =>
    obtain ⟨y, y0, y1, y2, rfl⟩ := hrel
    have fb := fst_bd y y0 (by omega)
    by_cases hlt : fst (y + 1) ≤ n
    · have y3 : y < 9999 := by
        by_cases h : y < 9999
        · exact h
        · have hy : y = 9999 := by omega
          subst hy
          have := fst_max
          have e : fst (9999 + 1) = fst 10000 := rfl
          omega
      go_wp2_with (go_at_call 81; refine (specFirst _ _ (by omega) (by omega)).mono ?_; rintro e w' ⟨rfl, rfl⟩)
      go_round
      case rel => exact ⟨y + 1, by omega, by omega, hlt, rfl⟩
      case measure => simp [intOf]; omega
    · have es := fst_succ y y0
      have l := lp_01 y
      have ES : Hid (n < fst y + 365 + lp y) := by unfold Hid; omega
      have hr1 : n - fst y ≤ 365 := by omega
      clear es g0
      go_wp2_with (go_at_call 81; refine (specFirst _ _ (by omega) (by omega)).mono ?_; rintro e w' ⟨rfl, rfl⟩)
      go_loopg [] 12 (fun k wr => ∃ m d : Int, 1 ≤ m ∧ m + k = 13 ∧ m ≤ 12 ∧ 1 ≤ d ∧ d = n - fst y - cum y m + 1 ∧ DW w wr y m d)
      case atStart =>
        refine ⟨1, n - fst y + 1, by omega, by omega, by omega, by omega, by rw [cum_one]; omega, ⟨by simp, by simp, by simp, by simp, by simp, by simp, by simp, by simp, by simp, by simp, by simp, by simp, ?_⟩⟩
        exact ((Below.refl _ _).alloc (Nat.le_refl _) _).alloc (by simp) _
      case round =>
        obtain ⟨m, d, m0, mk, m1, d0, hd, dw⟩ := hrel
        obtain ⟨hsz, c0, c1, c2, f1, f2, e0, e1, e2, g0, g1, g2, hb⟩ := dw
        have cb := cum_bd y m m0 (by omega)
        have db := dim_bd y m
        have cs := cum_succ y m m0 m1
        have dB : d ≤ 400 := by omega
        by_cases hgt : dim y m < d
        · have m2 : m < 12 := by
            by_cases h : m < 12
            · exact h
            · have hm : m = 12 := by omega
              subst hm
              have c13 : cum y (12 + 1) = 365 + lp y := cum_13 y
              have := ES.out
              omega
          have A : Aside (cum y (m + 1) = cum y m + dim y m ∧ d = n - fst y - cum y m + 1 ∧ m + (gk : Int) = 13) := ⟨cs, hd, mk⟩
          clear cs hd mk
          go_wp2
          go_quiet ((go_at_call 80; exact Calls.quiet_of_same (specDays _ _ _ (by omega) (by omega) (by omega) (by omega))))
          go_wp2
          go_region_with (go_at_call 80; refine (specDays _ _ _ (by omega) (by omega) (by omega) (by omega)).mono ?_; rintro e w' ⟨rfl, rfl⟩)
          all_goals
            go_wp2
            go_roundg (gk - 1)
            case measure => have := A.out; omega
            case rel =>
              obtain ⟨cs, hd, mk⟩ := A.out
              exact ⟨m + 1, d - dim y m, by omega, by omega, by omega, by omega, by rw [cs]; omega, DW.step ⟨hsz, c0, c1, c2, f1, f2, e0, e1, e2, g0, g1, g2, hb⟩ _ _ _⟩
        · have OK : Hid (okD y m d = true ∧ num y m d = n) := ⟨(okD_iff _ _ _).2 ⟨y0, y1, m0, m1, d0, by omega⟩, by unfold num; omega⟩
          clear cs hd mk
          go_wp2
          go_quiet ((go_at_call 80; exact Calls.quiet_of_same (specDays _ _ _ (by omega) (by omega) (by omega) (by omega))))
          go_wp2
          refine bodyPost_ret (v := .agg #[.int .i64 y, .int .i64 m, .int .i64 d]) (by simp [results, Tryd.results77, go_sem, e0, e1, e2]) rfl ⟨⟨y, m, d, rfl, OK.out⟩, ?_⟩
          exact ((((Below.drewN' hb _).setCell (p := ⟨w.heap.size, 0, none⟩) (Nat.le_refl _) _).setCell (p := ⟨w.heap.size, 1, none⟩) (Nat.le_refl _) _).setCell (p := ⟨w.heap.size, 2, none⟩) (Nat.le_refl _) _)
end Go.Proofs.YtlfglhpepoepcaaDoor
