/- Spans: the specification's ok, and the size of both. -/
import Derived.Test.YtkbgbccehijckaaSa
namespace Go.Proofs.Ytkbgbccehijckaa
open Go.RowKit
set_option linter.unusedVariables false
/-- A span in a row, and another cell of it. -/
abbrev QT (w : World) (b o o' : Nat) (x y z : Value) (W : World) : Prop := W.cell? ⟨b, o, none⟩ = some x ∧ W.cell? ⟨b, o + 1, none⟩ = some y ∧ W.cell? ⟨b, o', none⟩ = some z ∧ Below w.heap.size w W
theorem QT.on {w W W' : World} {b o o' : Nat} {x y z : Value} (h : QT w b o o' x y z W) (hb : Below W.heap.size W W') : QT w b o o' x y z W' := by
  obtain ⟨c0, c1, c2, B⟩ := h
  exact ⟨by rw [hb.cell (cell_lt c0)]; exact c0, by rw [hb.cell (cell_lt c1)]; exact c1, by rw [hb.cell (cell_lt c2)]; exact c2, bstep B hb⟩
set_option maxRecDepth 100000 in
set_option maxHeartbeats 4000000 in
theorem specSpansOk (a : Option Addr) (cap : Nat) (ss : List (Int × Int)) (w : World) (h : IsTurns w a ss) (hl : ss.length ≤ 2000000) (r : Bool) (hr : r = true ↔ SpOk ss) :
    Calls Try.prog 24 #[.slice a ss.length cap] w fun e w' => e = .returned (.bool r) ∧ Below w.heap.size w w' := by
  have HT0 : Hid (IsTurns w a ss) := h
  have HRR : Hid (r = true ↔ SpOk ss) := hr
  clear h hr
  go_enter Try.func24, Try.ntmps24
  go_wp2
  go_loopw [3] (fun i wr => ∃ k : Nat, k ≤ ss.length ∧ i = .int .i64 k ∧ (∀ j, j < k → stepSp ss j) ∧ Below w.heap.size w wr) (fun i _ => ss.length - (intOf i).toNat)
  case atStart => exact ⟨0, by omega, rfl, fun j h => by omega, Below.refl _ _⟩
  case round =>
    obtain ⟨k, hk, rfl, ha, hb⟩ := hrel
    have HA : Hid (∀ j, j < k → stepSp ss j) := ha
    clear ha
    by_cases hlt : k < ss.length
    · have T := HT0.out.below (B := 0) hb
      rcases T with T | ⟨b, off, rfl, hbs, hc⟩
      · rw [T] at hlt; simp at hlt
      obtain ⟨c0, c1⟩ := hc k hlt
      have hi0 : (0 : Int) ≤ (k : Int) := by omega
      have hi1 : (k : Int) < (ss.length : Int) := by omega
      have HS : Hid (stepSp ss k ↔ spB (tAt ss k) (tSh ss k) = true ∧ (0 < k → tSh ss (k - 1) < tAt ss k)) := Iff.rfl
      have BAD : Hid (¬ stepSp ss k → r = false) := fun hn => by
        cases hrr : r with
        | false => rfl
        | true => exact absurd ((HRR.out.1 hrr).2 k hlt) hn
      have GOOD : Hid (stepSp ss k → ∀ j, j < k + 1 → stepSp ss j) := fun hg j hj => by
        by_cases hjk : j = k
        · subst hjk; exact hg
        · exact HA.out j (by omega)
      cases ht : spB (tAt ss k) (tSh ss k) with
      | false =>
        have HB : Hid (r = false) := BAD.out (fun hs => by rw [(HS.out.1 hs).1] at ht; exact Bool.noConfusion ht)
        clear HS BAD GOOD HA hc
        generalize tAt ss k = X1 at *
        generalize tSh ss k = Y1 at *
        have HT : Hid (spB X1 Y1 = false) := ht
        clear ht
        have K6 : QT w b (off + k * 2) (off + k * 2 + 1) (.int .i64 X1) (.int .i64 Y1) (.int .i64 Y1) wr := ⟨c0, c1, c1, hb⟩
        go_wp2
        refine wp_region_cl (fun w' => QT w b (off + k * 2) (off + k * 2 + 1) (.int .i64 X1) (.int .i64 Y1) (.int .i64 Y1) w') (by kernel_rfl) (by kernel_rfl) (QT.on K6 (Below.refl _ _).drew) ?_
        clear K6 c0 c1
        repeat (first
          | go_big_quiet_skip
          | (go_big_quiet_want; go_big_quiet_op; go_big_quiet_on)
          | (go_big_quiet_want
             apply Exists.intro
             refine ⟨fun w7 hC7 => ?_, ?_⟩
             · (have hC8 := hC7
                obtain ⟨y0, y1, y2, _⟩ := hC7
                go_simp
                first
                  | done
                  | rfl
                  | exact ⟨rfl, rfl⟩
                  | (with_reducible refine (specSpan _ _ _ false HT.out).mono ?_
                     rintro e w8 ⟨rfl, b8⟩
                     exact ⟨rfl, QT.on hC8 b8⟩))
             (go_simp; go_big_quiet_on)))
        refine wpQuiet_nil ?_
        intro w7 K7
        obtain ⟨_, _, _, B7⟩ := K7
        go_wp2
        go_ret
        exact ⟨ret_b HB.out.symm, B7⟩
      | true =>
        have tb := (sp_iff _ _).1 ht
        by_cases hk0 : 0 < k
        · have p1 := (hc (k - 1) (by omega)).2
          obtain ⟨j, rfl⟩ : ∃ j, k = j + 1 := ⟨k - 1, by omega⟩
          simp only [Nat.add_sub_cancel] at p1 HS
          have q2 := IntWalk.i64_in ((j : Int) + 1 - 1) (by omega)
          have hj0 : (0 : Int) ≤ (j : Int) := by omega
          have hj1 : (j : Int) < (ss.length : Int) := by omega
          have q6 : ((j : Int) + 1) - 1 = (j : Int) := by omega
          have q3 := IntWalk.i64_in (j : Int) (by omega)
          by_cases hd : tAt ss (j + 1) ≤ tSh ss j
          · have HB : Hid (r = false) := BAD.out (fun h => by have := (HS.out.1 h).2 (by omega); omega)
            clear HS BAD GOOD HA hc
            generalize tAt ss (j + 1) = X1 at *
            generalize tSh ss (j + 1) = Y1 at *
            generalize tSh ss j = Y0 at *
            have HT : Hid (spB X1 Y1 = true) := ht
            clear ht
            have K6 : QT w b (off + (j + 1) * 2) (off + j * 2 + 1) (.int .i64 X1) (.int .i64 Y1) (.int .i64 Y0) wr := ⟨c0, c1, p1, hb⟩
            go_wp2
            refine wp_region_cl (fun w' => QT w b (off + (j + 1) * 2) (off + j * 2 + 1) (.int .i64 X1) (.int .i64 Y1) (.int .i64 Y0) w') (by kernel_rfl) (by kernel_rfl) (QT.on K6 (Below.refl _ _).drew) ?_
            clear K6 c0 c1 p1
            repeat (first
              | go_big_quiet_skip
              | (go_big_quiet_want; go_big_quiet_op; go_big_quiet_on)
              | (go_big_quiet_want
                 apply Exists.intro
                 refine ⟨fun w7 hC7 => ?_, ?_⟩
                 · (have hC8 := hC7
                    obtain ⟨y0, y1, y2, _⟩ := hC7
                    go_simp
                    first
                      | done
                      | rfl
                      | exact ⟨rfl, rfl⟩
                      | (with_reducible refine (specSpan _ _ _ true HT.out).mono ?_
                         rintro e w8 ⟨rfl, b8⟩
                         exact ⟨rfl, QT.on hC8 b8⟩))
                 (go_simp; go_big_quiet_on)))
            refine wpQuiet_nil ?_
            intro w7 K7
            obtain ⟨_, _, _, B7⟩ := K7
            go_wp2
            go_ret
            exact ⟨ret_b HB.out.symm, B7⟩
          · have HG : Hid (∀ i, i < j + 1 + 1 → stepSp ss i) := GOOD.out (HS.out.2 ⟨ht, fun _ => by omega⟩)
            clear HS BAD GOOD HA hc
            have HT : Hid (spB (tAt ss (j + 1)) (tSh ss (j + 1)) = true) := ht
            clear ht
            generalize tAt ss (j + 1) = X1 at *
            generalize tSh ss (j + 1) = Y1 at *
            generalize tSh ss j = Y0 at *
            have K6 : QT w b (off + (j + 1) * 2) (off + j * 2 + 1) (.int .i64 X1) (.int .i64 Y1) (.int .i64 Y0) wr := ⟨c0, c1, p1, hb⟩
            go_wp2
            refine wp_region_cl (fun w' => QT w b (off + (j + 1) * 2) (off + j * 2 + 1) (.int .i64 X1) (.int .i64 Y1) (.int .i64 Y0) w') (by kernel_rfl) (by kernel_rfl) (QT.on K6 (Below.refl _ _).drew) ?_
            clear K6 c0 c1 p1
            repeat (first
              | go_big_quiet_skip
              | (go_big_quiet_want; go_big_quiet_op; go_big_quiet_on)
              | (go_big_quiet_want
                 apply Exists.intro
                 refine ⟨fun w7 hC7 => ?_, ?_⟩
                 · (have hC8 := hC7
                    obtain ⟨y0, y1, y2, _⟩ := hC7
                    go_simp
                    first
                      | done
                      | rfl
                      | exact ⟨rfl, rfl⟩
                      | (with_reducible refine (specSpan _ _ _ true HT.out).mono ?_
                         rintro e w8 ⟨rfl, b8⟩
                         exact ⟨rfl, QT.on hC8 b8⟩))
                 (go_simp; go_big_quiet_on)))
            refine wpQuiet_nil ?_
            intro w7 K7
            obtain ⟨_, _, _, B7⟩ := K7
            go_wp2
            go_roundw
            case rel => exact ⟨j + 1 + 1, by omega, by go_num, HG.out, B7⟩
            case measure => simp [intOf]; omega
        · have hk00 : k = 0 := by omega
          subst hk00
          have HG : Hid (∀ i, i < 0 + 1 → stepSp ss i) := GOOD.out (HS.out.2 ⟨ht, fun h => absurd h (by omega)⟩)
          have z0 : ¬ (0 : Int) < ((0 : Nat) : Int) := by omega
          clear HS BAD GOOD HA hc
          simp only [Nat.zero_mul, Nat.add_zero] at c0 c1
          have HT : Hid (spB (tAt ss 0) (tSh ss 0) = true) := ht
          clear ht
          generalize tAt ss 0 = X1 at *
          generalize tSh ss 0 = Y1 at *
          have K6 : QT w b (off) (off + 1) (.int .i64 X1) (.int .i64 Y1) (.int .i64 Y1) wr := ⟨c0, c1, c1, hb⟩
          go_wp2
          refine wp_region_cl (fun w' => QT w b (off) (off + 1) (.int .i64 X1) (.int .i64 Y1) (.int .i64 Y1) w') (by kernel_rfl) (by kernel_rfl) (QT.on K6 (Below.refl _ _).drew) ?_
          clear K6 c0 c1
          repeat (first
            | go_big_quiet_skip
            | (go_big_quiet_want; go_big_quiet_op; go_big_quiet_on)
            | (go_big_quiet_want
               apply Exists.intro
               refine ⟨fun w7 hC7 => ?_, ?_⟩
               · (have hC8 := hC7
                  obtain ⟨y0, y1, y2, _⟩ := hC7
                  go_simp
                  first
                    | done
                    | rfl
                    | exact ⟨rfl, rfl⟩
                    | (with_reducible refine (specSpan _ _ _ true HT.out).mono ?_
                       rintro e w8 ⟨rfl, b8⟩
                       exact ⟨rfl, QT.on hC8 b8⟩))
               (go_simp; go_big_quiet_on)))
          refine wpQuiet_nil ?_
          intro w7 K7
          obtain ⟨_, _, _, B7⟩ := K7
          go_wp2
          go_roundw
          case rel => exact ⟨0 + 1, by omega, by go_num, HG.out, B7⟩
          case measure => simp [intOf]; omega
    · have HR : Hid (r = decide ((ss.length : Int) ≤ 300)) := by
        unfold Hid
        rw [Bool.eq_iff_iff, HRR.out, decide_eq_true_iff]
        exact ⟨fun h => by have := h.1; omega, fun h => ⟨by omega, fun i hi => HA.out i (by omega)⟩⟩
      have hi2 : ¬ (k : Int) < (ss.length : Int) := by omega
      go_wp2
      go_ret
      exact ⟨ret_b HR.out.symm, hb⟩
/-- How many minutes the first so many spans have. -/
def szU (ss : List (Int × Int)) : Nat → Int
  | 0 => 0
  | k + 1 => szU ss k + (tSh ss k - tAt ss k)
theorem szU_bd (ss : List (Int × Int)) (h : ∀ i, i < ss.length → spB (tAt ss i) (tSh ss i) = true) : ∀ k : Nat, k ≤ ss.length → 0 ≤ szU ss k ∧ szU ss k ≤ k * 5258985119 := by
  intro k
  induction k with
  | zero => intro _; exact ⟨Int.le_refl _, by simp [szU]⟩
  | succ k ih =>
    intro hk
    have h1 := ih (by omega)
    have h2 := (sp_iff _ _).1 (h k (by omega))
    unfold szU; constructor <;> omega
def szE (ss : List (Int × Int)) (r : Bool) : Int := if r = true then szU ss ss.length else 0
set_option maxRecDepth 100000 in
set_option maxHeartbeats 4000000 in
theorem implSpanSize (a : Option Addr) (cap : Nat) (ss : List (Int × Int)) (w : World) (h : IsTurns w a ss) (hl : ss.length ≤ 2000000) (r : Bool) (hr : r = true ↔ SpOk ss) :
    Calls Try.prog 27 #[.slice a ss.length cap] w fun e w' => e = .returned (.int .i64 (szE ss r)) ∧ Below w.heap.size w w' := by
  have HT0 : Hid (IsTurns w a ss) := h
  have HRR : Hid (r = true ↔ SpOk ss) := hr
  clear h hr
  go_enter Try.func27, Try.ntmps27
  go_wp2_with fail
  with_reducible refine (implSpansOk _ _ _ _ HT0.out hl r HRR.out).mono ?_
  rintro e w1 ⟨rfl, b1⟩
  cases r with
  | false =>
    go_wp2
    go_ret
    exact ⟨rfl, b1⟩
  | true =>
    have HOK : Hid (SpOk ss) := HRR.out.1 rfl
    have HZ : Hid (szE ss true = szU ss ss.length) := if_pos rfl
    clear HRR
    go_wp2
    go_loopw [3, 5, 11] (fun n _ i wr => ∃ k : Nat, k ≤ ss.length ∧ i = .int .i64 k ∧ n = .int .i64 (szU ss k) ∧ Below w.heap.size w wr) (fun _ _ i _ => ss.length - (intOf i).toNat)
    case atStart => exact ⟨0, by omega, rfl, rfl, b1⟩
    case round =>
      obtain ⟨k, hk, rfl, rfl, hb⟩ := hrel
      by_cases hlt : k < ss.length
      · have T := HT0.out.below (B := 0) hb
        rcases T with T | ⟨b, off, rfl, hbs, hc⟩
        · rw [T] at hlt; simp at hlt
        obtain ⟨c0, c1⟩ := hc k hlt
        have hi0 : (0 : Int) ≤ (k : Int) := by omega
        have hi1 : (k : Int) < (ss.length : Int) := by omega
        have u := szU_bd ss (fun i hi => (HOK.out.2 i hi).1) k (by omega)
        have l3 := HOK.out.1
        have tb := (sp_iff _ _).1 (HOK.out.2 k hlt).1
        have HU : Hid (szU ss (k + 1) = szU ss k + (tSh ss k - tAt ss k)) := rfl
        have hbA : Below w.heap.size w (wr.alloc (.cells #[.int .i64 (tAt ss k), .int .i64 (tSh ss k)] 51)) := hb.alloc hb.size _
        have g1 := IntWalk.i64_in (tSh ss k - tAt ss k) (by omega)
        have g2 := IntWalk.i64_in (szU ss k + (tSh ss k - tAt ss k)) (by omega)
        clear hc
        go_wp2
        go_roundw
        case rel => exact ⟨k + 1, by omega, by go_num, by rw [HU.out], hbA⟩
        case measure => simp [intOf]; omega
      · have hkk : k = ss.length := by omega
        subst hkk
        go_wp2
        go_ret
        exact ⟨ret_i HZ.out.symm, hb⟩
end Go.Proofs.Ytkbgbccehijckaa
