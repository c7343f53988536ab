/- Spans, as they lie in memory, and when they are ok: the program's and the specification's. -/
import Derived.Test.YtkbgbccehijckaaZn
import Derived.Test.YtkbgbccehijckaaCa
import Derived.Test.YtkbgbccehijckaaCls
namespace Go.Proofs.Ytkbgbccehijckaa
open Go.RowKit
set_option linter.unusedVariables false
/-- A span is one. -/
def spB (a b : Int) : Bool := decide ((0 ≤ a ∧ a ≤ 5258964959) ∧ a < b ∧ b ≤ 5258985119)
theorem sp_iff (a b : Int) : spB a b = true ↔ (0 ≤ a ∧ a ≤ 5258964959) ∧ a < b ∧ b ≤ 5258985119 := by unfold spB; exact decide_eq_true_iff
theorem sp_not (a b : Int) : spB a b = false ↔ ¬ ((0 ≤ a ∧ a ≤ 5258964959) ∧ a < b ∧ b ≤ 5258985119) := by unfold spB; exact decide_eq_false_iff_not
def stepSp (ss : List (Int × Int)) (i : Nat) : Prop := spB (tAt ss i) (tSh ss i) = true ∧ (0 < i → tSh ss (i - 1) < tAt ss i)
def SpOk (ss : List (Int × Int)) : Prop := ss.length ≤ 300 ∧ ∀ i, i < ss.length → stepSp ss i
theorem sp_dec (ss : List (Int × Int)) : ∃ r : Bool, r = true ↔ SpOk ss := by
  by_cases h : SpOk ss
  · exact ⟨true, fun _ => h, fun _ => rfl⟩
  · exact ⟨false, fun e => Bool.noConfusion e, fun e => absurd e h⟩
set_option maxHeartbeats 4000000 in
theorem implSpan (a b : Int) (w : World) (r : Bool) (hr : spB a b = r) : Calls Try.prog 53 #[.agg #[.int .i64 a, .int .i64 b]] w fun e w' => e = .returned (.bool r) ∧ Below w.heap.size w w' := by
  have hb0 : Below w.heap.size w (w.alloc (.cells #[.int .i64 a, .int .i64 b] 51)) := (Below.refl _ _).alloc (Nat.le_refl _) _
  subst hr
  cases ht : tiB a with
  | false =>
    have HB : Hid (spB a b = false) := (sp_not _ _).2 fun h => (ti_not _).1 ht h.1
    go_enter Try.func53, Try.ntmps53
    go_wp2_with (first | (go_at_call 41; refine (implTime _ _ false ht).mono ?_; rintro e w' ⟨rfl, rfl⟩))
    go_ret
    exact ⟨ret_b HB.out.symm, hb0⟩
  | true =>
    have tb := (ti_iff _).1 ht
    by_cases h1 : a < b
    · have HB : Hid (spB a b = decide (b ≤ 5258985119)) := by
        unfold Hid; rw [Bool.eq_iff_iff, sp_iff, decide_eq_true_iff]; exact ⟨fun h => h.2.2, fun h => ⟨tb, h1, h⟩⟩
      go_enter Try.func53, Try.ntmps53
      go_wp2_with (first | (go_at_call 41; refine (implTime _ _ true ht).mono ?_; rintro e w' ⟨rfl, rfl⟩))
      go_ret
      exact ⟨ret_b HB.out.symm, hb0⟩
    · have HB : Hid (spB a b = false) := (sp_not _ _).2 fun h => h1 h.2.1
      go_enter Try.func53, Try.ntmps53
      go_wp2_with (first | (go_at_call 41; refine (implTime _ _ true ht).mono ?_; rintro e w' ⟨rfl, rfl⟩))
      go_ret
      exact ⟨ret_b HB.out.symm, hb0⟩
set_option maxHeartbeats 4000000 in
theorem specSpan (a b : Int) (w : World) (r : Bool) (hr : spB a b = r) : Calls Try.prog 52 #[.agg #[.int .i64 a, .int .i64 b]] w fun e w' => e = .returned (.bool r) ∧ Below w.heap.size w w' := by
  have hb0 : Below w.heap.size w (w.alloc (.cells #[.int .i64 a, .int .i64 b] 51)) := (Below.refl _ _).alloc (Nat.le_refl _) _
  subst hr
  cases ht : tiB a with
  | false =>
    have HB : Hid (spB a b = false) := (sp_not _ _).2 fun h => (ti_not _).1 ht h.1
    go_enter Try.func52, Try.ntmps52
    go_wp2_with (first | (go_at_call 38; refine (specTime _ _ false ht).mono ?_; rintro e w' ⟨rfl, rfl⟩))
    go_ret
    exact ⟨ret_b HB.out.symm, hb0⟩
  | true =>
    have tb := (ti_iff _).1 ht
    have HB : Hid (spB a b = inB b (a + 1) 5258985119) := by
      unfold Hid; rw [Bool.eq_iff_iff, sp_iff, in_iff]; exact ⟨fun h => ⟨by omega, h.2.2⟩, fun h => ⟨tb, by omega, h.2⟩⟩
    have q1 := IntWalk.i64_in (a + 1) (by omega)
    go_enter Try.func52, Try.ntmps52
    go_wp2_with (first | (go_at_call 38; refine (specTime _ _ true ht).mono ?_; rintro e w' ⟨rfl, rfl⟩) | (go_at_call 46; refine (specIn _ _ _ _).mono ?_; rintro e w' ⟨rfl, rfl⟩))
    go_ret
    exact ⟨ret_b HB.out.symm, hb0⟩
/-- A span in a box, and a cell of a row. -/
abbrev QS (w : World) (R b o : Nat) (x y z : Value) (W : World) : Prop := W.cell? ⟨R, 0, none⟩ = some x ∧ W.cell? ⟨R, 1, none⟩ = some y ∧ W.cell? ⟨b, o, none⟩ = some z ∧ Below w.heap.size w W
theorem QS.on {w W W' : World} {R b o : Nat} {x y z : Value} (h : QS w R b o x y z W) (hb : Below W.heap.size W W') : QS w R b o x y z W' := by
  obtain ⟨c0, c1, c2, B⟩ := h
  exact ⟨by rw [hb.cell (cell_lt c0)]; exact c0, by rw [hb.cell (cell_lt c1)]; exact c1, by rw [hb.cell (cell_lt c2)]; exact c2, bstep B hb⟩
set_option maxRecDepth 100000 in
set_option maxHeartbeats 4000000 in
theorem implSpansOk (a : Option Addr) (cap : Nat) (ss : List (Int × Int)) (w : World) (h : IsTurns w a ss) (hl : ss.length ≤ 2000000) (r : Bool) (hr : r = true ↔ SpOk ss) :
    Calls Try.prog 25 #[.slice a ss.length cap] w fun e w' => e = .returned (.bool r) ∧ Below w.heap.size w w' := by
  by_cases h8 : ss.length ≤ 300
  · by_cases hn : ss = []
    · subst hn
      have HR : Hid (r = true) := hr.2 ⟨h8, fun i hi => by simp at hi⟩
      clear hr
      go_enter Try.func25, Try.ntmps25
      go_wp2
      refine wp_loop_rounds 1 ?_; rw [rounds_succ]
      go_wp2
      go_ret
      exact ⟨ret_b HR.out.symm, Below.refl _ _⟩
    · rcases h with h | ⟨b, off, rfl, hbs, hc⟩
      · exact absurd h hn
      · have HC : Hid (∀ i, i < ss.length → w.cell? ⟨b, off + i * 2, none⟩ = some (.int .i64 (tAt ss i)) ∧ w.cell? ⟨b, off + i * 2 + 1, none⟩ = some (.int .i64 (tSh ss i))) := hc
        have HRR : Hid (r = true ↔ SpOk ss) := hr
        clear hc hr hn
        go_enter Try.func25, Try.ntmps25
        go_wp2
        go_loopw [3, 4, 10] (fun _ _ i wr => ∃ k : Nat, k ≤ ss.length ∧ i = .int .i64 k ∧ (∀ j, j < k → stepSp ss j) ∧ Below w.heap.size w wr) (fun _ _ i _ => ss.length - (intOf i).toNat)
        case atStart => exact ⟨0, by omega, rfl, fun j h => by omega, Below.refl _ _⟩
        case round =>
          obtain ⟨k, hk, rfl, ha, hb⟩ := hrel
          have HA : Hid (∀ j, j < k → stepSp ss j) := ha
          clear ha
          have hsz := hb.size
          by_cases hlt : k < ss.length
          · have c0 : wr.cell? ⟨b, off + k * 2, none⟩ = some (.int .i64 (tAt ss k)) := by rw [hb.cell (p := ⟨b, off + k * 2, none⟩) hbs]; exact (HC.out k hlt).1
            have c1 : wr.cell? ⟨b, off + k * 2 + 1, none⟩ = some (.int .i64 (tSh ss k)) := by rw [hb.cell (p := ⟨b, off + k * 2 + 1, none⟩) hbs]; exact (HC.out k hlt).2
            have hbr : b < wr.heap.size := by omega
            have HS : Hid (stepSp ss k ↔ spB (tAt ss k) (tSh ss k) = true ∧ (0 < k → tSh ss (k - 1) < tAt ss k)) := Iff.rfl
            have BAD : Hid (¬ stepSp ss k → r = false) := fun hn => by
              cases hrr : r with
              | false => rfl
              | true => exact absurd ((HRR.out.1 hrr).2 k hlt) hn
            have GOOD : Hid (stepSp ss k → ∀ j, j < k + 1 → stepSp ss j) := fun hg j hj => by
              by_cases hjk : j = k
              · subst hjk; exact hg
              · exact HA.out j (by omega)
            have hbA : Below w.heap.size w (wr.alloc (.cells #[.int .i64 (tAt ss k), .int .i64 (tSh ss k)] 51)) := hb.alloc hb.size _
            cases ht : spB (tAt ss k) (tSh ss k) with
            | false =>
              have HB : Hid (r = false) := BAD.out (fun hs => by rw [(HS.out.1 hs).1] at ht; exact Bool.noConfusion ht)
              clear HS BAD GOOD HA
              generalize tAt ss k = X1 at *
              generalize tSh ss k = Y1 at *
              have HT : Hid (spB X1 Y1 = false) := ht
              clear ht
              have K6 : QS w wr.heap.size b (off + k * 2 + 1) (.int .i64 X1) (.int .i64 Y1) (.int .i64 Y1) (wr.alloc (.cells #[.int .i64 X1, .int .i64 Y1] 51)) := ⟨by simp, by simp, by rw [World.cell?_alloc_old _ _ _ (Nat.ne_of_lt hbr)]; exact c1, hbA⟩
              go_wp2
              refine wp_region_cl (fun w' => QS w wr.heap.size b (off + k * 2 + 1) (.int .i64 X1) (.int .i64 Y1) (.int .i64 Y1) w') (by kernel_rfl) (by kernel_rfl) (QS.on K6 (Below.refl _ _).drew) ?_
              clear K6 c0 c1
              repeat (first
                | go_big_quiet_skip
                | (go_big_quiet_want; go_big_quiet_op; go_big_quiet_on)
                | (go_big_quiet_want
                   apply Exists.intro
                   refine ⟨fun w7 hC7 => ?_, ?_⟩
                   · (have hC8 := hC7
                      obtain ⟨y0, y1, y2, _⟩ := hC7
                      go_simp
                      first
                        | done
                        | rfl
                        | exact ⟨rfl, rfl⟩
                        | (with_reducible refine (implSpan _ _ _ false HT.out).mono ?_
                           rintro e w8 ⟨rfl, b8⟩
                           exact ⟨rfl, QS.on hC8 b8⟩))
                   (go_simp; go_big_quiet_on)))
              refine wpQuiet_nil ?_
              intro w7 K7
              obtain ⟨_, _, _, B7⟩ := K7
              go_wp2
              go_ret
              exact ⟨ret_b HB.out.symm, B7⟩
            | true =>
              have tb := (sp_iff _ _).1 ht
              by_cases hk0 : 0 < k
              · have p1 : wr.cell? ⟨b, off + (k - 1) * 2 + 1, none⟩ = some (.int .i64 (tSh ss (k - 1))) := by rw [hb.cell (p := ⟨b, off + (k - 1) * 2 + 1, none⟩) hbs]; exact (HC.out (k - 1) (by omega)).2
                obtain ⟨j, rfl⟩ : ∃ j, k = j + 1 := ⟨k - 1, by omega⟩
                simp only [Nat.add_sub_cancel] at p1 HS
                have q2 := IntWalk.i64_in ((j : Int) + 1 - 1) (by omega)
                have hj0 : (0 : Int) ≤ (j : Int) := by omega
                have hj1 : (j : Int) < (ss.length : Int) := by omega
                have q6 : ((j : Int) + 1) - 1 = (j : Int) := by omega
                have q3 := IntWalk.i64_in (j : Int) (by omega)
                by_cases hd : tAt ss (j + 1) ≤ tSh ss j
                · have HB : Hid (r = false) := BAD.out (fun h => by have := (HS.out.1 h).2 (by omega); omega)
                  clear HS BAD GOOD HA
                  generalize tAt ss (j + 1) = X1 at *
                  generalize tSh ss (j + 1) = Y1 at *
                  generalize tSh ss j = Y0 at *
                  have HT : Hid (spB X1 Y1 = true) := ht
                  clear ht
                  have K6 : QS w wr.heap.size b (off + j * 2 + 1) (.int .i64 X1) (.int .i64 Y1) (.int .i64 Y0) (wr.alloc (.cells #[.int .i64 X1, .int .i64 Y1] 51)) := ⟨by simp, by simp, by rw [World.cell?_alloc_old _ _ _ (Nat.ne_of_lt hbr)]; exact p1, hbA⟩
                  go_wp2
                  refine wp_region_cl (fun w' => QS w wr.heap.size b (off + j * 2 + 1) (.int .i64 X1) (.int .i64 Y1) (.int .i64 Y0) w') (by kernel_rfl) (by kernel_rfl) (QS.on K6 (Below.refl _ _).drew) ?_
                  clear K6 c0 c1 p1
                  repeat (first
                    | go_big_quiet_skip
                    | (go_big_quiet_want; go_big_quiet_op; go_big_quiet_on)
                    | (go_big_quiet_want
                       apply Exists.intro
                       refine ⟨fun w7 hC7 => ?_, ?_⟩
                       · (have hC8 := hC7
                          obtain ⟨y0, y1, y2, _⟩ := hC7
                          go_simp
                          first
                            | done
                            | rfl
                            | exact ⟨rfl, rfl⟩
                            | (with_reducible refine (implSpan _ _ _ true HT.out).mono ?_
                               rintro e w8 ⟨rfl, b8⟩
                               exact ⟨rfl, QS.on hC8 b8⟩))
                       (go_simp; go_big_quiet_on)))
                  refine wpQuiet_nil ?_
                  intro w7 K7
                  obtain ⟨_, _, _, B7⟩ := K7
                  go_wp2
                  go_ret
                  exact ⟨ret_b HB.out.symm, B7⟩
                · have HG : Hid (∀ i, i < j + 1 + 1 → stepSp ss i) := GOOD.out (HS.out.2 ⟨ht, fun _ => by omega⟩)
                  clear HS BAD GOOD HA
                  have HT : Hid (spB (tAt ss (j + 1)) (tSh ss (j + 1)) = true) := ht
                  clear ht
                  generalize tAt ss (j + 1) = X1 at *
                  generalize tSh ss (j + 1) = Y1 at *
                  generalize tSh ss j = Y0 at *
                  have K6 : QS w wr.heap.size b (off + j * 2 + 1) (.int .i64 X1) (.int .i64 Y1) (.int .i64 Y0) (wr.alloc (.cells #[.int .i64 X1, .int .i64 Y1] 51)) := ⟨by simp, by simp, by rw [World.cell?_alloc_old _ _ _ (Nat.ne_of_lt hbr)]; exact p1, hbA⟩
                  go_wp2
                  refine wp_region_cl (fun w' => QS w wr.heap.size b (off + j * 2 + 1) (.int .i64 X1) (.int .i64 Y1) (.int .i64 Y0) w') (by kernel_rfl) (by kernel_rfl) (QS.on K6 (Below.refl _ _).drew) ?_
                  clear K6 c0 c1 p1
                  repeat (first
                    | go_big_quiet_skip
                    | (go_big_quiet_want; go_big_quiet_op; go_big_quiet_on)
                    | (go_big_quiet_want
                       apply Exists.intro
                       refine ⟨fun w7 hC7 => ?_, ?_⟩
                       · (have hC8 := hC7
                          obtain ⟨y0, y1, y2, _⟩ := hC7
                          go_simp
                          first
                            | done
                            | rfl
                            | exact ⟨rfl, rfl⟩
                            | (with_reducible refine (implSpan _ _ _ true HT.out).mono ?_
                               rintro e w8 ⟨rfl, b8⟩
                               exact ⟨rfl, QS.on hC8 b8⟩))
                       (go_simp; go_big_quiet_on)))
                  refine wpQuiet_nil ?_
                  intro w7 K7
                  obtain ⟨_, _, _, B7⟩ := K7
                  go_wp2
                  go_roundw
                  case rel => exact ⟨j + 1 + 1, by omega, by go_num, HG.out, B7⟩
                  case measure => simp [intOf]; omega
              · have hk00 : k = 0 := by omega
                subst hk00
                have HG : Hid (∀ i, i < 0 + 1 → stepSp ss i) := GOOD.out (HS.out.2 ⟨ht, fun h => absurd h (by omega)⟩)
                have z0 : ¬ (0 : Int) < ((0 : Nat) : Int) := by omega
                clear HS BAD GOOD HA
                simp only [Nat.zero_mul, Nat.add_zero] at c0 c1
                have HT : Hid (spB (tAt ss 0) (tSh ss 0) = true) := ht
                clear ht
                generalize tAt ss 0 = X1 at *
                generalize tSh ss 0 = Y1 at *
                have K6 : QS w wr.heap.size b (off + 1) (.int .i64 X1) (.int .i64 Y1) (.int .i64 Y1) (wr.alloc (.cells #[.int .i64 X1, .int .i64 Y1] 51)) := ⟨by simp, by simp, by rw [World.cell?_alloc_old _ _ _ (Nat.ne_of_lt hbr)]; exact c1, hbA⟩
                go_wp2
                refine wp_region_cl (fun w' => QS w wr.heap.size b (off + 1) (.int .i64 X1) (.int .i64 Y1) (.int .i64 Y1) w') (by kernel_rfl) (by kernel_rfl) (QS.on K6 (Below.refl _ _).drew) ?_
                clear K6 c0 c1
                repeat (first
                  | go_big_quiet_skip
                  | (go_big_quiet_want; go_big_quiet_op; go_big_quiet_on)
                  | (go_big_quiet_want
                     apply Exists.intro
                     refine ⟨fun w7 hC7 => ?_, ?_⟩
                     · (have hC8 := hC7
                        obtain ⟨y0, y1, y2, _⟩ := hC7
                        go_simp
                        first
                          | done
                          | rfl
                          | exact ⟨rfl, rfl⟩
                          | (with_reducible refine (implSpan _ _ _ true HT.out).mono ?_
                             rintro e w8 ⟨rfl, b8⟩
                             exact ⟨rfl, QS.on hC8 b8⟩))
                     (go_simp; go_big_quiet_on)))
                refine wpQuiet_nil ?_
                intro w7 K7
                obtain ⟨_, _, _, B7⟩ := K7
                go_wp2
                go_roundw
                case rel => exact ⟨0 + 1, by omega, by go_num, HG.out, B7⟩
                case measure => simp [intOf]; omega
          · have HR : Hid (r = true) := HRR.out.2 ⟨h8, fun i hi => HA.out i (by omega)⟩
            go_wp2
            go_ret
            exact ⟨ret_b HR.out.symm, hb⟩
  · have HR : Hid (r = false) := by
      unfold Hid
      cases hrr : r with
      | false => rfl
      | true => exact absurd (hr.1 hrr).1 h8
    clear hr h
    go_enter Try.func25, Try.ntmps25
    go_wp2
    go_ret
    exact ⟨ret_b HR.out.symm, Below.refl _ _⟩
end Go.Proofs.Ytkbgbccehijckaa
