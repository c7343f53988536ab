/- Zones: turns as they lie in memory, and when they are ok. -/
import Derived.Test.YtlhaldhfoeiohaaNm
namespace Go.Proofs.Ytlhaldhfoeiohaa
open Go.RowKit
set_option linter.unusedVariables false

def tiB (n : Int) : Bool := decide (0 ≤ n ∧ n ≤ 5258964959)
def shB (n : Int) : Bool := decide (-1440 ≤ n ∧ n ≤ 1440)
theorem ti_iff (n : Int) : tiB n = true ↔ 0 ≤ n ∧ n ≤ 5258964959 := by unfold tiB; exact decide_eq_true_iff
theorem ti_not (n : Int) : tiB n = false ↔ ¬ (0 ≤ n ∧ n ≤ 5258964959) := by unfold tiB; exact decide_eq_false_iff_not
theorem sh_iff (n : Int) : shB n = true ↔ -1440 ≤ n ∧ n ≤ 1440 := by unfold shB; exact decide_eq_true_iff
theorem sh_not (n : Int) : shB n = false ↔ ¬ (-1440 ≤ n ∧ n ≤ 1440) := by unfold shB; exact decide_eq_false_iff_not
abbrev tAt (ts : List (Int × Int)) (i : Nat) : Int := (ts.getD i (0, 0)).1
abbrev tSh (ts : List (Int × Int)) (i : Nat) : Int := (ts.getD i (0, 0)).2
def stepOk (ts : List (Int × Int)) (i : Nat) : Prop := (0 ≤ tAt ts i ∧ tAt ts i ≤ 5258964959) ∧ (-1440 ≤ tSh ts i ∧ tSh ts i ≤ 1440) ∧ (0 < i → tAt ts (i - 1) + 10080 ≤ tAt ts i)
def TrOk (ts : List (Int × Int)) : Prop := ts.length ≤ 8 ∧ ∀ i, i < ts.length → stepOk ts i
/-- Turns in memory. -/
def IsTurns (w : World) (a : Option Addr) (ts : List (Int × Int)) : Prop := ts = [] ∨ ∃ b off, a = some ⟨b, off, none⟩ ∧ b < w.heap.size ∧ ∀ i, i < ts.length → w.cell? ⟨b, off + i * 2, none⟩ = some (.int .i64 (tAt ts i)) ∧ w.cell? ⟨b, off + i * 2 + 1, none⟩ = some (.int .i64 (tSh ts i))
theorem IsTurns.below {w w' : World} {a : Option Addr} {ts : List (Int × Int)} (h : IsTurns w a ts) {B : Nat} (hb : Below w.heap.size w w') : IsTurns w' a ts := by
  rcases h with h | ⟨b, off, h1, h2, h3⟩
  · exact .inl h
  · refine .inr ⟨b, off, h1, Nat.lt_of_lt_of_le h2 hb.size, fun i hi => ?_⟩
    rw [hb.cell (p := ⟨b, off + i * 2, none⟩) h2, hb.cell (p := ⟨b, off + i * 2 + 1, none⟩) h2]; exact h3 i hi
theorem implTime (n : Int) (w : World) (r : Bool) (hr : tiB n = r) : Calls Try.prog 49 #[.int .i64 n] w fun e w' => e = .returned (.bool r) ∧ w' = w := by
  subst hr
  by_cases h0 : 0 ≤ n
  · go_enter Try.func49, Try.ntmps49
    go_wp2
    go_ret
    exact ⟨ret_b (by unfold tiB; simp [h0]), rfl⟩
  · go_enter Try.func49, Try.ntmps49
    go_wp2
    go_ret
    exact ⟨ret_b (by unfold tiB; simp; omega), rfl⟩
theorem implIsShift (n : Int) (w : World) (r : Bool) (hr : shB n = r) : Calls Try.prog 46 #[.int .i64 n] w fun e w' => e = .returned (.bool r) ∧ w' = w := by
  subst hr
  by_cases h0 : -1440 ≤ n
  · go_enter Try.func46, Try.ntmps46
    go_wp2
    go_ret
    exact ⟨ret_b (by unfold shB; simp [h0]), rfl⟩
  · go_enter Try.func46, Try.ntmps46
    go_wp2
    go_ret
    exact ⟨ret_b (by unfold shB; simp; omega), rfl⟩
theorem specTime (n : Int) (w : World) (r : Bool) (hr : tiB n = r) : Calls Try.prog 39 #[.int .i64 n] w fun e w' => e = .returned (.bool r) ∧ w' = w := by
  subst hr
  go_enter Try.func39, Try.ntmps39
  go_wp2_with (go_at_call 15; refine (specIn _ _ _ _).mono ?_; rintro e w' ⟨rfl, rfl⟩)
  go_ret
  exact ⟨rfl, rfl⟩
set_option maxHeartbeats 4000000 in
theorem implTurnsOk (a : Option Addr) (cap : Nat) (ts : List (Int × Int)) (w : World) (h : IsTurns w a ts) (hl : ts.length ≤ 2000000) (r : Bool) (hr : r = true ↔ TrOk ts) :
    Calls Try.prog 47 #[.slice a ts.length cap] w fun e w' => e = .returned (.bool r) ∧ Below w.heap.size w w' := by
  by_cases h8 : ts.length ≤ 8
  · by_cases hn : ts = []
    · subst hn
      have HR : Hid (r = true) := hr.2 ⟨h8, fun i hi => by simp at hi⟩
      clear hr
      go_enter Try.func47, Try.ntmps47
      go_wp2
      refine wp_loop_rounds 1 ?_; rw [rounds_succ]
      go_wp2
      go_ret
      exact ⟨ret_b HR.out.symm, Below.refl _ _⟩
    · rcases h with h | ⟨b, off, rfl, hbs, hc⟩
      · exact absurd h hn
      · have HC : Hid (∀ i, i < ts.length → w.cell? ⟨b, off + i * 2, none⟩ = some (.int .i64 (tAt ts i)) ∧ w.cell? ⟨b, off + i * 2 + 1, none⟩ = some (.int .i64 (tSh ts i))) := hc
        have HRR : Hid (r = true ↔ TrOk ts) := hr
        clear hc hr hn
        go_enter Try.func47, Try.ntmps47
        go_wp2
        go_loopw [3, 4, 10] (fun _ _ i wr => ∃ k : Nat, k ≤ ts.length ∧ i = .int .i64 k ∧ (∀ j, j < k → stepOk ts j) ∧ Below w.heap.size w wr) (fun _ _ i _ => ts.length - (intOf i).toNat)
        case atStart => exact ⟨0, by omega, rfl, fun j h => by omega, Below.refl _ _⟩
        case round =>
          obtain ⟨k, hk, rfl, ha, hb⟩ := hrel
          have HA : Hid (∀ j, j < k → stepOk ts j) := ha
          clear ha
          have hsz := hb.size
          by_cases hlt : k < ts.length
          · have c0 : wr.cell? ⟨b, off + k * 2, none⟩ = some (.int .i64 (tAt ts k)) := by rw [hb.cell (p := ⟨b, off + k * 2, none⟩) hbs]; exact (HC.out k hlt).1
            have c1 : wr.cell? ⟨b, off + k * 2 + 1, none⟩ = some (.int .i64 (tSh ts k)) := by rw [hb.cell (p := ⟨b, off + k * 2 + 1, none⟩) hbs]; exact (HC.out k hlt).2
            have hbr : b < wr.heap.size := by omega
            have HS : Hid (stepOk ts k ↔ (0 ≤ tAt ts k ∧ tAt ts k ≤ 5258964959) ∧ (-1440 ≤ tSh ts k ∧ tSh ts k ≤ 1440) ∧ (0 < k → tAt ts (k - 1) + 10080 ≤ tAt ts k)) := Iff.rfl
            have bad : ¬ stepOk ts k → r = false := fun hn => by
              cases hrr : r with
              | false => rfl
              | true => exact absurd ((HRR.out.1 hrr).2 k hlt) hn
            have BAD : Hid (¬ stepOk ts k → r = false) := bad
            have good : stepOk ts k → ∀ j, j < k + 1 → stepOk ts j := fun hg j hj => by
              by_cases hjk : j = k
              · subst hjk; exact hg
              · exact HA.out j (by omega)
            have GOOD : Hid (stepOk ts k → ∀ j, j < k + 1 → stepOk ts j) := good
            clear bad good
            have hbA : Below w.heap.size w (wr.alloc (.cells #[.int .i64 (tAt ts k), .int .i64 (tSh ts k)] 66)) := hb.alloc hb.size _
            cases ht : tiB (tAt ts k) with
            | false =>
              have HB : Hid (r = false) := BAD.out (fun hs => (ti_not _).1 ht (HS.out.1 hs).1)
              go_wp2_with (first | (go_at_call 49; refine (implTime _ _ false ht).mono ?_; rintro e w' ⟨rfl, rfl⟩))
              go_ret
              exact ⟨ret_b HB.out.symm, hbA⟩
            | true =>
              have tb := (ti_iff _).1 ht
              cases hs : shB (tSh ts k) with
              | false =>
                have HB : Hid (r = false) := BAD.out (fun h => (sh_not _).1 hs (HS.out.1 h).2.1)
                go_wp2_with (first | (go_at_call 49; refine (implTime _ _ true ht).mono ?_; rintro e w' ⟨rfl, rfl⟩) | (go_at_call 46; refine (implIsShift _ _ false hs).mono ?_; rintro e w' ⟨rfl, rfl⟩))
                go_ret
                exact ⟨ret_b HB.out.symm, hbA⟩
              | true =>
                have sb := (sh_iff _).1 hs
                by_cases hk0 : 0 < k
                · have hp := HA.out (k - 1) (by omega)
                  have pb : 0 ≤ tAt ts (k - 1) ∧ tAt ts (k - 1) ≤ 5258964959 := hp.1
                  clear hp
                  have p0 : wr.cell? ⟨b, off + (k - 1) * 2, none⟩ = some (.int .i64 (tAt ts (k - 1))) := by rw [hb.cell (p := ⟨b, off + (k - 1) * 2, none⟩) hbs]; exact (HC.out (k - 1) (by omega)).1
                  obtain ⟨j, rfl⟩ : ∃ j, k = j + 1 := ⟨k - 1, by omega⟩
                  simp only [Nat.add_sub_cancel] at pb p0 HS
                  by_cases hd : tAt ts (j + 1) - tAt ts j < 10080
                  · have HB : Hid (r = false) := BAD.out (fun h => by have := (HS.out.1 h).2.2 (by omega); omega)
                    go_wp2_with (first | (go_at_call 49; refine (implTime _ _ true ht).mono ?_; rintro e w' ⟨rfl, rfl⟩) | (go_at_call 46; refine (implIsShift _ _ true hs).mono ?_; rintro e w' ⟨rfl, rfl⟩))
                    go_quiet (fail)
                    go_wp2
                    go_ret
                    exact ⟨ret_b HB.out.symm, Below.drewN' hbA _⟩
                  · have HG : Hid (∀ i, i < j + 1 + 1 → stepOk ts i) := GOOD.out (HS.out.2 ⟨tb, sb, fun _ => by omega⟩)
                    go_wp2_with (first | (go_at_call 49; refine (implTime _ _ true ht).mono ?_; rintro e w' ⟨rfl, rfl⟩) | (go_at_call 46; refine (implIsShift _ _ true hs).mono ?_; rintro e w' ⟨rfl, rfl⟩))
                    go_quiet (fail)
                    go_wp2
                    go_roundw
                    case rel => exact ⟨j + 1 + 1, by omega, by go_num, HG.out, Below.drewN' hbA _⟩
                    case measure => simp [intOf]; omega
                · have hk00 : k = 0 := by omega
                  subst hk00
                  simp only [Nat.zero_mul, Nat.add_zero] at c0 c1
                  have HG : Hid (∀ i, i < 0 + 1 → stepOk ts i) := GOOD.out (HS.out.2 ⟨tb, sb, fun h => absurd h (by omega)⟩)
                  go_wp2_with (first | (go_at_call 49; refine (implTime _ _ true ht).mono ?_; rintro e w' ⟨rfl, rfl⟩) | (go_at_call 46; refine (implIsShift _ _ true hs).mono ?_; rintro e w' ⟨rfl, rfl⟩))
                  go_quiet (fail)
                  go_wp2
                  go_roundw
                  case rel => exact ⟨0 + 1, by omega, by go_num, HG.out, Below.drewN' hbA _⟩
                  case measure => simp [intOf]; omega
          · have HR : Hid (r = true) := HRR.out.2 ⟨h8, fun i hi => HA.out i (by omega)⟩
            go_wp2
            go_ret
            exact ⟨ret_b HR.out.symm, hb⟩
  · have HR : Hid (r = false) := by
      unfold Hid
      cases hrr : r with
      | false => rfl
      | true => exact absurd (hr.1 hrr).1 h8
    clear hr h
    go_enter Try.func47, Try.ntmps47
    go_wp2
    go_ret
    exact ⟨ret_b HR.out.symm, Below.refl _ _⟩
/-- A zone is ok. -/
def znB (s : ByteArray) (sh : Int) (r : Bool) : Bool := nmB s && (shB sh && r)
set_option maxHeartbeats 4000000 in
theorem implZoneOk (s : ByteArray) (sh : Int) (a : Option Addr) (cap : Nat) (ts : List (Int × Int)) (w : World) (h : IsTurns w a ts) (hl : ts.length ≤ 2000000) (hs : s.size ≤ maxLen) (r : Bool) (hr : r = true ↔ TrOk ts) :
    Calls Try.prog 42 #[.agg #[.string s, .int .i64 sh, .slice a ts.length cap]] w fun e w' => e = .returned (.bool (znB s sh r)) ∧ Below w.heap.size w w' := by
  have hb0 : Below w.heap.size w (w.alloc (.cells #[.string s, .int .i64 sh, .slice a ts.length cap] 43)) := (Below.refl _ _).alloc (Nat.le_refl _) _
  have hT := h.below (B := 0) hb0
  clear h
  cases hn : nmB s with
  | false =>
    have HZ : Hid (znB s sh r = false) := by unfold Hid znB; rw [hn, Bool.false_and]
    have HN : Hid (nmB s = false) := hn
    clear hn
    go_enter Try.func42, Try.ntmps42
    go_wp2_with fail
    refine (implName s _ hs).mono ?_
    rintro e w' ⟨rfl, rfl⟩
    rw [HN.out]
    go_wp2
    go_ret
    exact ⟨ret_b HZ.out.symm, hb0⟩
  | true =>
    have HN : Hid (nmB s = true) := hn
    cases hsh : shB sh with
    | false =>
      have HZ : Hid (znB s sh r = false) := by unfold Hid znB; rw [hsh, Bool.false_and, Bool.and_false]
      clear hn
      go_enter Try.func42, Try.ntmps42
      go_wp2_with fail
      refine (implName s _ hs).mono ?_
      rintro e w' ⟨rfl, rfl⟩
      rw [HN.out]
      go_wp2_with (go_at_call 46; refine (implIsShift _ _ false hsh).mono ?_; rintro e w' ⟨rfl, rfl⟩)
      go_ret
      exact ⟨ret_b HZ.out.symm, hb0⟩
    | true =>
      have HZ : Hid (znB s sh r = r) := by unfold Hid znB; rw [hn, hsh, Bool.true_and, Bool.true_and]
      have HR : Hid (r = true ↔ TrOk ts) := hr
      clear hn hr
      go_enter Try.func42, Try.ntmps42
      go_wp2_with fail
      refine (implName s _ hs).mono ?_
      rintro e w' ⟨rfl, rfl⟩
      rw [HN.out]
      go_wp2_with (go_at_call 46; refine (implIsShift _ _ true hsh).mono ?_; rintro e w' ⟨rfl, rfl⟩)
      refine (implTurnsOk a cap ts _ hT hl r HR.out).mono ?_
      rintro e w2 ⟨rfl, hb2⟩
      have hbw := bstep hb0 hb2
      go_wp2
      go_ret
      exact ⟨ret_b (by rw [HZ.out]), hbw⟩
end Go.Proofs.Ytlhaldhfoeiohaa
