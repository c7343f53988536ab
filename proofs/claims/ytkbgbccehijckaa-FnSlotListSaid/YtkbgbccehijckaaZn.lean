/- Zones: turns as they lie in memory, and when they are ok. -/
import Derived.Test.YtkbgbccehijckaaNm
namespace Go.Proofs.Ytkbgbccehijckaa
open Go.RowKit
set_option linter.unusedVariables false

def tiB (n : Int) : Bool := decide (0 ≤ n ∧ n ≤ 5258964959)
def shB (n : Int) : Bool := decide (-1440 ≤ n ∧ n ≤ 1440)
theorem ti_iff (n : Int) : tiB n = true ↔ 0 ≤ n ∧ n ≤ 5258964959 := by unfold tiB; exact decide_eq_true_iff
theorem ti_not (n : Int) : tiB n = false ↔ ¬ (0 ≤ n ∧ n ≤ 5258964959) := by unfold tiB; exact decide_eq_false_iff_not
theorem sh_iff (n : Int) : shB n = true ↔ -1440 ≤ n ∧ n ≤ 1440 := by unfold shB; exact decide_eq_true_iff
theorem sh_not (n : Int) : shB n = false ↔ ¬ (-1440 ≤ n ∧ n ≤ 1440) := by unfold shB; exact decide_eq_false_iff_not
abbrev tAt (ts : List (Int × Int)) (i : Nat) : Int := (ts.getD i (0, 0)).1
abbrev tSh (ts : List (Int × Int)) (i : Nat) : Int := (ts.getD i (0, 0)).2
def stepOk (ts : List (Int × Int)) (i : Nat) : Prop := (0 ≤ tAt ts i ∧ tAt ts i ≤ 5258964959) ∧ (-1440 ≤ tSh ts i ∧ tSh ts i ≤ 1440) ∧ (0 < i → tAt ts (i - 1) + 10080 ≤ tAt ts i)
def TrOk (ts : List (Int × Int)) : Prop := ts.length ≤ 8 ∧ ∀ i, i < ts.length → stepOk ts i
/-- Turns in memory. -/
def IsTurns (w : World) (a : Option Addr) (ts : List (Int × Int)) : Prop := ts = [] ∨ ∃ b off, a = some ⟨b, off, none⟩ ∧ b < w.heap.size ∧ ∀ i, i < ts.length → w.cell? ⟨b, off + i * 2, none⟩ = some (.int .i64 (tAt ts i)) ∧ w.cell? ⟨b, off + i * 2 + 1, none⟩ = some (.int .i64 (tSh ts i))
theorem IsTurns.below {w w' : World} {a : Option Addr} {ts : List (Int × Int)} (h : IsTurns w a ts) {B : Nat} (hb : Below w.heap.size w w') : IsTurns w' a ts := by
  rcases h with h | ⟨b, off, h1, h2, h3⟩
  · exact .inl h
  · refine .inr ⟨b, off, h1, Nat.lt_of_lt_of_le h2 hb.size, fun i hi => ?_⟩
    rw [hb.cell (p := ⟨b, off + i * 2, none⟩) h2, hb.cell (p := ⟨b, off + i * 2 + 1, none⟩) h2]; exact h3 i hi
theorem implTime (n : Int) (w : World) (r : Bool) (hr : tiB n = r) : Calls Try.prog 41 #[.int .i64 n] w fun e w' => e = .returned (.bool r) ∧ w' = w := by
  subst hr
  by_cases h0 : 0 ≤ n
  · go_enter Try.func41, Try.ntmps41
    go_wp2
    go_ret
    exact ⟨ret_b (by unfold tiB; simp [h0]), rfl⟩
  · go_enter Try.func41, Try.ntmps41
    go_wp2
    go_ret
    exact ⟨ret_b (by unfold tiB; simp; omega), rfl⟩
theorem specTime (n : Int) (w : World) (r : Bool) (hr : tiB n = r) : Calls Try.prog 38 #[.int .i64 n] w fun e w' => e = .returned (.bool r) ∧ w' = w := by
  subst hr
  go_enter Try.func38, Try.ntmps38
  go_wp2_with (go_at_call 46; refine (specIn _ _ _ _).mono ?_; rintro e w' ⟨rfl, rfl⟩)
  go_ret
  exact ⟨rfl, rfl⟩
/-- A zone is ok. -/
def znB (s : ByteArray) (sh : Int) (r : Bool) : Bool := nmB s && (shB sh && r)
end Go.Proofs.Ytkbgbccehijckaa
