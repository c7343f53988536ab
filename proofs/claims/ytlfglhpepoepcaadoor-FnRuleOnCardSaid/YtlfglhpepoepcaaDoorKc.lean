/- Small functions of rules: numbers that are among others, days of the week, dates. -/
import Derived.Test.YtlfglhpepoepcaaDoorImC
import Derived.Test.YtlfglhpepoepcaaDoorOi
import Derived.Test.YtlfglhpepoepcaaDoorKb
import Derived.Test.YtlfglhpepoepcaaDoorCls
namespace Go.Proofs.YtlfglhpepoepcaaDoor
open Go.RowKit
set_option linter.unusedVariables false

theorem has_no {l : List Int} {x : Int} (h : ∀ j, j < l.length → gi l j ≠ x) : hasI l x = false := by
  unfold hasI
  rw [decide_eq_false_iff_not]
  intro hm
  obtain ⟨i, hi, e⟩ := gi_ex hm
  exact h i hi e
theorem has_yes {l : List Int} {x : Int} {i : Nat} (h : i < l.length) (e : gi l i = x) : hasI l x = true := by
  unfold hasI
  rw [decide_eq_true_iff, ← e]; exact gi_mem h
theorem has_nil (x : Int) : hasI [] x = false := by simp [hasI]
set_option maxHeartbeats 2000000 in
theorem implIdx (a : Option Addr) (cap : Nat) (l : List Int) (x : Int) (w : World) (h : IsInts w a l) (hl : l.length ≤ 4000000) :
    Calls Tryd.prog 88 #[.slice a l.length cap, .int .i64 x] w fun e w' => (∃ i : Int, e = .returned (.int .i64 i) ∧ decide (0 ≤ i) = hasI l x) ∧ w' = w := by
  have H1 : Hid (IsInts w a l) := h
  clear h
  go_enter Tryd.func88, Tryd.ntmps88
  go_wp2
  go_loopw [8] (fun i wr => ∃ k : Nat, k ≤ l.length ∧ i = .int .i64 k ∧ wr = w ∧ ∀ j, j < k → gi l j ≠ x) (fun i _ => l.length - (intOf i).toNat)
  case atStart => exact ⟨0, by omega, rfl, rfl, fun j hj => by omega⟩
  case round =>
    obtain ⟨k, hk, rfl, rfl, hno⟩ := hrel
    have HN : Hid (∀ j, j < k → gi l j ≠ x) := hno
    clear hno
    by_cases hlt : k < l.length
    · have G1 := H1.out
      rcases G1 with G1 | ⟨b, o, rfl, hbs, hc⟩
      · rw [G1] at hlt; simp at hlt
      have c0 : wr.cell? ⟨b, o + k, none⟩ = some (.int .i64 (gi l k)) := hc k hlt
      clear hc
      have hi1 : (k : Int) < (l.length : Int) := by omega
      have hi0 : (0 : Int) ≤ (k : Int) := by omega
      by_cases he : x = gi l k
      · go_wp2
        go_ret
        exact ⟨⟨(k : Int), rfl, by rw [has_yes hlt he.symm]; exact decide_eq_true hi0⟩, rfl⟩
      · go_wp2
        go_roundw
        case rel => exact ⟨k + 1, by omega, by go_num, by trivial, fun j hj => by
          rcases Nat.lt_or_ge j k with h' | h'
          · exact HN.out j h'
          · have : j = k := by omega
            subst this; exact fun h' => he h'.symm⟩
        case measure => simp [intOf]; omega
    · have : k = l.length := by omega
      subst this
      go_wp2
      go_ret
      exact ⟨⟨-1, rfl, by rw [has_no HN.out]; rfl⟩, rfl⟩
theorem implHas (a : Option Addr) (cap : Nat) (l : List Int) (x : Int) (w : World) (h : IsInts w a l) (hl : l.length ≤ 4000000) (r : Bool) (hr : hasI l x = r) :
    Calls Tryd.prog 70 #[.slice a l.length cap, .int .i64 x] w fun e w' => e = .returned (.bool r) ∧ w' = w := by
  subst hr
  have H1 : Hid (IsInts w a l) := h
  clear h
  go_enter Tryd.func70, Tryd.ntmps70
  go_wp2_with (go_at_call 88; with_reducible refine (implIdx _ _ _ _ _ H1.out hl).mono ?_; rintro e w' ⟨⟨i, rfl, hi⟩, rfl⟩)
  go_ret
  exact ⟨ret_b (by first | exact hi | rfl), rfl⟩
set_option maxHeartbeats 2000000 in
theorem specHas (a : Option Addr) (cap : Nat) (l : List Int) (x : Int) (w : World) (h : IsInts w a l) (hl : l.length ≤ 4000000) (r : Bool) (hr : hasI l x = r) :
    Calls Tryd.prog 43 #[.slice a l.length cap, .int .i64 x] w fun e w' => e = .returned (.bool r) ∧ w' = w := by
  subst hr
  have H1 : Hid (IsInts w a l) := h
  clear h
  go_enter Tryd.func43, Tryd.ntmps43
  go_wp2
  go_loopw [5] (fun i wr => ∃ k : Nat, k ≤ l.length ∧ i = .int .i64 k ∧ wr = w ∧ ∀ j, j < k → gi l j ≠ x) (fun i _ => l.length - (intOf i).toNat)
  case atStart => exact ⟨0, by omega, rfl, rfl, fun j hj => by omega⟩
  case round =>
    obtain ⟨k, hk, rfl, rfl, hno⟩ := hrel
    have HN : Hid (∀ j, j < k → gi l j ≠ x) := hno
    clear hno
    by_cases hlt : k < l.length
    · have G1 := H1.out
      rcases G1 with G1 | ⟨b, o, rfl, hbs, hc⟩
      · rw [G1] at hlt; simp at hlt
      have c0 : wr.cell? ⟨b, o + k, none⟩ = some (.int .i64 (gi l k)) := hc k hlt
      clear hc
      have hi1 : (k : Int) < (l.length : Int) := by omega
      have hi0 : (0 : Int) ≤ (k : Int) := by omega
      by_cases he : gi l k = x
      · go_wp2
        go_ret
        exact ⟨ret_b (has_yes hlt he).symm, rfl⟩
      · go_wp2
        go_roundw
        case rel => exact ⟨k + 1, by omega, by go_num, by trivial, fun j hj => by
          rcases Nat.lt_or_ge j k with h' | h'
          · exact HN.out j h'
          · have : j = k := by omega
            subst this; exact he⟩
        case measure => simp [intOf]; omega
    · have : k = l.length := by omega
      subst this
      go_wp2
      go_ret
      exact ⟨ret_b (has_no HN.out).symm, rfl⟩
end Go.Proofs.YtlfglhpepoepcaaDoor
