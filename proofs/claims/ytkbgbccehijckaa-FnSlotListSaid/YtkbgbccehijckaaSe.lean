/- Edges: how two are held against each other, and how they are sorted. -/
import Derived.Test.YtkbgbccehijckaaOw
import Derived.Test.YtkbgbccehijckaaSa
import Derived.Test.YtkbgbccehijckaaSrt
import Derived.Deep.RegionHeld
namespace Go.Proofs.Ytkbgbccehijckaa
open Go.RowKit Go.Sort Go.Shelf
set_option linter.unusedVariables false
def cmI (x y : Int) : Int := if x < y then -1 else if y < x then 1 else 0
/-- Two edges, held against each other. -/
def edC (x y : Int × Int) : Int := if cmI x.1 y.1 = 0 then cmI y.2 x.2 else cmI x.1 y.1
theorem cmI_cases (x y : Int) : (x < y ∧ cmI x y = -1) ∨ (y < x ∧ cmI x y = 1) ∨ (x = y ∧ cmI x y = 0) := by
  unfold cmI
  rcases Int.lt_trichotomy x y with h | h | h
  · exact .inl ⟨h, if_pos h⟩
  · exact .inr (.inr ⟨h, by rw [if_neg (by omega), if_neg (by omega)]⟩)
  · exact .inr (.inl ⟨h, by rw [if_neg (by omega), if_pos h]⟩)
theorem edC_lt (x y : Int × Int) : ltOf edC x y = decide (x.1 < y.1 ∨ (x.1 = y.1 ∧ y.2 < x.2)) := by
  unfold ltOf edC
  rw [Bool.eq_iff_iff, decide_eq_true_iff, decide_eq_true_iff]
  rcases cmI_cases x.1 y.1 with ⟨h, e⟩ | ⟨h, e⟩ | ⟨h, e⟩
  · rw [e]; simp; omega
  · rw [e]; simp; omega
  · rw [e, if_pos rfl]
    rcases cmI_cases y.2 x.2 with ⟨k, f⟩ | ⟨k, f⟩ | ⟨k, f⟩ <;> rw [f] <;> omega
theorem edC_swo : SWO (ltOf edC) where
  irrefl x := by rw [edC_lt]; simp
  trans x y z h1 h2 := by rw [edC_lt] at *; simp at *; omega
  ntrans x y z h1 h2 := by rw [edC_lt] at *; simp at *; omega
theorem edC_total (x y : Int × Int) (h1 : ltOf edC x y = false) (h2 : ltOf edC y x = false) : x = y := by
  rw [edC_lt] at h1 h2
  simp at h1 h2
  exact Prod.ext (by omega) (by omega)
/-- Draws and new blocks. -/
def Gw (w w' : World) : Prop := ∃ q os, w' = grow (w.drewN q) os
theorem Gw.refl (w : World) : Gw w w := ⟨0, #[], by rw [grow_empty]; rfl⟩
theorem Gw.alloc {w w' : World} (h : Gw w w') (o : Obj) : Gw w (w'.alloc o) := by
  obtain ⟨q, os, rfl⟩ := h
  exact ⟨q, os ++ #[o], by rw [alloc_eq_grow, grow_grow]⟩
theorem Gw.drew {w w' : World} (h : Gw w w') : Gw w w'.drew := by
  obtain ⟨q, os, rfl⟩ := h
  exact ⟨q + 1, os, by rw [drew_grow]; rfl⟩
theorem libNaN (x : Int) (w : World) : Calls Try.prog 78 #[.int .i64 x] w fun e w' => e = .returned (.bool false) ∧ w' = w := by
  go_enter Try.func78, Try.ntmps78
  go_wp2
  go_ret
  exact ⟨rfl, rfl⟩
theorem libCompare (x y : Int) (w : World) : Calls Try.prog 67 #[.int .i64 x, .int .i64 y] w fun e w' => e = .returned (.int .i64 (cmI x y)) ∧ w' = w := by
  rcases cmI_cases x y with ⟨h, e⟩ | ⟨h, e⟩ | ⟨h, e⟩
  · have HE : Hid (cmI x y = -1) := e
    clear e
    go_enter Try.func67, Try.ntmps67
    go_wp2_with (first | (go_at_call 78; refine (libNaN _ _).mono ?_; rintro e w' ⟨rfl, rfl⟩))
    go_ret
    exact ⟨ret_i HE.out.symm, rfl⟩
  · have HE : Hid (cmI x y = 1) := e
    have h2 : ¬ x < y := by omega
    clear e
    go_enter Try.func67, Try.ntmps67
    go_wp2_with (first | (go_at_call 78; refine (libNaN _ _).mono ?_; rintro e w' ⟨rfl, rfl⟩))
    go_ret
    exact ⟨ret_i HE.out.symm, rfl⟩
  · have HE : Hid (cmI x y = 0) := e
    clear e
    subst h
    have h2 : ¬ x < x := by omega
    go_enter Try.func67, Try.ntmps67
    go_wp2_with (first | (go_at_call 78; refine (libNaN _ _).mono ?_; rintro e w' ⟨rfl, rfl⟩))
    go_ret
    exact ⟨ret_i HE.out.symm, rfl⟩
theorem libOr (b : Nat) (x y : Int) (w : World) (c0 : w.cell? ⟨b, 0, none⟩ = some (.int .i64 x)) (c1 : w.cell? ⟨b, 1, none⟩ = some (.int .i64 y)) :
    Calls Try.prog 66 #[.slice (some ⟨b, 0, none⟩) 2 2] w fun e w' => e = .returned (.int .i64 (if x = 0 then y else x)) ∧ w' = w := by
  by_cases hx : x = 0
  · subst hx
    rw [if_pos rfl]
    by_cases hy : y = 0
    · subst hy
      go_enter Try.func66, Try.ntmps66
      go_wp2
      refine wp_loop_rounds 3 ?_; rw [rounds_succ]
      go_wp2
      rw [rounds_succ]
      go_wp2
      rw [rounds_succ]
      go_wp2
      go_ret
      exact ⟨rfl, rfl⟩
    · go_enter Try.func66, Try.ntmps66
      go_wp2
      refine wp_loop_rounds 3 ?_; rw [rounds_succ]
      go_wp2
      rw [rounds_succ]
      go_wp2
      go_ret
      exact ⟨rfl, rfl⟩
  · rw [if_neg hx]
    go_enter Try.func66, Try.ntmps66
    go_wp2
    refine wp_loop_rounds 3 ?_; rw [rounds_succ]
    go_wp2
    go_ret
    exact ⟨rfl, rfl⟩
end Go.Proofs.Ytkbgbccehijckaa
