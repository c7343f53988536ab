/- What is free, and the first slot: both sides, whole. -/
import Derived.Test.YtddjbcggdmeidaaSn
namespace Go.Proofs.Ytddjbcggdmeidaa
open Go.RowKit
set_option linter.unusedVariables false
theorem frA_yes {r : Bool} {ss : List (Int × Int)} {x y : Int} (h : frB r x y = true) : frA r ss x y = freeS ss x y := by unfold frA; rw [if_pos h]
theorem frA_no {r : Bool} {ss : List (Int × Int)} {x y : Int} (h : frB r x y = false) : frA r ss x y = [] := by unfold frA; rw [if_neg (by rw [h]; exact Bool.false_ne_true)]
theorem frB_iff {r : Bool} {x y : Int} : frB r x y = true ↔ r = true ∧ tiB x = true ∧ tiB y = true ∧ x ≤ y := by
  unfold frB
  rw [Bool.and_eq_true, Bool.and_eq_true, Bool.and_eq_true, decide_eq_true_iff]
/-- The first that is long enough. -/
def slR (l : List (Int × Int)) (n : Int) : Int := match l.find? (fun s => decide (n ≤ s.2 - s.1)) with | some s => s.1 | none => -1
theorem slR_at (l : List (Int × Int)) (n : Int) (k : Nat) (hk : k < l.length) (h : ∀ j, j < k → ¬ n ≤ tSh l j - tAt l j) (hy : n ≤ tSh l k - tAt l k) : slR l n = tAt l k := by
  have e : l.find? (fun s => decide (n ≤ s.2 - s.1)) = some l[k] := by
    rw [List.find?_eq_some_iff_getElem]
    refine ⟨by rw [← tAt_get l k hk]; exact decide_eq_true hy, k, hk, rfl, fun j hj => ?_⟩
    rw [← tAt_get l j (by omega)]
    simp only [Bool.not_eq_true', decide_eq_false_iff_not]
    exact h j hj
  unfold slR
  rw [e]
  simp only
  rw [← tAt_get l k hk]
theorem slR_none (l : List (Int × Int)) (n : Int) (h : ∀ j, j < l.length → ¬ n ≤ tSh l j - tAt l j) : slR l n = -1 := by
  have e : l.find? (fun s => decide (n ≤ s.2 - s.1)) = none := by
    rw [List.find?_eq_none]
    intro s hs
    obtain ⟨j, hj, rfl⟩ := List.getElem_of_mem hs
    rw [← tAt_get l j hj]
    simp only [decide_eq_true_iff]
    exact h j hj
  unfold slR
  rw [e]
theorem cutS_bd (a b : Int) (l : List (Int × Int)) : ∀ s ∈ cutS a b l, a ≤ s.1 ∧ s.1 < s.2 ∧ s.2 ≤ b := by
  intro s hs
  unfold cutS at hs
  obtain ⟨v, hv, e⟩ := List.mem_filterMap.1 hs
  by_cases hc : (if v.1 < a then a else v.1) < (if b < v.2 then b else v.2)
  · rw [if_pos hc, Option.some.injEq] at e
    subst e
    refine ⟨?_, hc, ?_⟩
    · simp only; split <;> omega
    · simp only; split <;> omega
  · rw [if_neg hc] at e; cases e
theorem frA_bd (r : Bool) (ss : List (Int × Int)) (x y : Int) : ∀ j, j < (frA r ss x y).length → (0 ≤ tAt (frA r ss x y) j ∧ tAt (frA r ss x y) j < tSh (frA r ss x y) j ∧ tSh (frA r ss x y) j ≤ 5258964959) := by
  intro j hj
  cases hf : frB r x y with
  | false => rw [frA_no hf] at hj; simp at hj
  | true =>
    rw [frA_yes hf] at hj ⊢
    obtain ⟨_, hx, hy, _⟩ := frB_iff.1 hf
    have hx := (ti_iff _).1 hx
    have hy := (ti_iff _).1 hy
    have := cutS_bd x y _ _ (List.getElem_mem hj)
    rw [← tAt_get (freeS ss x y) j hj] at this
    simp only at this
    omega
theorem frA_len (r : Bool) (ss : List (Int × Int)) (x y : Int) : (frA r ss x y).length ≤ ss.length + 1 := by
  cases hf : frB r x y with
  | false => rw [frA_no hf]; simp
  | true =>
    rw [frA_yes hf]
    unfold freeS
    rw [← gpE_all]
    have h := gpE_len ss x ss.length (Nat.le_refl _)
    unfold cutS
    refine Nat.le_trans (List.length_filterMap_le _ _) ?_
    rw [List.length_append]
    split
    · simp only [List.length_cons, List.length_nil]; omega
    · simp only [List.length_nil]; omega
def slA (r : Bool) (ss : List (Int × Int)) (x y n : Int) : Int := if inB n 1 20160 = true then slR (frA r ss x y) n else -1
end Go.Proofs.Ytddjbcggdmeidaa
