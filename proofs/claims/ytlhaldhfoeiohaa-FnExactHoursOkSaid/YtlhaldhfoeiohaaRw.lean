/- Rules of the program: days of the week, and the whole. -/
import Derived.Test.YtlhaldhfoeiohaaRv
import Derived.Test.YtlhaldhfoeiohaaCls
namespace Go.Proofs.Ytlhaldhfoeiohaa
open Go.RowKit
set_option linter.unusedVariables false
theorem dst_bad1 {l : List (Int × Int)} {m : Int} {i : Nat} (h : inB (tSh l i) 0 6 = false) : dstB l m i = false := by unfold dstB; rw [h, Bool.false_and]
theorem dst_bad2 {l : List (Int × Int)} {m : Int} {i : Nat} (h : ¬ (-m ≤ tAt l i ∧ tAt l i ≤ m)) : dstB l m i = false := by unfold dstB; rw [(in_not _ _ _).2 h, Bool.false_and, Bool.and_false]
theorem dst_bad3 {l : List (Int × Int)} {m : Int} {j : Nat} (h : ahB (tAt l j) (tSh l j) (tAt l (j + 1)) (tSh l (j + 1)) = false) : dstB l m (j + 1) = false := by
  unfold dstB
  rw [decide_eq_false (by simp only [Nat.add_sub_cancel, h]; simp), Bool.and_false, Bool.and_false]
theorem dst_yes {l : List (Int × Int)} {m : Int} {j : Nat} (h0 : inB (tSh l (j + 1)) 0 6 = true) (h1 : -m ≤ tAt l (j + 1) ∧ tAt l (j + 1) ≤ m) (h : ahB (tAt l j) (tSh l j) (tAt l (j + 1)) (tSh l (j + 1)) = true) : dstB l m (j + 1) = true := by
  unfold dstB
  rw [h0, (in_iff _ _ _).2 h1, decide_eq_true (by simp only [Nat.add_sub_cancel, h]; simp)]; rfl
theorem dst_yes0 {l : List (Int × Int)} {m : Int} (h0 : inB (tSh l 0) 0 6 = true) (h1 : -m ≤ tAt l 0 ∧ tAt l 0 ≤ m) : dstB l m 0 = true := by
  unfold dstB
  rw [h0, (in_iff _ _ _).2 h1, decide_eq_true (fun h => absurd h (by omega))]; rfl
end Go.Proofs.Ytlhaldhfoeiohaa
