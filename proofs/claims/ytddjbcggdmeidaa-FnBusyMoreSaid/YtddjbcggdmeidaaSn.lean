/- What is free: the specification's. -/
import Derived.Test.YtddjbcggdmeidaaSm
namespace Go.Proofs.Ytddjbcggdmeidaa
open Go.RowKit
set_option linter.unusedVariables false
def gpE (ss : List (Int × Int)) (a : Int) (k : Nat) : List (Int × Int) × Int := (ss.take k).foldl gapS ([], a)
theorem gpE_succ (ss : List (Int × Int)) (a : Int) (k : Nat) (h : k < ss.length) : gpE ss a (k + 1) = gapS (gpE ss a k) (tAt ss k, tSh ss k) := by
  unfold gpE
  rw [List.take_add_one, List.foldl_append, tAt_get ss k h]
  simp [h]
theorem gpE_len (ss : List (Int × Int)) (a : Int) : ∀ k, k ≤ ss.length → (gpE ss a k).1.length ≤ k := by
  intro k
  induction k with
  | zero => intro _; simp [gpE]
  | succ k ih =>
    intro hk
    have := ih (by omega)
    rw [gpE_succ ss a k (by omega)]
    unfold gapS
    simp only
    split
    · rw [List.length_append]; simp only [List.length_cons, List.length_nil]; omega
    · omega
theorem gpE_all (ss : List (Int × Int)) (a : Int) : gpE ss a ss.length = ss.foldl gapS ([], a) := by unfold gpE; rw [List.take_length]
end Go.Proofs.Ytddjbcggdmeidaa
