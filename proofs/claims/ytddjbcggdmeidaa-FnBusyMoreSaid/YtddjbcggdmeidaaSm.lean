/- What is free: the specification's own loops. -/
import Derived.Test.YtddjbcggdmeidaaSl
import Derived.Test.YtddjbcggdmeidaaSb
namespace Go.Proofs.Ytddjbcggdmeidaa
open Go.RowKit
set_option linter.unusedVariables false
theorem OP.snoc {w : World} {B g cap n : Nat} {T : TypeId} {ts : List (Int × Int)} {x y : Int} (h : w.ownsRow B T 2 (.slice (some ⟨g, 0, none⟩) (n + 1) cap) (n + 1) (pcs ts ++ [.int .i64 x, .int .i64 y])) (hn : n = ts.length) : OP w B T (.slice (some ⟨g, 0, none⟩) (n + 1) cap) (ts ++ [(x, y)]) := by
  unfold OP
  rw [pcs_snoc, List.length_append, ← hn]
  exact h
theorem grown_own {w W w4 : World} {B n : Nat} {T : TypeId} {v : Value} {xs : List Value} {o : Obj} (h : W.ownsRow B T 2 v n xs) (b : Below B w W ∧ B ≤ W.heap.size) (hgrow : (W.alloc o).grownBy w4 v.ownBlock) : Below B w w4 :=
  (b.1.alloc b.2 o).grown hgrow (by simp; have := b.2; omega) (fun k hk => (World.ownsRow.lt h k hk).1)
def cutV (a b : Int) (s : Int × Int) : Int × Int := ((if s.1 < a then a else s.1), (if b < s.2 then b else s.2))
theorem cut_yes (a b : Int) (ss : List (Int × Int)) (k : Nat) (h : k < ss.length) (x y : Int) (hx : (if tAt ss k < a then a else tAt ss k) = x) (hy : (if b < tSh ss k then b else tSh ss k) = y) (hxy : x < y) : cutS a b (ss.take (k + 1)) = cutS a b (ss.take k) ++ [(x, y)] := by
  rw [List.take_add_one, cutS_append]
  congr 1
  simp only [List.getElem?_eq_getElem h, Option.toList_some]
  rw [cutS_cons, ← tAt_get ss k h]
  simp only [hx, hy]
  rw [if_pos hxy]; rfl
theorem cut_no (a b : Int) (ss : List (Int × Int)) (k : Nat) (h : k < ss.length) (x y : Int) (hx : (if tAt ss k < a then a else tAt ss k) = x) (hy : (if b < tSh ss k then b else tSh ss k) = y) (hxy : ¬ x < y) : cutS a b (ss.take (k + 1)) = cutS a b (ss.take k) := by
  rw [List.take_add_one, cutS_append]
  simp only [List.getElem?_eq_getElem h, Option.toList_some]
  rw [cutS_cons, ← tAt_get ss k h]
  simp only [hx, hy]
  rw [if_neg hxy]; simp [cutS]
theorem cut_len (a b : Int) (ss : List (Int × Int)) (k : Nat) : (cutS a b (ss.take k)).length ≤ ss.length := by
  unfold cutS
  exact Nat.le_trans (List.length_filterMap_le _ _) (by simp; omega)
end Go.Proofs.Ytddjbcggdmeidaa
