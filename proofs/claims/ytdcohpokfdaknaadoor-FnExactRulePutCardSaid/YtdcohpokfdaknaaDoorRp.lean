/- Numbers below zero too, and lists of texts joined. -/
import Derived.Test.YtdcohpokfdaknaaDoorTr
import Derived.Lib.Join
namespace Go.Proofs.YtdcohpokfdaknaaDoor
open Go.RowKit
set_option linter.unusedVariables false
/-- A number as a text. -/
def numT (n : Int) : ByteArray := ⟨(Lib.itoa n).toArray⟩
theorem numT_nat (n : Nat) : numT n = dec n := itoa_nat n
theorem numT_neg {n : Int} (h : n < 0) : numT n = dash ++ dec n.natAbs := by
  unfold numT Lib.itoa dash dec
  rw [if_pos h, app_data]
  simp
theorem numT_size {n : Int} (h0 : -1000 < n) (h1 : n < 10000) : (numT n).size ≤ 4 := by
  by_cases h : n < 0
  · rw [numT_neg h, ByteArray.size_append, dash_size]
    have := dec_3 (n := n.natAbs) (by omega)
    omega
  · obtain ⟨k, rfl⟩ : ∃ k : Nat, n = k := ⟨n.toNat, by omega⟩
    rw [numT_nat]; exact dec_4 (by omega)
theorem numT_one (n : Int) : 1 ≤ (numT n).size := by
  by_cases h : n < 0
  · rw [numT_neg h, ByteArray.size_append, dash_size]; omega
  · obtain ⟨k, rfl⟩ : ∃ k : Nat, n = k := ⟨n.toNat, by omega⟩
    rw [numT_nat]; exact dec_one k
/-- Texts with one between each two. -/
def joinT (sep : ByteArray) (l : List ByteArray) : ByteArray := ⟨(Lib.join (l.map (·.data.toList)) sep.data.toList).toArray⟩
theorem joinT_nil (sep : ByteArray) : joinT sep [] = ByteArray.empty := rfl
theorem joinT_one (sep x : ByteArray) : joinT sep [x] = x := by
  unfold joinT; rw [List.map_cons, List.map_nil, Lib.join_one]
/-- What stands behind the first. -/
def joinR (sep : ByteArray) : List ByteArray → ByteArray
  | [] => ByteArray.empty
  | x :: r => sep ++ x ++ joinR sep r
theorem joinR_data (sep : ByteArray) (r : List ByteArray) : (joinR sep r).data.toList = Lib.joinTail sep.data.toList (r.map (·.data.toList)) := by
  induction r with
  | nil => rfl
  | cons x r ih =>
    unfold joinR
    rw [app_data, app_data]
    simp [Lib.joinTail, ih] at *
theorem joinT_cons (sep x : ByteArray) (r : List ByteArray) : joinT sep (x :: r) = x ++ joinR sep r := by
  unfold joinT
  rw [List.map_cons, Lib.join_cons, ← joinR_data, app_data]
  simp
theorem joinR_app (sep : ByteArray) (r q : List ByteArray) : joinR sep (r ++ q) = joinR sep r ++ joinR sep q := by
  induction r with
  | nil => simp [joinR]
  | cons x r ih =>
    rw [List.cons_append]
    show sep ++ x ++ joinR sep (r ++ q) = sep ++ x ++ joinR sep r ++ joinR sep q
    rw [ih, ByteArray.append_assoc, ByteArray.append_assoc, ByteArray.append_assoc]
theorem joinT_snoc (sep x : ByteArray) (l : List ByteArray) (h : l ≠ []) : joinT sep (l ++ [x]) = joinT sep l ++ sep ++ x := by
  cases l with
  | nil => exact absurd rfl h
  | cons y r =>
    rw [List.cons_append, joinT_cons, joinT_cons, joinR_app]
    simp [joinR, ByteArray.append_assoc]
set_option maxHeartbeats 4000000 in
theorem specDecN (n : Int) (w : World) (h0 : -10000 < n) (h1 : n < 10000) : Calls Tryd.prog 30 #[.int .i64 n] w fun e w' => e = .returned (.string (numT n)) ∧ Below w.heap.size w w' := by
  by_cases h : n < 0
  · obtain ⟨k, rfl⟩ : ∃ k : Nat, n = -(k : Int) := ⟨n.natAbs, by omega⟩
    have HN : Hid (numT (-(k : Int)) = dash ++ dec k) := by unfold Hid; rw [numT_neg h]; congr 2; omega
    have z := dec_4 (n := k) (by omega)
    have k0 : -(k : Int) < 0 := h
    go_enter Tryd.func30, Tryd.ntmps30
    go_wp2_with fail
    with_reducible refine (specDec k (by omega) _).mono ?_
    rintro e w1 ⟨rfl, b1⟩
    have ds := dash_size
    go_wp2
    go_ret
    exact ⟨by rw [HN.out]; rfl, b1⟩
  · obtain ⟨k, rfl⟩ : ∃ k : Nat, n = k := ⟨n.toNat, by omega⟩
    rw [numT_nat]
    exact specDec k (by omega) w
theorem implItoaN (n : Int) (w : World) (h0 : -10000 < n) (h1 : n < 10000) (hP : Pow w) : Calls Tryd.prog 18 #[.int .i64 n] w fun e w' => e = .returned (.string (numT n)) ∧ Below w.heap.size w w' :=
  (Any.strconv_Itoa laysM171 n (by omega) (by omega) w hP).mono fun e w' ⟨he, k, os, hw⟩ => ⟨by rw [he]; rfl, by rw [hw]; exact Lib.below_grow _ w (Nat.le_refl _) k os⟩
end Go.Proofs.YtdcohpokfdaknaaDoor
