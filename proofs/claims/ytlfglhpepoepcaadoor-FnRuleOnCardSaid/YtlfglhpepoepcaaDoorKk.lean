/- Days of the week with numbers: what the program's closures say of a day. -/
import Derived.Test.YtlfglhpepoepcaaDoorKj
namespace Go.Proofs.YtlfglhpepoepcaaDoor
open Go.RowKit Go.Shelf
set_option linter.unusedVariables false

def pastB (b : Bool) (n : Int) : Int := if b = true then dOf n - 1 else n - fst (yOf n)
def leftB (b : Bool) (n : Int) : Int := if b = true then dim (yOf n) (mOf n) - dOf n else fst (yOf n + 1) - n - 1
theorem date_bd {n : Int} (h0 : 0 ≤ n) (h1 : n ≤ 3652058) : 1 ≤ yOf n ∧ yOf n ≤ 9999 ∧ 1 ≤ mOf n ∧ mOf n ≤ 12 ∧ 1 ≤ dOf n ∧ dOf n ≤ dim (yOf n) (mOf n) ∧ fst (yOf n) ≤ n ∧ n < fst (yOf n + 1) ∧ n - dOf n + 1 = num (yOf n) (mOf n) 1 := by
  have hd := date_ex h0 h1
  obtain ⟨a0, a1, a2, a3, a4, a5⟩ := (okD_iff _ _ _).1 hd.1
  have hy := num_year hd.1
  rw [hd.2] at hy
  refine ⟨a0, a1, a2, a3, a4, a5, hy.1, hy.2, ?_⟩
  have := hd.2
  unfold num at *
  omega
theorem left_bd (b : Bool) {n : Int} (h0 : 0 ≤ n) (h1 : n ≤ 3652058) : 0 ≤ pastB b n ∧ pastB b n ≤ 366 ∧ 0 ≤ leftB b n ∧ leftB b n ≤ 366 := by
  obtain ⟨a0, a1, a2, a3, a4, a5, a6, a7, _⟩ := date_bd h0 h1
  have es := fst_succ (yOf n) a0
  have l := lp_01 (yOf n)
  have db := dim_bd (yOf n) (mOf n)
  unfold pastB leftB
  cases b <;> simp <;> omega
set_option maxHeartbeats 2000000 in
theorem implNums (n : Int) (b : Bool) (w : World) (ht : Tab w) (h0 : 0 ≤ n) (h1 : n ≤ 3652058) :
    Calls Tryd.prog 90 #[dated n, .bool b] w fun e w' => e = .returned (.tuple #[.int .i64 (pastB b n / 7 + 1), .int .i64 (-(leftB b n / 7 + 1))]) ∧ Below w.heap.size w w' := by
  unfold dated
  have hb0 : ∀ q, Below w.heap.size w ((w.alloc (.cells (dcells n) 81)).drewN q) := fun q => Below.drewN' ((Below.refl _ w).alloc (Nat.le_refl _) _) q
  have HT : Hid (∀ q, Tab ((w.alloc (.cells (dcells n) 81)).drewN q)) := fun q => ht.on (hb0 q)
  have HB : Hid (∀ q, Below w.heap.size w ((w.alloc (.cells (dcells n) 81)).drewN q)) := hb0
  obtain ⟨a0, a1, a2, a3, a4, a5, a6, a7, _⟩ := date_bd h0 h1
  have es := fst_succ (yOf n) a0
  have l := lp_01 (yOf n)
  have db := dim_bd (yOf n) (mOf n)
  have fb := fst_bd2 (yOf n) a0 (by omega)
  have k1 := IntWalk.i64_in (n - fst (yOf n)) (by omega)
  have k2 := IntWalk.i64_in (fst (yOf n + 1) - n) (by omega)
  have k3 := IntWalk.i64_in (fst (yOf n + 1) - n - 1) (by omega)
  have k4 := IntWalk.i64_in (yOf n + 1) (by omega)
  have es1 : fst (yOf n + 1) ≤ fst (yOf n) + 366 := by omega
  clear ht hb0 es l
  cases b with
  | false =>
    go_enter Tryd.func90, Tryd.ntmps90
    go_wp2
    go_quiet (fail)
    obtain ⟨W2, hW2⟩ : ∃ W2, W2 = (w.alloc (.cells (dcells n) 81)).drewN nq := ⟨_, rfl⟩
    have HT2 : Hid (Tab W2) := by unfold Hid; rw [hW2]; exact HT.out nq
    have HB2 : Hid (Below w.heap.size w W2) := by unfold Hid; rw [hW2]; exact HB.out nq
    have c0 : W2.cell? ⟨w.heap.size, 0, none⟩ = some (.int .i64 n) := by rw [hW2]; exact ((CF.new w (dcells n) 81).2 0 _ rfl).1
    rw [← hW2]
    clear hW2
    go_wp2
    go_quiet ((go_at_call 63; exact Calls.quiet_of_same (implStart _ _ (by omega) (by omega))))
    clear k1 k2 k3 k4
    go_wp2
    exact bodyPost_ret (v := .tuple #[.int .i64 (pastB false n / 7 + 1), .int .i64 (-(leftB false n / 7 + 1))]) (by simp [results, Tryd.results90, go_sem, pastB, leftB]) rfl ⟨rfl, Below.drewN' HB2.out _⟩
  | true =>
    go_enter Tryd.func90, Tryd.ntmps90
    go_wp2
    go_quiet (fail)
    obtain ⟨W2, hW2⟩ : ∃ W2, W2 = (w.alloc (.cells (dcells n) 81)).drewN nq := ⟨_, rfl⟩
    have HT2 : Hid (Tab W2) := by unfold Hid; rw [hW2]; exact HT.out nq
    have HB2 : Hid (Below w.heap.size w W2) := by unfold Hid; rw [hW2]; exact HB.out nq
    have c0 : W2.cell? ⟨w.heap.size, 0, none⟩ = some (.int .i64 n) := by rw [hW2]; exact ((CF.new w (dcells n) 81).2 0 _ rfl).1
    rw [← hW2]
    clear hW2
    go_wp2
    go_quiet ((go_at_call 63; exact Calls.quiet_of_same (implStart _ _ (by omega) (by omega))))
    clear k1 k2 k3 k4
    go_wp2_with (go_at_call 49; refine (implSize _ _ _ (HT2.out.on (Below.drewN' (Below.refl _ _) _)) (by omega) (by omega) (by omega) (by omega)).mono ?_; rintro e w' ⟨rfl, rfl⟩)
    exact bodyPost_ret (v := .tuple #[.int .i64 (pastB true n / 7 + 1), .int .i64 (-(leftB true n / 7 + 1))]) (by simp [results, Tryd.results90, go_sem, pastB, leftB]) rfl ⟨rfl, Below.drewN' HB2.out _⟩
/-- Where the closure over one day of the week finds what it wants. -/
structure Dy (w : World) (D P5 P6 : Nat) (n fs fe : Int) : Prop where
  d : w.cell? ⟨D, 0, none⟩ = some (.int .i64 n)
  a : w.cell? ⟨P5, 0, none⟩ = some (.int .i64 fs)
  b : w.cell? ⟨P6, 0, none⟩ = some (.int .i64 fe)
theorem Dy.on {w w' : World} {D P5 P6 : Nat} {n fs fe : Int} (h : Dy w D P5 P6 n fs fe) (hb : Below w.heap.size w w') : Dy w' D P5 P6 n fs fe :=
  ⟨by rw [hb.cell (p := ⟨D, 0, none⟩) (cell_lt h.d)]; exact h.d, by rw [hb.cell (p := ⟨P5, 0, none⟩) (cell_lt h.a)]; exact h.a, by rw [hb.cell (p := ⟨P6, 0, none⟩) (cell_lt h.b)]; exact h.b⟩
def byC (n fs fe x y : Int) : Bool := decide (y = n % 7 ∧ (x = 0 ∨ x = fs ∨ x = fe))
set_option maxHeartbeats 4000000 in
theorem clBy (x y n fs fe : Int) (D P5 P6 : Nat) (w : World) (h : Dy w D P5 P6 n fs fe) (h0 : 0 ≤ n) (h1 : n ≤ 3652058) :
    Calls Tryd.prog 92 #[.agg #[.int .i64 x, .int .i64 y], .pointer (some ⟨D, 0, none⟩), .pointer (some ⟨P5, 0, none⟩), .pointer (some ⟨P6, 0, none⟩)] w fun e w' => e = .returned (.bool (byC n fs fe x y)) ∧ Below w.heap.size w w' := by
  obtain ⟨d0, d1, d2⟩ := h
  have l0 := cell_lt d0
  have l1 := cell_lt d1
  have l2 := cell_lt d2
  have HB : Hid (∀ q x y, Below w.heap.size w ((w.alloc (.cells #[.int .i64 x, .int .i64 y] 38)).drewN q)) := fun q x y => Below.drewN' ((Below.refl _ w).alloc (Nat.le_refl _) _) q
  by_cases e1 : y = n % 7
  · subst e1
    by_cases e2 : x = 0
    · subst e2
      have HV : Hid (byC n fs fe 0 (n % 7) = true) := by unfold Hid byC; simp
      go_enter Tryd.func92, Tryd.ntmps92
      go_wp2
      go_quiet ((go_at_call 47; exact Calls.quiet_of_same (implWd _ _ (by omega) (by omega))))
      go_wp2
      go_ret
      exact ⟨ret_b HV.out.symm, HB.out _ _ _⟩
    · have HV : Hid (byC n fs fe x (n % 7) = (x == 0 || x == fs || x == fe)) := by unfold Hid byC; rw [Bool.eq_iff_iff]; simp [or_assoc]
      by_cases e3 : x = fs
      · subst e3
        go_enter Tryd.func92, Tryd.ntmps92
        go_wp2
        go_quiet ((go_at_call 47; exact Calls.quiet_of_same (implWd _ _ (by omega) (by omega))))
        go_wp2
        go_ret
        exact ⟨ret_b (by rw [HV.out]; simp), HB.out _ _ _⟩
      · go_enter Tryd.func92, Tryd.ntmps92
        go_wp2
        go_quiet ((go_at_call 47; exact Calls.quiet_of_same (implWd _ _ (by omega) (by omega))))
        go_wp2
        go_ret
        exact ⟨ret_b HV.out.symm, HB.out _ _ _⟩
  · have HV : Hid (byC n fs fe x y = false) := by unfold Hid byC; simp [e1]
    go_enter Tryd.func92, Tryd.ntmps92
    go_wp2
    go_quiet ((go_at_call 47; exact Calls.quiet_of_same (implWd _ _ (by omega) (by omega))))
    go_wp2
    go_ret
    exact ⟨ret_b HV.out.symm, HB.out _ _ _⟩
end Go.Proofs.YtlfglhpepoepcaaDoor
