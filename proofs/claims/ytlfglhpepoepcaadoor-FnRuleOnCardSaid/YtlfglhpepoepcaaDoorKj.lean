/- What chooses days: each closure of the program, what it says. -/
import Derived.Test.YtlfglhpepoepcaaDoorKf
namespace Go.Proofs.YtlfglhpepoepcaaDoor
open Go.RowKit Go.Shelf
set_option linter.unusedVariables false

/-- A day and its date, in a block of its own. -/
abbrev dcells (n : Int) : Array Value := #[.int .i64 n, .int .i64 (yOf n), .int .i64 (mOf n), .int .i64 (dOf n)]
set_option maxHeartbeats 1000000 in
theorem clMonths (r : Rl) (m : Rm) (Br : Nat) (n : Int) (w : World) (hb : CB w Br r m) (hi : IsInts w m.a2 r.mo) (hl : r.mo.length ≤ 8) :
    Calls Tryd.prog 69 #[dated n, .pointer (some ⟨Br, 0, none⟩)] w fun e w' => e = .returned (.bool (hasI r.mo (mOf n))) ∧ Below w.heap.size w w' := by
  unfold dated
  have hbl := hb.lt
  have b6 := hb.2.2.2.2.2.2.1
  have HI : Hid (IsInts (w.alloc (.cells (dcells n) 81)) m.a2 r.mo) := hi.below ((Below.refl _ w).alloc (Nat.le_refl _) _)
  clear hb hi
  go_enter Tryd.func69, Tryd.ntmps69
  go_wp2_with (go_at_call 70; refine (implHas _ _ _ _ _ HI.out (by omega) _ rfl).mono ?_; rintro e w' ⟨rfl, rfl⟩)
  go_ret
  exact ⟨rfl, (Below.refl _ w).alloc (Nat.le_refl _) _⟩
set_option maxHeartbeats 2000000 in
theorem clDates (r : Rl) (m : Rm) (Br : Nat) (n : Int) (w : World) (ht : Tab w) (hb : CB w Br r m) (hi : IsInts w m.a1 r.da) (hl : r.da.length ≤ 8) (h0 : 0 ≤ n) (h1 : n ≤ 3652058) :
    Calls Tryd.prog 71 #[dated n, .pointer (some ⟨Br, 0, none⟩)] w fun e w' => e = .returned (.bool (dtB r n)) ∧ Below w.heap.size w w' := by
  unfold dated
  have hbl := hb.lt
  have b5 := hb.2.2.2.2.2.1
  have hb0 : ∀ q, Below w.heap.size w ((w.alloc (.cells (dcells n) 81)).drewN q) := fun q => Below.drewN' ((Below.refl _ w).alloc (Nat.le_refl _) _) q
  have HI : Hid (∀ q, IsInts ((w.alloc (.cells (dcells n) 81)).drewN q) m.a1 r.da) := fun q => hi.below (hb0 q)
  have HT : Hid (∀ q, Tab ((w.alloc (.cells (dcells n) 81)).drewN q)) := fun q => ht.on (hb0 q)
  have HB : Hid (∀ q, Below w.heap.size w ((w.alloc (.cells (dcells n) 81)).drewN q)) := hb0
  have hd := date_ex h0 h1
  obtain ⟨a0, a1, a2, a3, a4, a5⟩ := (okD_iff _ _ _).1 hd.1
  have db := dim_bd (yOf n) (mOf n)
  have k1 := IntWalk.i64_in (dOf n - dim (yOf n) (mOf n)) (by omega)
  have k2 := IntWalk.i64_in (dOf n - dim (yOf n) (mOf n) - 1) (by omega)
  clear hb hi ht hb0 hd
  by_cases hh : hasI r.da (dOf n) = true
  · have HV : Hid (dtB r n = true) := by unfold Hid dtB; rw [hh]; rfl
    have HH : Hid (hasI r.da (dOf n) = true) := hh
    clear hh
    go_enter Tryd.func71, Tryd.ntmps71
    go_wp2
    go_quiet ((go_at_call 49; exact Calls.quiet_of_same (implSize _ _ _ (HT.out _) (by omega) (by omega) (by omega) (by omega))))
    go_wp2_with (go_at_call 70; refine (implHas _ _ _ _ _ (HI.out _) (by omega) _ HH.out).mono ?_; rintro e w' ⟨rfl, rfl⟩)
    go_ret
    exact ⟨ret_b HV.out.symm, HB.out _⟩
  · have HV : Hid (dtB r n = hasI r.da (dOf n - dim (yOf n) (mOf n) - 1)) := by unfold Hid dtB; rw [show hasI r.da (dOf n) = false by simpa using hh]; rfl
    have HH : Hid (hasI r.da (dOf n) = false) := by unfold Hid; simpa using hh
    clear hh
    go_enter Tryd.func71, Tryd.ntmps71
    go_wp2
    go_quiet ((go_at_call 49; exact Calls.quiet_of_same (implSize _ _ _ (HT.out _) (by omega) (by omega) (by omega) (by omega))))
    go_wp2_with fail
    refine (implHas _ _ _ _ _ (HI.out _) (by omega) _ HH.out).mono ?_
    rintro e w' ⟨rfl, rfl⟩
    go_wp2_with (go_at_call 70; refine (implHas _ _ _ _ _ (HI.out _) (by omega) _ rfl).mono ?_; rintro e w' ⟨rfl, rfl⟩)
    go_ret
    exact ⟨ret_b HV.out.symm, HB.out _⟩
set_option maxHeartbeats 1000000 in
theorem clSameWd (s : Int) (Bs : Nat) (n : Int) (w : World) (hb : w.cell? ⟨Bs, 0, none⟩ = some (.int .i64 s)) (h0 : 0 ≤ n) (h1 : n ≤ 3652058) (s0 : 0 ≤ s) (s1 : s ≤ 3652058) :
    Calls Tryd.prog 93 #[dated n, .pointer (some ⟨Bs, 0, none⟩)] w fun e w' => e = .returned (.bool (decide (n % 7 = s % 7))) ∧ Below w.heap.size w w' := by
  unfold dated
  have hbl := cell_lt hb
  have HB : Hid (∀ q, Below w.heap.size w ((w.alloc (.cells (dcells n) 81)).drewN q)) := fun q => Below.drewN' ((Below.refl _ w).alloc (Nat.le_refl _) _) q
  go_enter Tryd.func93, Tryd.ntmps93
  go_wp2
  go_quiet ((go_at_call 47; exact Calls.quiet_of_same (implWd _ _ (by omega) (by omega))))
  go_wp2
  go_ret
  exact ⟨rfl, HB.out _⟩
set_option maxHeartbeats 1000000 in
theorem clSameDate (y m d : Int) (Bd : Nat) (n : Int) (w : World) (hb : w.cell? ⟨Bd, 2, none⟩ = some (.int .i64 d)) :
    Calls Tryd.prog 94 #[dated n, .pointer (some ⟨Bd, 0, none⟩)] w fun e w' => e = .returned (.bool (decide (dOf n = d))) ∧ Below w.heap.size w w' := by
  unfold dated
  have hbl := cell_lt hb
  go_enter Tryd.func94, Tryd.ntmps94
  go_wp2
  go_ret
  exact ⟨rfl, (Below.refl _ w).alloc (Nat.le_refl _) _⟩
set_option maxHeartbeats 1000000 in
theorem clSameMonth (y m d : Int) (Bd : Nat) (n : Int) (w : World) (hb : w.cell? ⟨Bd, 1, none⟩ = some (.int .i64 m)) :
    Calls Tryd.prog 95 #[dated n, .pointer (some ⟨Bd, 0, none⟩)] w fun e w' => e = .returned (.bool (decide (mOf n = m))) ∧ Below w.heap.size w w' := by
  unfold dated
  have hbl := cell_lt hb
  go_enter Tryd.func95, Tryd.ntmps95
  go_wp2
  go_ret
  exact ⟨rfl, (Below.refl _ w).alloc (Nat.le_refl _) _⟩
end Go.Proofs.YtlfglhpepoepcaaDoor
