/- Whether something comes on a day: the specification's, and that both sides say the same. -/
import Derived.Test.YtlfglhpepoepcaaDoorLc
import Derived.Test.YtlfglhpepoepcaaDoorLd
namespace Go.Proofs.YtlfglhpepoepcaaDoor
open Go.RowKit Go.Shelf
set_option linter.unusedVariables false

theorem by_bd {r : Rl} (h : ruOf r = true) : ∀ j, j < r.ds.length → -1000 ≤ tAt r.ds j ∧ tAt r.ds j ≤ 1000 := by
  intro j hj
  unfold ruOf ruB at h
  simp only [Bool.and_eq_true] at h
  have h2 := h.2.1
  unfold dsB at h2
  simp only [Bool.and_eq_true] at h2
  have h3 := (dsA_iff _ _).1 h2.2 j hj
  unfold dstB at h3
  simp only [Bool.and_eq_true] at h3
  have h4 := (in_iff _ _ _).1 h3.2.1
  have h5 := numM_in r.f r.mo.length
  omega
theorem lim_le (r : Rl) (d : Int) : limT r d ≤ d := by unfold limT; split <;> omega
theorem tk_most {r : Rl} (hr : ROk r) {s T : Int} (h0 : 0 ≤ s) (h1 : s ≤ 3652058) (hT : T ≤ s + 11500) : tk r.ct (comes r s T) = (comes r s T).take (mostT r 20000).toNat := by
  have hl := @comes_len r hr s T h0 h1
  have c0 := hr.c0; have c1 := hr.c1
  unfold tk mostT
  by_cases hc : r.ct = 0
  · rw [if_pos hc, if_neg (by omega), List.take_of_length_le (by omega)]
  · rw [if_neg hc, if_pos (by omega)]
theorem on_eq {r : Rl} {s d : Int} (h : mayB r s d = true) : decide (firstT (comingT r s d (limT r d)) = d) = hasI ((comes r s (limT r d)).take (mostT r 20000).toNat) d := by
  obtain ⟨hru, ⟨s0, s1⟩, ⟨d0, d1⟩, hds⟩ := may_ok h
  have hr := (ru_ok hru).1
  have hT := lim_le r d
  unfold comingT
  rw [tk_most hr s0 s1 (by omega)]
  obtain ⟨M, hM⟩ : ∃ M, M = (comes r s (limT r d)).take (mostT r 20000).toNat := ⟨_, rfl⟩
  rw [← hM]
  have hle : ∀ x ∈ M, x ≤ d := fun x hx => by
    rw [hM] at hx
    have := comes_mem (List.mem_of_mem_take hx); omega
  rw [Bool.eq_iff_iff]
  unfold hasI
  simp only [decide_eq_true_eq]
  constructor
  · intro e
    unfold firstT at e
    cases hf : M.filter (fun x => decide (d ≤ x)) with
    | nil => rw [hf] at e; simp at e; omega
    | cons y t =>
      rw [hf] at e
      have : y ∈ M.filter (fun x => decide (d ≤ x)) := by rw [hf]; exact List.mem_cons_self ..
      simp at e
      subst e
      exact (List.mem_filter.1 this).1
  · intro hm
    unfold firstT
    have hin : d ∈ M.filter (fun x => decide (d ≤ x)) := List.mem_filter.2 ⟨hm, by simp⟩
    cases hf : M.filter (fun x => decide (d ≤ x)) with
    | nil => rw [hf] at hin; simp at hin
    | cons y t =>
      have hy : y ∈ M.filter (fun x => decide (d ≤ x)) := by rw [hf]; exact List.mem_cons_self ..
      have h2 := List.mem_filter.1 hy
      have h3 := hle y h2.1
      have h4 : d ≤ y := by simpa using h2.2
      show y = d
      omega
set_option maxHeartbeats 4000000 in
theorem specRuleOn (r : Rl) (m : Rm) (s d : Int) (w : World) (hr : RAny w r m) :
    Calls Tryd.prog 23 #[.agg #[.int .i64 r.f, .int .i64 r.ev, .int .i64 r.ct, .int .i64 r.un, .slice m.a0 r.ds.length m.c0, .slice m.a1 r.da.length m.c1, .slice m.a2 r.mo.length m.c2, .slice m.a3 r.pl.length m.c3, .int .i64 r.wk], .int .i64 s, .int .i64 d] w fun e w' => e = .returned (.bool (onB r s d)) ∧ Below w.heap.size w w' := by
  obtain ⟨W0, hW0⟩ : ∃ W0, W0 = w.alloc (.cells #[.int .i64 r.f, .int .i64 r.ev, .int .i64 r.ct, .int .i64 r.un, .slice m.a0 r.ds.length m.c0, .slice m.a1 r.da.length m.c1, .slice m.a2 r.mo.length m.c2, .slice m.a3 r.pl.length m.c3, .int .i64 r.wk] 26) := ⟨_, rfl⟩
  have hb0 : Below w.heap.size w W0 := by rw [hW0]; exact (Below.refl _ w).alloc (Nat.le_refl _) _
  have HCB : Hid (CB W0 w.heap.size r m) := by unfold Hid; rw [hW0]; exact CB.new w r m _
  have HW0 : Hid (W0 = w.alloc (.cells #[.int .i64 r.f, .int .i64 r.ev, .int .i64 r.ct, .int .i64 r.un, .slice m.a0 r.ds.length m.c0, .slice m.a1 r.da.length m.c1, .slice m.a2 r.mo.length m.c2, .slice m.a3 r.pl.length m.c3, .int .i64 r.wk] 26)) := hW0
  have HB0 : Hid (Below w.heap.size w W0) := hb0
  have HR0 : Hid (RAny W0 r m) := hr.on hb0
  have HM := specAsked r m s d W0 HR0.out
  clear hW0 hb0 hr
  cases h1 : mayB r s d with
  | false =>
    have HV : Hid (onB r s d = false) := by unfold Hid onB; rw [h1]; rfl
    rw [h1] at HM
    clear h1
    go_enter Tryd.func23, Tryd.ntmps23
    go_wp2_with fail
    rw [← HW0.out]
    refine HM.mono ?_
    rintro e w1 ⟨rfl, b1⟩
    have HB1 : Hid (Below w.heap.size w w1) := bstep HB0.out b1
    clear b1 HM
    go_wp2
    go_ret
    exact ⟨ret_b HV.out.symm, HB1.out⟩
  | true =>
    have HV : Hid (onB r s d = hasI ((comes r s (limT r d)).take (mostT r 20000).toNat) d) := by unfold Hid onB; rw [h1, Bool.true_and]; exact on_eq h1
    obtain ⟨hru, ⟨s0, s1⟩, ⟨d0, d1⟩, hds⟩ := may_ok h1
    have HRU : Hid (ruOf r = true) := hru
    have hT := lim_le r d
    have hll : ((comes r s (limT r d)).take (mostT r 20000).toNat).length ≤ 4000000 := by
      have := @comes_len r (ru_ok hru).1 s (limT r d) s0 s1
      rw [List.length_take]; omega
    rw [h1] at HM
    clear h1 hru
    go_enter Tryd.func23, Tryd.ntmps23
    go_wp2_with fail
    rw [← HW0.out]
    refine HM.mono ?_
    rintro e w1 ⟨rfl, b1⟩
    have HB1 : Hid (Below w.heap.size w w1) := bstep HB0.out b1
    have HR1 : Hid (RIn w1 r m) := (HR0.out.on b1).ok HRU.out
    obtain ⟨q0, q1, q2, q3, q4, q5, q6, q7, q8⟩ := HCB.out.on (b1.block _ HCB.out.lt)
    clear b1 HM
    go_wp2_with fail
    refine (specDaysL r m s d 20000 w1 HR1.out.ok HR1.out.mem HR1.out.l0 HR1.out.l1 HR1.out.l2 HR1.out.l3 (by_bd HRU.out) s0 s1 (by omega) (by omega)).mono ?_
    rintro e w2 ⟨⟨v, rfl, ov⟩, b2⟩
    have HB2 : Hid (Below w.heap.size w w2) := bstep HB1.out b2
    obtain ⟨M, hM⟩ : ∃ M, M = (comes r s (limT r d)).take (mostT r 20000).toNat := ⟨_, rfl⟩
    rw [← hM] at ov HV hll
    obtain ⟨av, cv, rfl, iv, _, _⟩ := ov.val
    have HIV : Hid (IsInts w2 av M) := iv
    clear b2 q0 q1 q2 q3 q4 q5 q6 q7 q8 ov iv hM
    go_wp2_with fail
    refine (specHas _ _ _ _ _ HIV.out hll _ rfl).mono ?_
    rintro e w3 ⟨rfl, hw3⟩
    rw [hw3]
    clear hw3
    go_wp2
    go_ret
    exact ⟨ret_b HV.out.symm, HB2.out⟩
end Go.Proofs.YtlfglhpepoepcaaDoor
