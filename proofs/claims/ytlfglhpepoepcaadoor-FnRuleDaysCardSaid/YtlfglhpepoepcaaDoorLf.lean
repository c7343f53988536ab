/- When something comes next: the specification's, and that both sides say the same. -/
import Derived.Test.YtlfglhpepoepcaaDoorLe
namespace Go.Proofs.YtlfglhpepoepcaaDoor
open Go.RowKit Go.Shelf
set_option linter.unusedVariables false

theorem perP_min (r : Rl) (s te : Int) : perP r s (min te 3652058) = perP r s te := by
  funext j
  unfold perP
  rw [decide_eq_decide]
  omega
theorem comes_min {r : Rl} (hr : ROk r) {s te : Int} (h0 : 0 ≤ s) (h1 : s ≤ 3652058) : comes r s (min te 3652058) = comes r s te := by
  unfold comes perN
  rw [perP_min]
  unfold XF
  refine List.filter_congr ?_
  intro x hx
  have := AL_mem hr h0 h1 hx
  rw [decide_eq_decide]
  omega
theorem lim_min (r : Rl) (x : Int) : limT r (min x 3652058) = min (limT r x) (min (limT r x) 3652058) ∨ (limT r (min x 3652058) ≤ 3652058 ∧ limT r (min x 3652058) = min (limT r x) 3652058) := by
  unfold limT
  split <;> split <;> omega
def nxT (s d : Int) : Int := min (min (d + 366) (s + 11000)) 3652058
/-- The first of some days that is at least so late. -/
def geL (d : Int) (l : List Int) : List Int := l.filter fun x => decide (d ≤ x)
def nxM (r : Rl) (s d : Int) : List Int := (comes r s (limT r (nxT s d))).take (mostT r 20000).toNat
theorem next_eq {r : Rl} {s d : Int} (h : mayB r s d = true) : nextV r s d = firstT (geL d (nxM r s d)) := by
  obtain ⟨hru, ⟨s0, s1⟩, ⟨d0, d1⟩, hds⟩ := may_ok h
  have hr := (ru_ok hru).1
  have u0 := hr.u0; have u1 := hr.u1
  unfold nextV nxM geL comingT
  rw [if_pos h]
  have hl := lim_le r (min (d + 366) (s + 11000))
  rw [tk_most hr s0 s1 (by omega)]
  have e : comes r s (limT r (nxT s d)) = comes r s (limT r (min (d + 366) (s + 11000))) := by
    rw [← comes_min hr (te := limT r (min (d + 366) (s + 11000))) s0 s1, ← comes_min hr (te := limT r (nxT s d)) s0 s1]
    congr 1
    unfold nxT limT
    split <;> split <;> omega
  rw [e]
theorem geL_none {d : Int} {l : List Int} (h : ∀ j, j < l.length → gi l j < d) : geL d l = [] := by
  unfold geL
  rw [List.filter_eq_nil_iff]
  intro x hx
  obtain ⟨i, hi, e⟩ := List.getElem_of_mem hx
  have := h i hi
  unfold gi at this
  rw [List.getD_eq_getElem?_getD, List.getElem?_eq_getElem hi] at this
  simp at this ⊢
  omega
theorem geL_at {d : Int} {l : List Int} {i : Nat} (hi : i < l.length) (h : ∀ j, j < i → gi l j < d) (hd : d ≤ gi l i) : firstT (geL d l) = gi l i := by
  have e : l = l.take i ++ l.drop i := (List.take_append_drop i l).symm
  have e1 : geL d (l.take i) = [] := geL_none (by
    intro j hj
    rw [List.length_take] at hj
    have := h j (by omega)
    unfold gi at this ⊢
    rw [List.getD_eq_getElem?_getD] at this ⊢
    rw [List.getElem?_take_of_lt (by omega)]
    exact this)
  have e2 : l.drop i = gi l i :: l.drop (i + 1) := by
    rw [List.drop_eq_getElem_cons hi]
    unfold gi
    rw [List.getD_eq_getElem?_getD, List.getElem?_eq_getElem hi]
    rfl
  have e3 : geL d l = geL d (l.take i) ++ geL d (l.drop i) := by
    unfold geL; rw [← List.filter_append, List.take_append_drop]
  rw [e3, e1, e2]
  unfold geL firstT
  simp [hd]
set_option maxHeartbeats 4000000 in
theorem specRuleNext (r : Rl) (m : Rm) (s d : Int) (w : World) (hr : RAny w r m) :
    Calls Tryd.prog 31 #[.agg #[.int .i64 r.f, .int .i64 r.ev, .int .i64 r.ct, .int .i64 r.un, .slice m.a0 r.ds.length m.c0, .slice m.a1 r.da.length m.c1, .slice m.a2 r.mo.length m.c2, .slice m.a3 r.pl.length m.c3, .int .i64 r.wk], .int .i64 s, .int .i64 d] w fun e w' => e = .returned (.int .i64 (nextV r s d)) ∧ Below w.heap.size w w' := by
  obtain ⟨W0, hW0⟩ : ∃ W0, W0 = w.alloc (.cells #[.int .i64 r.f, .int .i64 r.ev, .int .i64 r.ct, .int .i64 r.un, .slice m.a0 r.ds.length m.c0, .slice m.a1 r.da.length m.c1, .slice m.a2 r.mo.length m.c2, .slice m.a3 r.pl.length m.c3, .int .i64 r.wk] 26) := ⟨_, rfl⟩
  have hb0 : Below w.heap.size w W0 := by rw [hW0]; exact (Below.refl _ w).alloc (Nat.le_refl _) _
  have HCB : Hid (CB W0 w.heap.size r m) := by unfold Hid; rw [hW0]; exact CB.new w r m _
  have HW0 : Hid (W0 = w.alloc (.cells #[.int .i64 r.f, .int .i64 r.ev, .int .i64 r.ct, .int .i64 r.un, .slice m.a0 r.ds.length m.c0, .slice m.a1 r.da.length m.c1, .slice m.a2 r.mo.length m.c2, .slice m.a3 r.pl.length m.c3, .int .i64 r.wk] 26)) := hW0
  have HB0 : Hid (Below w.heap.size w W0) := hb0
  have HR0 : Hid (RAny W0 r m) := hr.on hb0
  have HM := specAsked r m s d W0 HR0.out
  clear hW0 hb0 hr
  cases h1 : mayB r s d with
  | false =>
    have HV : Hid (nextV r s d = -1) := by unfold Hid nextV; rw [h1]; rfl
    rw [h1] at HM
    clear h1
    go_enter Tryd.func31, Tryd.ntmps31
    go_wp2_with fail
    rw [← HW0.out]
    refine HM.mono ?_
    rintro e w1 ⟨rfl, b1⟩
    have HB1 : Hid (Below w.heap.size w w1) := bstep HB0.out b1
    clear b1 HM
    go_wp2
    go_ret
    exact ⟨ret_i HV.out.symm, HB1.out⟩
  | true =>
    have HV : Hid (nextV r s d = firstT (geL d (nxM r s d))) := next_eq h1
    obtain ⟨hru, ⟨s0, s1⟩, ⟨d0, d1⟩, hds⟩ := may_ok h1
    have HRU : Hid (ruOf r = true) := hru
    have hT := lim_le r (nxT s d)
    have hNT : nxT s d ≤ s + 11000 := by unfold nxT; omega
    have hll : (nxM r s d).length ≤ 4000000 := by
      have := @comes_len r (ru_ok hru).1 s (limT r (nxT s d)) s0 s1
      unfold nxM
      rw [List.length_take]; omega
    rw [h1] at HM
    clear h1 hru
    obtain ⟨T, hTT⟩ : ∃ T, T = nxT s d := ⟨_, rfl⟩
    have HT2 : Hid (T = min (min (d + 366) (s + 11000)) 3652058) := hTT
    have HNX : Hid (nxM r s d = (comes r s (limT r T)).take (mostT r 20000).toNat) := by unfold Hid; rw [hTT]; rfl
    clear hTT hT hNT
    go_enter Tryd.func31, Tryd.ntmps31
    go_wp2_with fail
    rw [← HW0.out]
    refine HM.mono ?_
    rintro e w1 ⟨rfl, b1⟩
    have HB1 : Hid (Below w.heap.size w w1) := bstep HB0.out b1
    have HR1 : Hid (RIn w1 r m) := (HR0.out.on b1).ok HRU.out
    obtain ⟨q0, q1, q2, q3, q4, q5, q6, q7, q8⟩ := HCB.out.on (b1.block _ HCB.out.lt)
    clear b1 HM
    by_cases c1 : s + 11000 < d + 366 <;> by_cases c2 : 3652058 < min (d + 366) (s + 11000)
    · have HTX : Hid (T = 3652058) := by unfold Hid; rw [HT2.out]; omega
      have HNY : Hid (nxM r s d = (comes r s (limT r (3652058))).take (mostT r 20000).toNat) := by unfold Hid; rw [HNX.out, HTX.out]
      clear HNX HTX HT2
      go_wp2_with fail
      refine (specDaysL r m s (3652058) 20000 w1 HR1.out.ok HR1.out.mem HR1.out.l0 HR1.out.l1 HR1.out.l2 HR1.out.l3 (by_bd HRU.out) s0 s1 (by omega) (by omega)).mono ?_
      rintro e w2 ⟨⟨v, rfl, ov⟩, b2⟩
      have HB2 : Hid (Below w.heap.size w w2) := bstep HB1.out b2
      obtain ⟨M, hM⟩ : ∃ M, M = nxM r s d := ⟨_, rfl⟩
      rw [← HNY.out, ← hM] at ov
      rw [← hM] at HV hll
      obtain ⟨av, cv, rfl, iv, _, _⟩ := ov.val
      have H1 : Hid (IsInts w2 av M) := iv
      clear b2 q0 q1 q2 q3 q4 q5 q6 q7 q8 ov iv hM HNY c1 c2 s0 s1 d0 d1 hds T
      go_wp2
      go_loopw [9] (fun i wr => ∃ k : Nat, k ≤ M.length ∧ i = .int .i64 k ∧ wr = w2 ∧ ∀ j, j < k → gi M j < d) (fun i _ => M.length - (intOf i).toNat)
      case atStart => exact ⟨0, by omega, rfl, rfl, fun j hj => by omega⟩
      case round =>
        obtain ⟨k, hk, rfl, rfl, hno⟩ := hrel
        have HN : Hid (∀ j, j < k → gi M j < d) := hno
        clear hno
        by_cases hlt : k < M.length
        · have G1 := H1.out
          rcases G1 with G1 | ⟨b, o, rfl, hbs, hc⟩
          · rw [G1] at hlt; simp at hlt
          have x0 : wr.cell? ⟨b, o + k, none⟩ = some (.int .i64 (gi M k)) := hc k hlt
          clear hc
          have hi1 : (k : Int) < (M.length : Int) := by omega
          have hi0 : (0 : Int) ≤ (k : Int) := by omega
          by_cases he : d ≤ gi M k
          · go_wp2
            go_ret
            exact ⟨ret_i ((geL_at hlt HN.out he).symm.trans HV.out.symm), HB2.out⟩
          · go_wp2
            go_roundw
            case rel => exact ⟨k + 1, by omega, by go_num, by trivial, fun j hj => by
              rcases Nat.lt_or_ge j k with h' | h'
              · exact HN.out j h'
              · have : j = k := by omega
                subst this; omega⟩
            case measure => simp [intOf]; omega
        · have : k = M.length := by omega
          subst this
          have HE : Hid (firstT (geL d M) = -1) := by unfold Hid; rw [geL_none HN.out]; rfl
          go_wp2
          go_ret
          exact ⟨ret_i (HE.out.symm.trans HV.out.symm), HB2.out⟩
    · have HTX : Hid (T = s + 11000) := by unfold Hid; rw [HT2.out]; omega
      have HNY : Hid (nxM r s d = (comes r s (limT r (s + 11000))).take (mostT r 20000).toNat) := by unfold Hid; rw [HNX.out, HTX.out]
      clear HNX HTX HT2
      go_wp2_with fail
      refine (specDaysL r m s (s + 11000) 20000 w1 HR1.out.ok HR1.out.mem HR1.out.l0 HR1.out.l1 HR1.out.l2 HR1.out.l3 (by_bd HRU.out) s0 s1 (by omega) (by omega)).mono ?_
      rintro e w2 ⟨⟨v, rfl, ov⟩, b2⟩
      have HB2 : Hid (Below w.heap.size w w2) := bstep HB1.out b2
      obtain ⟨M, hM⟩ : ∃ M, M = nxM r s d := ⟨_, rfl⟩
      rw [← HNY.out, ← hM] at ov
      rw [← hM] at HV hll
      obtain ⟨av, cv, rfl, iv, _, _⟩ := ov.val
      have H1 : Hid (IsInts w2 av M) := iv
      clear b2 q0 q1 q2 q3 q4 q5 q6 q7 q8 ov iv hM HNY c1 c2 s0 s1 d0 d1 hds T
      go_wp2
      go_loopw [9] (fun i wr => ∃ k : Nat, k ≤ M.length ∧ i = .int .i64 k ∧ wr = w2 ∧ ∀ j, j < k → gi M j < d) (fun i _ => M.length - (intOf i).toNat)
      case atStart => exact ⟨0, by omega, rfl, rfl, fun j hj => by omega⟩
      case round =>
        obtain ⟨k, hk, rfl, rfl, hno⟩ := hrel
        have HN : Hid (∀ j, j < k → gi M j < d) := hno
        clear hno
        by_cases hlt : k < M.length
        · have G1 := H1.out
          rcases G1 with G1 | ⟨b, o, rfl, hbs, hc⟩
          · rw [G1] at hlt; simp at hlt
          have x0 : wr.cell? ⟨b, o + k, none⟩ = some (.int .i64 (gi M k)) := hc k hlt
          clear hc
          have hi1 : (k : Int) < (M.length : Int) := by omega
          have hi0 : (0 : Int) ≤ (k : Int) := by omega
          by_cases he : d ≤ gi M k
          · go_wp2
            go_ret
            exact ⟨ret_i ((geL_at hlt HN.out he).symm.trans HV.out.symm), HB2.out⟩
          · go_wp2
            go_roundw
            case rel => exact ⟨k + 1, by omega, by go_num, by trivial, fun j hj => by
              rcases Nat.lt_or_ge j k with h' | h'
              · exact HN.out j h'
              · have : j = k := by omega
                subst this; omega⟩
            case measure => simp [intOf]; omega
        · have : k = M.length := by omega
          subst this
          have HE : Hid (firstT (geL d M) = -1) := by unfold Hid; rw [geL_none HN.out]; rfl
          go_wp2
          go_ret
          exact ⟨ret_i (HE.out.symm.trans HV.out.symm), HB2.out⟩
    · have HTX : Hid (T = 3652058) := by unfold Hid; rw [HT2.out]; omega
      have HNY : Hid (nxM r s d = (comes r s (limT r (3652058))).take (mostT r 20000).toNat) := by unfold Hid; rw [HNX.out, HTX.out]
      clear HNX HTX HT2
      go_wp2_with fail
      refine (specDaysL r m s (3652058) 20000 w1 HR1.out.ok HR1.out.mem HR1.out.l0 HR1.out.l1 HR1.out.l2 HR1.out.l3 (by_bd HRU.out) s0 s1 (by omega) (by omega)).mono ?_
      rintro e w2 ⟨⟨v, rfl, ov⟩, b2⟩
      have HB2 : Hid (Below w.heap.size w w2) := bstep HB1.out b2
      obtain ⟨M, hM⟩ : ∃ M, M = nxM r s d := ⟨_, rfl⟩
      rw [← HNY.out, ← hM] at ov
      rw [← hM] at HV hll
      obtain ⟨av, cv, rfl, iv, _, _⟩ := ov.val
      have H1 : Hid (IsInts w2 av M) := iv
      clear b2 q0 q1 q2 q3 q4 q5 q6 q7 q8 ov iv hM HNY c1 c2 s0 s1 d0 d1 hds T
      go_wp2
      go_loopw [9] (fun i wr => ∃ k : Nat, k ≤ M.length ∧ i = .int .i64 k ∧ wr = w2 ∧ ∀ j, j < k → gi M j < d) (fun i _ => M.length - (intOf i).toNat)
      case atStart => exact ⟨0, by omega, rfl, rfl, fun j hj => by omega⟩
      case round =>
        obtain ⟨k, hk, rfl, rfl, hno⟩ := hrel
        have HN : Hid (∀ j, j < k → gi M j < d) := hno
        clear hno
        by_cases hlt : k < M.length
        · have G1 := H1.out
          rcases G1 with G1 | ⟨b, o, rfl, hbs, hc⟩
          · rw [G1] at hlt; simp at hlt
          have x0 : wr.cell? ⟨b, o + k, none⟩ = some (.int .i64 (gi M k)) := hc k hlt
          clear hc
          have hi1 : (k : Int) < (M.length : Int) := by omega
          have hi0 : (0 : Int) ≤ (k : Int) := by omega
          by_cases he : d ≤ gi M k
          · go_wp2
            go_ret
            exact ⟨ret_i ((geL_at hlt HN.out he).symm.trans HV.out.symm), HB2.out⟩
          · go_wp2
            go_roundw
            case rel => exact ⟨k + 1, by omega, by go_num, by trivial, fun j hj => by
              rcases Nat.lt_or_ge j k with h' | h'
              · exact HN.out j h'
              · have : j = k := by omega
                subst this; omega⟩
            case measure => simp [intOf]; omega
        · have : k = M.length := by omega
          subst this
          have HE : Hid (firstT (geL d M) = -1) := by unfold Hid; rw [geL_none HN.out]; rfl
          go_wp2
          go_ret
          exact ⟨ret_i (HE.out.symm.trans HV.out.symm), HB2.out⟩
    · have HTX : Hid (T = d + 366) := by unfold Hid; rw [HT2.out]; omega
      have HNY : Hid (nxM r s d = (comes r s (limT r (d + 366))).take (mostT r 20000).toNat) := by unfold Hid; rw [HNX.out, HTX.out]
      clear HNX HTX HT2
      go_wp2_with fail
      refine (specDaysL r m s (d + 366) 20000 w1 HR1.out.ok HR1.out.mem HR1.out.l0 HR1.out.l1 HR1.out.l2 HR1.out.l3 (by_bd HRU.out) s0 s1 (by omega) (by omega)).mono ?_
      rintro e w2 ⟨⟨v, rfl, ov⟩, b2⟩
      have HB2 : Hid (Below w.heap.size w w2) := bstep HB1.out b2
      obtain ⟨M, hM⟩ : ∃ M, M = nxM r s d := ⟨_, rfl⟩
      rw [← HNY.out, ← hM] at ov
      rw [← hM] at HV hll
      obtain ⟨av, cv, rfl, iv, _, _⟩ := ov.val
      have H1 : Hid (IsInts w2 av M) := iv
      clear b2 q0 q1 q2 q3 q4 q5 q6 q7 q8 ov iv hM HNY c1 c2 s0 s1 d0 d1 hds T
      go_wp2
      go_loopw [9] (fun i wr => ∃ k : Nat, k ≤ M.length ∧ i = .int .i64 k ∧ wr = w2 ∧ ∀ j, j < k → gi M j < d) (fun i _ => M.length - (intOf i).toNat)
      case atStart => exact ⟨0, by omega, rfl, rfl, fun j hj => by omega⟩
      case round =>
        obtain ⟨k, hk, rfl, rfl, hno⟩ := hrel
        have HN : Hid (∀ j, j < k → gi M j < d) := hno
        clear hno
        by_cases hlt : k < M.length
        · have G1 := H1.out
          rcases G1 with G1 | ⟨b, o, rfl, hbs, hc⟩
          · rw [G1] at hlt; simp at hlt
          have x0 : wr.cell? ⟨b, o + k, none⟩ = some (.int .i64 (gi M k)) := hc k hlt
          clear hc
          have hi1 : (k : Int) < (M.length : Int) := by omega
          have hi0 : (0 : Int) ≤ (k : Int) := by omega
          by_cases he : d ≤ gi M k
          · go_wp2
            go_ret
            exact ⟨ret_i ((geL_at hlt HN.out he).symm.trans HV.out.symm), HB2.out⟩
          · go_wp2
            go_roundw
            case rel => exact ⟨k + 1, by omega, by go_num, by trivial, fun j hj => by
              rcases Nat.lt_or_ge j k with h' | h'
              · exact HN.out j h'
              · have : j = k := by omega
                subst this; omega⟩
            case measure => simp [intOf]; omega
        · have : k = M.length := by omega
          subst this
          have HE : Hid (firstT (geL d M) = -1) := by unfold Hid; rw [geL_none HN.out]; rfl
          go_wp2
          go_ret
          exact ⟨ret_i (HE.out.symm.trans HV.out.symm), HB2.out⟩
end Go.Proofs.YtlfglhpepoepcaaDoor
