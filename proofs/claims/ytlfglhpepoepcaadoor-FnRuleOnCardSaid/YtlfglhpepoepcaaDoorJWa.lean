/- The specification's choice of days. -/
import Derived.Test.YtlfglhpepoepcaaDoorKl
import Derived.Test.YtlfglhpepoepcaaDoorSpD
import Derived.Test.YtlfglhpepoepcaaDoorKo
import Derived.Test.YtlfglhpepoepcaaDoorKd
import Derived.Test.YtlfglhpepoepcaaDoorLb
import Derived.Test.YtlfglhpepoepcaaDoorKg
import Derived.Test.YtlfglhpepoepcaaDoorRs
import Derived.Test.YtlfglhpepoepcaaDoorRx
import Derived.Test.YtlfglhpepoepcaaDoorKt
import Derived.Test.YtlfglhpepoepcaaDoorLg
namespace Go.Proofs.YtlfglhpepoepcaaDoor
open Go.RowKit Go.Shelf
set_option linter.unusedVariables false

theorem specDateN (n : Int) (w : World) (h0 : 0 ≤ n) (h1 : n ≤ 3652058) : Calls Tryd.prog 77 #[.int .i64 n] w fun e w' => e = .returned (.agg #[.int .i64 (yOf n), .int .i64 (mOf n), .int .i64 (dOf n)]) ∧ Below w.heap.size w w' := by
  refine (specDate n w h0 h1).mono ?_
  rintro e w' ⟨⟨y, m, d, rfl, a, b⟩, hb⟩
  obtain ⟨e1, e2, e3⟩ := date_is a b
  exact ⟨by rw [e1, e2, e3], hb⟩
def nthB (n fs ls x : Int) : Bool := if 0 < x then decide ((n - fs) / 7 + 1 = x) else decide ((ls - n) / 7 + 1 = -x)
theorem specNth (n fs ls x : Int) (w : World) (h0 : 0 ≤ n - fs) (h1 : n - fs ≤ 400) (h2 : 0 ≤ ls - n) (h3 : ls - n ≤ 400) (n0 : 0 ≤ n) (n1 : n ≤ 3652058) (x0 : -1000 ≤ x) (x1 : x ≤ 1000) :
    Calls Tryd.prog 102 #[.int .i64 n, .int .i64 fs, .int .i64 ls, .int .i64 x] w fun e w' => e = .returned (.bool (nthB n fs ls x)) ∧ w' = w := by
  by_cases hx : 0 < x
  · have HV : Hid (nthB n fs ls x = decide ((n - fs) / 7 + 1 = x)) := by unfold Hid nthB; rw [if_pos hx]
    go_enter Tryd.func102, Tryd.ntmps102
    go_wp2
    go_ret
    exact ⟨ret_b HV.out.symm, rfl⟩
  · have HV : Hid (nthB n fs ls x = decide ((ls - n) / 7 + 1 = -x)) := by unfold Hid nthB; rw [if_neg hx]
    go_enter Tryd.func102, Tryd.ntmps102
    go_wp2
    go_ret
    exact ⟨ret_b HV.out.symm, rfl⟩
theorem nth_by {n fs ls x y : Int} (h0 : 0 ≤ n - fs) (h2 : 0 ≤ ls - n) (hx : x ≠ 0) : byC n ((n - fs) / 7 + 1) (-((ls - n) / 7 + 1)) x (n % 7) = nthB n fs ls x := by
  unfold byC nthB
  rw [Bool.eq_iff_iff]
  split <;> simp <;> omega
set_option maxHeartbeats 4000000 in
theorem specDateFits (r : Rl) (m : Rm) (n : Int) (w : World) (hi : IsInts w m.a1 r.da) (hl : r.da.length ≤ 8) (h0 : 0 ≤ n) (h1 : n ≤ 3652058) :
    Calls Tryd.prog 98 #[.agg #[.int .i64 r.f, .int .i64 r.ev, .int .i64 r.ct, .int .i64 r.un, .slice m.a0 r.ds.length m.c0, .slice m.a1 r.da.length m.c1, .slice m.a2 r.mo.length m.c2, .slice m.a3 r.pl.length m.c3, .int .i64 r.wk], .agg #[.int .i64 (yOf n), .int .i64 (mOf n), .int .i64 (dOf n)]] w fun e w' => e = .returned (.bool (dtB r n)) ∧ Below w.heap.size w w' := by
  have hb0 : ∀ q, Below w.heap.size w (((w.alloc (.cells #[.int .i64 r.f, .int .i64 r.ev, .int .i64 r.ct, .int .i64 r.un, .slice m.a0 r.ds.length m.c0, .slice m.a1 r.da.length m.c1, .slice m.a2 r.mo.length m.c2, .slice m.a3 r.pl.length m.c3, .int .i64 r.wk] 26)).alloc (.cells #[.int .i64 (yOf n), .int .i64 (mOf n), .int .i64 (dOf n)] 35)).drewN q) := fun q => Below.drewN' (((Below.refl _ w).alloc (Nat.le_refl _) _).alloc (by simp) _) q
  have HI : Hid (∀ q, IsInts (((w.alloc (.cells #[.int .i64 r.f, .int .i64 r.ev, .int .i64 r.ct, .int .i64 r.un, .slice m.a0 r.ds.length m.c0, .slice m.a1 r.da.length m.c1, .slice m.a2 r.mo.length m.c2, .slice m.a3 r.pl.length m.c3, .int .i64 r.wk] 26)).alloc (.cells #[.int .i64 (yOf n), .int .i64 (mOf n), .int .i64 (dOf n)] 35)).drewN q) m.a1 r.da) := fun q => hi.below (hb0 q)
  have HB : Hid (∀ q, Below w.heap.size w (((w.alloc (.cells #[.int .i64 r.f, .int .i64 r.ev, .int .i64 r.ct, .int .i64 r.un, .slice m.a0 r.ds.length m.c0, .slice m.a1 r.da.length m.c1, .slice m.a2 r.mo.length m.c2, .slice m.a3 r.pl.length m.c3, .int .i64 r.wk] 26)).alloc (.cells #[.int .i64 (yOf n), .int .i64 (mOf n), .int .i64 (dOf n)] 35)).drewN q)) := hb0
  obtain ⟨a0, a1, a2, a3, a4, a5, _⟩ := date_bd h0 h1
  have db := dim_bd (yOf n) (mOf n)
  have k1 := IntWalk.i64_in (dOf n - dim (yOf n) (mOf n)) (by omega)
  have k2 := IntWalk.i64_in (dOf n - dim (yOf n) (mOf n) - 1) (by omega)
  clear hi hb0
  cases hh : hasI r.da (dOf n) with
  | true =>
    have HV : Hid (dtB r n = true) := by unfold Hid dtB; rw [hh]; rfl
    have HH : Hid (hasI r.da (dOf n) = true) := hh
    clear hh
    go_enter Tryd.func98, Tryd.ntmps98
    go_wp2
    go_quiet ((go_at_call 43; exact Calls.quiet_of_same (specHas _ _ _ _ _ (HI.out _) (by omega) _ HH.out)))
    go_wp2
    go_ret
    exact ⟨ret_b HV.out.symm, HB.out _⟩
  | false =>
    have HH : Hid (hasI r.da (dOf n) = false) := hh
    cases h2 : hasI r.da (dOf n - dim (yOf n) (mOf n) - 1) with
    | true =>
      have HV : Hid (dtB r n = true) := by unfold Hid dtB; rw [hh, h2]; rfl
      have H2 : Hid (hasI r.da (dOf n - dim (yOf n) (mOf n) - 1) = true) := h2
      clear hh h2
      go_enter Tryd.func98, Tryd.ntmps98
      go_wp2
      go_quiet ((first | (go_at_call 43; first | exact Calls.quiet_of_same (specHas _ _ _ _ _ (HI.out _) (by omega) _ HH.out) | exact Calls.quiet_of_same (specHas _ _ _ _ _ (HI.out _) (by omega) _ H2.out)) | (go_at_call 80; exact Calls.quiet_of_same (specDays _ _ _ (by omega) (by omega) (by omega) (by omega)))))
      go_wp2
      go_ret
      exact ⟨ret_b HV.out.symm, HB.out _⟩
    | false =>
      have HV : Hid (dtB r n = false) := by unfold Hid dtB; rw [hh, h2]; rfl
      have H2 : Hid (hasI r.da (dOf n - dim (yOf n) (mOf n) - 1) = false) := h2
      clear hh h2
      go_enter Tryd.func98, Tryd.ntmps98
      go_wp2
      go_quiet ((first | (go_at_call 43; first | exact Calls.quiet_of_same (specHas _ _ _ _ _ (HI.out _) (by omega) _ HH.out) | exact Calls.quiet_of_same (specHas _ _ _ _ _ (HI.out _) (by omega) _ H2.out)) | (go_at_call 80; exact Calls.quiet_of_same (specDays _ _ _ (by omega) (by omega) (by omega) (by omega)))))
      go_wp2
      go_ret
      exact ⟨ret_b HV.out.symm, HB.out _⟩
end Go.Proofs.YtlfglhpepoepcaaDoor
namespace Go.Proofs.YtlfglhpepoepcaaDoor
open Go.RowKit Go.Shelf
set_option linter.unusedVariables false

def nthV (p q x : Int) : Bool := if 0 < x then decide (p / 7 + 1 = x) else decide (q / 7 + 1 = -x)
theorem specNthR (n fs ls x : Int) (w : World) (P Q : Int) (hp : n - fs = P) (hq : ls - n = Q) (p0 : 0 ≤ P) (p1 : P ≤ 366) (q0 : 0 ≤ Q) (q1 : Q ≤ 366) (n0 : 0 ≤ n) (n1 : n ≤ 3652058) (x0 : -1000 ≤ x) (x1 : x ≤ 1000) :
    Calls Tryd.prog 102 #[.int .i64 n, .int .i64 fs, .int .i64 ls, .int .i64 x] w fun e w' => e = .returned (.bool (nthV P Q x)) ∧ w' = w := by
  subst hp hq
  exact specNth n fs ls x w p0 (by omega) q0 (by omega) n0 n1 x0 x1
theorem nth_byV {n P Q x : Int} (h0 : 0 ≤ P) (h2 : 0 ≤ Q) (hx : x ≠ 0) : byC n (P / 7 + 1) (-(Q / 7 + 1)) x (n % 7) = nthV P Q x := by
  unfold byC nthV
  rw [Bool.eq_iff_iff]
  split <;> simp <;> omega
set_option maxRecDepth 100000 in
set_option maxHeartbeats 8000000 in
theorem specDayFits (r : Rl) (m : Rm) (n : Int) (w : World) (hi : IsTurns w m.a0 r.ds) (hl : r.ds.length ≤ 8) (hx : ∀ j, j < r.ds.length → -1000 ≤ tAt r.ds j ∧ tAt r.ds j ≤ 1000) (h0 : 0 ≤ n) (h1 : n ≤ 3652058) :
    Calls Tryd.prog 99 #[.agg #[.int .i64 r.f, .int .i64 r.ev, .int .i64 r.ct, .int .i64 r.un, .slice m.a0 r.ds.length m.c0, .slice m.a1 r.da.length m.c1, .slice m.a2 r.mo.length m.c2, .slice m.a3 r.pl.length m.c3, .int .i64 r.wk], .int .i64 n] w fun e w' => e = .returned (.bool (dfB r n)) ∧ Below w.heap.size w w' := by
  obtain ⟨W0, hW0⟩ : ∃ W0, W0 = w.alloc (.cells #[.int .i64 r.f, .int .i64 r.ev, .int .i64 r.ct, .int .i64 r.un, .slice m.a0 r.ds.length m.c0, .slice m.a1 r.da.length m.c1, .slice m.a2 r.mo.length m.c2, .slice m.a3 r.pl.length m.c3, .int .i64 r.wk] 26) := ⟨_, rfl⟩
  have hb0 : Below w.heap.size w W0 := by rw [hW0]; exact (Below.refl _ w).alloc (Nat.le_refl _) _
  have HW0 : Hid (W0 = w.alloc (.cells #[.int .i64 r.f, .int .i64 r.ev, .int .i64 r.ct, .int .i64 r.un, .slice m.a0 r.ds.length m.c0, .slice m.a1 r.da.length m.c1, .slice m.a2 r.mo.length m.c2, .slice m.a3 r.pl.length m.c3, .int .i64 r.wk] 26)) := hW0
  have HB0 : Hid (Below w.heap.size w W0) := hb0
  have HC0 : Hid (CB W0 w.heap.size r m) := by unfold Hid; rw [hW0]; exact CB.new w r m _
  have HI0 : Hid (IsTurns W0 m.a0 r.ds) := hi.below (B := 0) hb0
  have HXB : Hid (∀ j, j < r.ds.length → -1000 ≤ tAt r.ds j ∧ tAt r.ds j ≤ 1000) := hx
  obtain ⟨a0, a1, a2, a3, a4, a5, a6, a7, _⟩ := date_bd h0 h1
  have es := fst_succ (yOf n) a0
  have lp := lp_01 (yOf n)
  have db := dim_bd (yOf n) (mOf n)
  have fb := fst_bd2 (yOf n) a0 (by omega)
  have fb' := fst_bd2 (yOf n + 1) (by omega) (by omega)
  clear hi hb0 hW0 hx es lp
  go_enter Tryd.func99, Tryd.ntmps99
  go_wp2_with fail
  rw [← HW0.out]
  refine (specDateN n W0 h0 h1).mono ?_
  rintro e w1 ⟨rfl, b1⟩
  obtain ⟨W2, hW2⟩ : ∃ W2, W2 = w1.alloc (.cells #[.int .i64 (yOf n), .int .i64 (mOf n), .int .i64 (dOf n)] 35) := ⟨_, rfl⟩
  have hb2 : Below W0.heap.size W0 W2 := by rw [hW2]; exact b1.alloc b1.size _
  have HB2 : Hid (Below w.heap.size w W2) := bstep HB0.out hb2
  have HC2 : Hid (CB W2 w.heap.size r m) := HC0.out.on (hb2.block _ HC0.out.lt)
  have HI2 : Hid (IsTurns W2 m.a0 r.ds) := HI0.out.below (B := 0) hb2
  have HW2 : Hid (W2 = w1.alloc (.cells #[.int .i64 (yOf n), .int .i64 (mOf n), .int .i64 (dOf n)] 35)) := hW2
  obtain ⟨b0, _, _, _, b4, _, b6, _, _⟩ := HC0.out.on (b1.block _ HC0.out.lt)
  have hrl := cell_lt b0
  clear hb2 b1 hW2
  obtain ⟨P, hPe⟩ : ∃ P, P = pastB (inMo r) n := ⟨_, rfl⟩
  obtain ⟨Q, hQe⟩ : ∃ Q, Q = leftB (inMo r) n := ⟨_, rfl⟩
  have hPQ := left_bd (inMo r) h0 h1
  rw [← hPe, ← hQe] at hPQ
  have hP : 0 ≤ P ∧ P ≤ 366 := ⟨hPQ.1, hPQ.2.1⟩
  have hQ : 0 ≤ Q ∧ Q ≤ 366 := hPQ.2.2
  have HDF : Hid (dfB r n = anyBy n (P / 7 + 1) (-(Q / 7 + 1)) r.ds) := by unfold Hid; rw [dfB_any, hPe, hQe]
  have HPE : Hid (P = pastB (inMo r) n) := hPe
  have HQE : Hid (Q = leftB (inMo r) n) := hQe
  clear hPe hQe hPQ
  by_cases h3 : r.f = 3
  · have HPL : Hid (n - (n - dOf n + 1) = P ∧ (n - dOf n + 1 + dim (yOf n) (mOf n) - 1) - n = Q) := by unfold Hid; rw [HPE.out, HQE.out, show inMo r = true from decide_eq_true (.inl h3)]; unfold pastB leftB; simp; omega
    go_wp2_with (first | (go_at_call 81; refine (specFirst _ _ (by omega) (by omega)).mono ?_; rintro e w' ⟨rfl, rfl⟩) | (go_at_call 80; refine (specDays _ _ _ (by omega) (by omega) (by omega) (by omega)).mono ?_; rintro e w' ⟨rfl, rfl⟩))
    rw [← HW2.out]
    clear b0 b4 b6
    go_loopw [8] (fun i wr => ∃ k : Nat, k ≤ r.ds.length ∧ i = .int .i64 k ∧ Below W2.heap.size W2 wr ∧ ∀ j, j < k → byC n (P / 7 + 1) (-(Q / 7 + 1)) (tAt r.ds j) (tSh r.ds j) = false) (fun i _ => r.ds.length - (intOf i).toNat)
    case atStart => exact ⟨0, by omega, rfl, Below.refl _ _, fun j hj => by omega⟩
    case round =>
      obtain ⟨k, hk, rfl, hb, hno⟩ := hrel
      have HN : Hid (∀ j, j < k → byC n (P / 7 + 1) (-(Q / 7 + 1)) (tAt r.ds j) (tSh r.ds j) = false) := hno
      have HB : Hid (Below W2.heap.size W2 wr) := hb
      have HBw : Hid (Below w.heap.size w wr) := bstep HB2.out hb
      have c4 := (HC2.out.on (hb.block _ HC2.out.lt)).2.2.2.2.1
      have hcl := cell_lt c4
      clear hno
      by_cases hlt : k < r.ds.length
      · have G1 := HI2.out
        rcases G1 with G1 | ⟨b, o, he, hbs, hc⟩
        · rw [G1] at hlt; simp at hlt
        obtain ⟨d0, d1⟩ := hc k hlt
        rw [← hb.cell (p := ⟨b, o + k * 2, none⟩) hbs] at d0
        rw [← hb.cell (p := ⟨b, o + k * 2 + 1, none⟩) hbs] at d1
        rw [he] at c4
        obtain ⟨x, hx⟩ : ∃ x, x = tAt r.ds k := ⟨_, rfl⟩
        obtain ⟨y, hy⟩ : ∃ y, y = tSh r.ds k := ⟨_, rfl⟩
        rw [← hx] at d0
        rw [← hy] at d1
        have HX : Hid (x = tAt r.ds k) := hx
        have HY : Hid (y = tSh r.ds k) := hy
        have hxb := HXB.out k hlt
        rw [← hx] at hxb
        clear hc hx hy hb he
        have hi1 : (k : Int) < (r.ds.length : Int) := by omega
        have hi0 : (0 : Int) ≤ (k : Int) := by omega
        have FIN : Hid (∀ w3 q, w3 = (wr.alloc (.cells #[.int .i64 x, .int .i64 y] 38)).drewN q ∨ w3 = wr.alloc (.cells #[.int .i64 x, .int .i64 y] 38) → Below W2.heap.size W2 w3) := fun w3 q h => by
          rcases h with rfl | rfl
          · exact Below.drewN' (HB.out.alloc HB.out.size _) q
          · exact HB.out.alloc HB.out.size _
        by_cases e1 : y = n % 7
        · subst e1
          by_cases e2 : x = 0
          · subst e2
            go_wp2
            go_ret
            refine ⟨ret_b ?_, bstep HB2.out (FIN.out _ 0 (.inr rfl))⟩
            rw [HDF.out, any_yes hlt (by rw [← HX.out, ← HY.out]; unfold byC; simp)]
          · cases hv : nthV P Q x with
            | true =>
              have HV : Hid (nthV P Q x = true) := hv
              go_wp2_with (go_at_call 102; refine (specNthR n _ _ x _ P Q (by have := HPL.out; omega) (by have := HPL.out; omega) hP.1 hP.2 hQ.1 hQ.2 h0 h1 hxb.1 hxb.2).mono ?_; rintro e w' ⟨rfl, rfl⟩; rw [HV.out])
              go_ret
              refine ⟨ret_b ?_, bstep HB2.out (FIN.out _ 0 (.inr rfl))⟩
              rw [HDF.out, any_yes hlt (by rw [← HX.out, ← HY.out, nth_byV hP.1 hQ.1 e2]; exact HV.out)]
            | false =>
              have HV : Hid (nthV P Q x = false) := hv
              go_wp2_with (go_at_call 102; refine (specNthR n _ _ x _ P Q (by have := HPL.out; omega) (by have := HPL.out; omega) hP.1 hP.2 hQ.1 hQ.2 h0 h1 hxb.1 hxb.2).mono ?_; rintro e w' ⟨rfl, rfl⟩; rw [HV.out])
              go_roundw
              case rel => exact ⟨k + 1, by omega, by go_num, FIN.out _ 0 (.inr rfl), fun j hj => by
                rcases Nat.lt_or_ge j k with h' | h'
                · exact HN.out j h'
                · have : j = k := by omega
                  subst this; rw [← HX.out, ← HY.out, nth_byV hP.1 hQ.1 e2]; exact HV.out⟩
              case measure => simp [intOf]; omega
        · go_wp2
          go_roundw
          case rel => exact ⟨k + 1, by omega, by go_num, FIN.out _ 0 (.inr rfl), fun j hj => by
            rcases Nat.lt_or_ge j k with h' | h'
            · exact HN.out j h'
            · have : j = k := by omega
              subst this; rw [← HX.out, ← HY.out]; unfold byC; simp [e1]⟩
          case measure => simp [intOf]; omega
      · have : k = r.ds.length := by omega
        subst this
        clear hb
        go_wp2
        go_ret
        refine ⟨ret_b ?_, HBw.out⟩
        rw [HDF.out, any_no HN.out]
  · by_cases hmo : 0 < r.mo.length
    · have HPL : Hid (n - (n - dOf n + 1) = P ∧ (n - dOf n + 1 + dim (yOf n) (mOf n) - 1) - n = Q) := by unfold Hid; rw [HPE.out, HQE.out, show inMo r = true from decide_eq_true (.inr hmo)]; unfold pastB leftB; simp; omega
      have hmo' : 0 < (r.mo.length : Int) := by omega
      go_wp2_with (first | (go_at_call 81; refine (specFirst _ _ (by omega) (by omega)).mono ?_; rintro e w' ⟨rfl, rfl⟩) | (go_at_call 80; refine (specDays _ _ _ (by omega) (by omega) (by omega) (by omega)).mono ?_; rintro e w' ⟨rfl, rfl⟩))
      rw [← HW2.out]
      clear b0 b4 b6
      go_loopw [8] (fun i wr => ∃ k : Nat, k ≤ r.ds.length ∧ i = .int .i64 k ∧ Below W2.heap.size W2 wr ∧ ∀ j, j < k → byC n (P / 7 + 1) (-(Q / 7 + 1)) (tAt r.ds j) (tSh r.ds j) = false) (fun i _ => r.ds.length - (intOf i).toNat)
      case atStart => exact ⟨0, by omega, rfl, Below.refl _ _, fun j hj => by omega⟩
      case round =>
        obtain ⟨k, hk, rfl, hb, hno⟩ := hrel
        have HN : Hid (∀ j, j < k → byC n (P / 7 + 1) (-(Q / 7 + 1)) (tAt r.ds j) (tSh r.ds j) = false) := hno
        have HB : Hid (Below W2.heap.size W2 wr) := hb
        have HBw : Hid (Below w.heap.size w wr) := bstep HB2.out hb
        have c4 := (HC2.out.on (hb.block _ HC2.out.lt)).2.2.2.2.1
        have hcl := cell_lt c4
        clear hno
        by_cases hlt : k < r.ds.length
        · have G1 := HI2.out
          rcases G1 with G1 | ⟨b, o, he, hbs, hc⟩
          · rw [G1] at hlt; simp at hlt
          obtain ⟨d0, d1⟩ := hc k hlt
          rw [← hb.cell (p := ⟨b, o + k * 2, none⟩) hbs] at d0
          rw [← hb.cell (p := ⟨b, o + k * 2 + 1, none⟩) hbs] at d1
          rw [he] at c4
          obtain ⟨x, hx⟩ : ∃ x, x = tAt r.ds k := ⟨_, rfl⟩
          obtain ⟨y, hy⟩ : ∃ y, y = tSh r.ds k := ⟨_, rfl⟩
          rw [← hx] at d0
          rw [← hy] at d1
          have HX : Hid (x = tAt r.ds k) := hx
          have HY : Hid (y = tSh r.ds k) := hy
          have hxb := HXB.out k hlt
          rw [← hx] at hxb
          clear hc hx hy hb he
          have hi1 : (k : Int) < (r.ds.length : Int) := by omega
          have hi0 : (0 : Int) ≤ (k : Int) := by omega
          have FIN : Hid (∀ w3 q, w3 = (wr.alloc (.cells #[.int .i64 x, .int .i64 y] 38)).drewN q ∨ w3 = wr.alloc (.cells #[.int .i64 x, .int .i64 y] 38) → Below W2.heap.size W2 w3) := fun w3 q h => by
            rcases h with rfl | rfl
            · exact Below.drewN' (HB.out.alloc HB.out.size _) q
            · exact HB.out.alloc HB.out.size _
          by_cases e1 : y = n % 7
          · subst e1
            by_cases e2 : x = 0
            · subst e2
              go_wp2
              go_ret
              refine ⟨ret_b ?_, bstep HB2.out (FIN.out _ 0 (.inr rfl))⟩
              rw [HDF.out, any_yes hlt (by rw [← HX.out, ← HY.out]; unfold byC; simp)]
            · cases hv : nthV P Q x with
              | true =>
                have HV : Hid (nthV P Q x = true) := hv
                go_wp2_with (go_at_call 102; refine (specNthR n _ _ x _ P Q (by have := HPL.out; omega) (by have := HPL.out; omega) hP.1 hP.2 hQ.1 hQ.2 h0 h1 hxb.1 hxb.2).mono ?_; rintro e w' ⟨rfl, rfl⟩; rw [HV.out])
                go_ret
                refine ⟨ret_b ?_, bstep HB2.out (FIN.out _ 0 (.inr rfl))⟩
                rw [HDF.out, any_yes hlt (by rw [← HX.out, ← HY.out, nth_byV hP.1 hQ.1 e2]; exact HV.out)]
              | false =>
                have HV : Hid (nthV P Q x = false) := hv
                go_wp2_with (go_at_call 102; refine (specNthR n _ _ x _ P Q (by have := HPL.out; omega) (by have := HPL.out; omega) hP.1 hP.2 hQ.1 hQ.2 h0 h1 hxb.1 hxb.2).mono ?_; rintro e w' ⟨rfl, rfl⟩; rw [HV.out])
                go_roundw
                case rel => exact ⟨k + 1, by omega, by go_num, FIN.out _ 0 (.inr rfl), fun j hj => by
                  rcases Nat.lt_or_ge j k with h' | h'
                  · exact HN.out j h'
                  · have : j = k := by omega
                    subst this; rw [← HX.out, ← HY.out, nth_byV hP.1 hQ.1 e2]; exact HV.out⟩
                case measure => simp [intOf]; omega
          · go_wp2
            go_roundw
            case rel => exact ⟨k + 1, by omega, by go_num, FIN.out _ 0 (.inr rfl), fun j hj => by
              rcases Nat.lt_or_ge j k with h' | h'
              · exact HN.out j h'
              · have : j = k := by omega
                subst this; rw [← HX.out, ← HY.out]; unfold byC; simp [e1]⟩
            case measure => simp [intOf]; omega
        · have : k = r.ds.length := by omega
          subst this
          clear hb
          go_wp2
          go_ret
          refine ⟨ret_b ?_, HBw.out⟩
          rw [HDF.out, any_no HN.out]
    · have HPL : Hid (n - (fst (yOf n)) = P ∧ (fst (yOf n + 1) - 1) - n = Q) := by unfold Hid; rw [HPE.out, HQE.out, show inMo r = false from decide_eq_false (fun h => by rcases h with h | h; exact h3 h; exact hmo h)]; unfold pastB leftB; simp; omega
      have hmo' : ¬ 0 < (r.mo.length : Int) := by omega
      have hq : (r.f == 3) = false := by simpa using h3
      go_wp2_with (first | (go_at_call 81; refine (specFirst _ _ (by omega) (by omega)).mono ?_; rintro e w' ⟨rfl, rfl⟩) | (go_at_call 80; refine (specDays _ _ _ (by omega) (by omega) (by omega) (by omega)).mono ?_; rintro e w' ⟨rfl, rfl⟩))
      rw [← HW2.out]
      clear b0 b4 b6 h3 hmo hmo' hq
      go_loopw [8] (fun i wr => ∃ k : Nat, k ≤ r.ds.length ∧ i = .int .i64 k ∧ Below W2.heap.size W2 wr ∧ ∀ j, j < k → byC n (P / 7 + 1) (-(Q / 7 + 1)) (tAt r.ds j) (tSh r.ds j) = false) (fun i _ => r.ds.length - (intOf i).toNat)
      case atStart => exact ⟨0, by omega, rfl, Below.refl _ _, fun j hj => by omega⟩
      case round =>
        obtain ⟨k, hk, rfl, hb, hno⟩ := hrel
        have HN : Hid (∀ j, j < k → byC n (P / 7 + 1) (-(Q / 7 + 1)) (tAt r.ds j) (tSh r.ds j) = false) := hno
        have HB : Hid (Below W2.heap.size W2 wr) := hb
        have HBw : Hid (Below w.heap.size w wr) := bstep HB2.out hb
        have c4 := (HC2.out.on (hb.block _ HC2.out.lt)).2.2.2.2.1
        have hcl := cell_lt c4
        clear hno
        by_cases hlt : k < r.ds.length
        · have G1 := HI2.out
          rcases G1 with G1 | ⟨b, o, he, hbs, hc⟩
          · rw [G1] at hlt; simp at hlt
          obtain ⟨d0, d1⟩ := hc k hlt
          rw [← hb.cell (p := ⟨b, o + k * 2, none⟩) hbs] at d0
          rw [← hb.cell (p := ⟨b, o + k * 2 + 1, none⟩) hbs] at d1
          rw [he] at c4
          obtain ⟨x, hx⟩ : ∃ x, x = tAt r.ds k := ⟨_, rfl⟩
          obtain ⟨y, hy⟩ : ∃ y, y = tSh r.ds k := ⟨_, rfl⟩
          rw [← hx] at d0
          rw [← hy] at d1
          have HX : Hid (x = tAt r.ds k) := hx
          have HY : Hid (y = tSh r.ds k) := hy
          have hxb := HXB.out k hlt
          rw [← hx] at hxb
          clear hc hx hy hb he
          have hi1 : (k : Int) < (r.ds.length : Int) := by omega
          have hi0 : (0 : Int) ≤ (k : Int) := by omega
          have FIN : Hid (∀ w3 q, w3 = (wr.alloc (.cells #[.int .i64 x, .int .i64 y] 38)).drewN q ∨ w3 = wr.alloc (.cells #[.int .i64 x, .int .i64 y] 38) → Below W2.heap.size W2 w3) := fun w3 q h => by
            rcases h with rfl | rfl
            · exact Below.drewN' (HB.out.alloc HB.out.size _) q
            · exact HB.out.alloc HB.out.size _
          by_cases e1 : y = n % 7
          · subst e1
            by_cases e2 : x = 0
            · subst e2
              go_wp2
              go_ret
              refine ⟨ret_b ?_, bstep HB2.out (FIN.out _ 0 (.inr rfl))⟩
              rw [HDF.out, any_yes hlt (by rw [← HX.out, ← HY.out]; unfold byC; simp)]
            · cases hv : nthV P Q x with
              | true =>
                have HV : Hid (nthV P Q x = true) := hv
                go_wp2_with (go_at_call 102; refine (specNthR n _ _ x _ P Q (by have := HPL.out; omega) (by have := HPL.out; omega) hP.1 hP.2 hQ.1 hQ.2 h0 h1 hxb.1 hxb.2).mono ?_; rintro e w' ⟨rfl, rfl⟩; rw [HV.out])
                go_ret
                refine ⟨ret_b ?_, bstep HB2.out (FIN.out _ 0 (.inr rfl))⟩
                rw [HDF.out, any_yes hlt (by rw [← HX.out, ← HY.out, nth_byV hP.1 hQ.1 e2]; exact HV.out)]
              | false =>
                have HV : Hid (nthV P Q x = false) := hv
                go_wp2_with (go_at_call 102; refine (specNthR n _ _ x _ P Q (by have := HPL.out; omega) (by have := HPL.out; omega) hP.1 hP.2 hQ.1 hQ.2 h0 h1 hxb.1 hxb.2).mono ?_; rintro e w' ⟨rfl, rfl⟩; rw [HV.out])
                go_roundw
                case rel => exact ⟨k + 1, by omega, by go_num, FIN.out _ 0 (.inr rfl), fun j hj => by
                  rcases Nat.lt_or_ge j k with h' | h'
                  · exact HN.out j h'
                  · have : j = k := by omega
                    subst this; rw [← HX.out, ← HY.out, nth_byV hP.1 hQ.1 e2]; exact HV.out⟩
                case measure => simp [intOf]; omega
          · go_wp2
            go_roundw
            case rel => exact ⟨k + 1, by omega, by go_num, FIN.out _ 0 (.inr rfl), fun j hj => by
              rcases Nat.lt_or_ge j k with h' | h'
              · exact HN.out j h'
              · have : j = k := by omega
                subst this; rw [← HX.out, ← HY.out]; unfold byC; simp [e1]⟩
            case measure => simp [intOf]; omega
        · have : k = r.ds.length := by omega
          subst this
          clear hb
          go_wp2
          go_ret
          refine ⟨ret_b ?_, HBw.out⟩
          rw [HDF.out, any_no HN.out]
end Go.Proofs.YtlfglhpepoepcaaDoor
namespace Go.Proofs.YtlfglhpepoepcaaDoor
open Go.RowKit Go.Shelf
set_option linter.unusedVariables false

theorem fit_no1 {r : Rl} {s n : Int} (h : 0 < r.mo.length) (hb : hasI r.mo (mOf n) = false) : fitB r s n = false := by
  unfold fitB; rw [decide_eq_false (show ¬ r.mo.length = 0 by omega), hb]; rfl
theorem fit_no2 {r : Rl} {s n : Int} (h : 0 < r.da.length) (hb : dtB r n = false) : fitB r s n = false := by
  unfold fitB; rw [decide_eq_false (show ¬ r.da.length = 0 by omega), hb]; simp
theorem fit_no3 {r : Rl} {s n : Int} (h : 0 < r.ds.length) (hb : dfB r n = false) : fitB r s n = false := by
  unfold fitB; rw [decide_eq_false (show ¬ r.ds.length = 0 by omega), hb]; simp
theorem fit_yes {r : Rl} {s n : Int} (h1 : r.mo.length = 0 ∨ hasI r.mo (mOf n) = true) (h2 : r.da.length = 0 ∨ dtB r n = true) (h3 : r.ds.length = 0 ∨ dfB r n = true) :
    fitB r s n = (decide (0 < r.ds.length ∨ 0 < r.da.length) || ownB r s n) := by
  have e1 : (decide (r.mo.length = 0) || hasI r.mo (mOf n)) = true := by rcases h1 with h | h <;> simp [h]
  have e2 : (decide (r.da.length = 0) || dtB r n) = true := by rcases h2 with h | h <;> simp [h]
  have e3 : (decide (r.ds.length = 0) || dfB r n) = true := by rcases h3 with h | h <;> simp [h]
  unfold fitB; rw [e1, e2, e3]; simp
set_option maxRecDepth 100000 in
set_option maxHeartbeats 16000000 in
theorem specFitsF (f : Int) (r : Rl) (hf : r.f = f) (f0 : 1 ≤ f) (f1 : f ≤ 4) (m : Rm) (s n : Int) (w : World) (hm : RMem w r m) (hl0 : r.ds.length ≤ 8) (hl1 : r.da.length ≤ 8) (hl2 : r.mo.length ≤ 8) (hx : ∀ j, j < r.ds.length → -1000 ≤ tAt r.ds j ∧ tAt r.ds j ≤ 1000)
    (s0 : 0 ≤ s) (s1 : s ≤ 3652058) (h0 : 0 ≤ n) (h1 : n ≤ 3652058) :
    Calls Tryd.prog 82 #[.agg #[.int .i64 f, .int .i64 r.ev, .int .i64 r.ct, .int .i64 r.un, .slice m.a0 r.ds.length m.c0, .slice m.a1 r.da.length m.c1, .slice m.a2 r.mo.length m.c2, .slice m.a3 r.pl.length m.c3, .int .i64 r.wk], .int .i64 s, .int .i64 n] w fun e w' => e = .returned (.bool (fitB r s n)) ∧ Below w.heap.size w w' := by
  obtain ⟨W0, hW0⟩ : ∃ W0, W0 = w.alloc (.cells #[.int .i64 r.f, .int .i64 r.ev, .int .i64 r.ct, .int .i64 r.un, .slice m.a0 r.ds.length m.c0, .slice m.a1 r.da.length m.c1, .slice m.a2 r.mo.length m.c2, .slice m.a3 r.pl.length m.c3, .int .i64 r.wk] 26) := ⟨_, rfl⟩
  have hb0 : Below w.heap.size w W0 := by rw [hW0]; exact (Below.refl _ w).alloc (Nat.le_refl _) _
  have HC0 : Hid (CB W0 w.heap.size r m) := by unfold Hid; rw [hW0]; exact CB.new w r m _
  have HW0 : Hid (W0 = w.alloc (.cells #[.int .i64 r.f, .int .i64 r.ev, .int .i64 r.ct, .int .i64 r.un, .slice m.a0 r.ds.length m.c0, .slice m.a1 r.da.length m.c1, .slice m.a2 r.mo.length m.c2, .slice m.a3 r.pl.length m.c3, .int .i64 r.wk] 26)) := hW0
  have HB0 : Hid (Below w.heap.size w W0) := hb0
  have HM0 : Hid (RMem W0 r m) := hm.below hb0
  have HX : Hid (∀ j, j < r.ds.length → -1000 ≤ tAt r.ds j ∧ tAt r.ds j ≤ 1000) := hx
  have HF : Hid (r.f = f) := hf
  clear hW0 hb0 hm hx
  rw [← hf]
  clear hf
  go_enter Tryd.func82, Tryd.ntmps82
  go_wp2_with fail
  rw [← HW0.out]
  refine (specDateN n W0 h0 h1).mono ?_
  rintro e w1 ⟨rfl, b1⟩
  go_wp2_with fail
  obtain ⟨W2, hW2⟩ : ∃ W2, W2 = w1.alloc (.cells #[.int .i64 (yOf n), .int .i64 (mOf n), .int .i64 (dOf n)] 35) := ⟨_, rfl⟩
  have hb2 : Below W0.heap.size W0 W2 := by rw [hW2]; exact b1.alloc b1.size _
  have hc2 : CF W2 w1.heap.size #[.int .i64 (yOf n), .int .i64 (mOf n), .int .i64 (dOf n)] := by rw [hW2]; exact CF.new _ _ _
  rw [← hW2]
  refine (specDateN s W2 s0 s1).mono ?_
  rintro e w3 ⟨rfl, b3⟩
  obtain ⟨W4, hW4⟩ : ∃ W4, W4 = w3.alloc (.cells #[.int .i64 (yOf s), .int .i64 (mOf s), .int .i64 (dOf s)] 35) := ⟨_, rfl⟩
  have hb4 : Below W2.heap.size W2 W4 := by rw [hW4]; exact b3.alloc b3.size _
  have hc4 : CF W4 w3.heap.size #[.int .i64 (yOf s), .int .i64 (mOf s), .int .i64 (dOf s)] := by rw [hW4]; exact CF.new _ _ _
  have hb04 := bstep hb2 hb4
  have HB4 : Hid (Below w.heap.size w W4) := bstep HB0.out hb04
  have HM4 : Hid (RMem W4 r m) := HM0.out.below hb04
  have hcn := hc2.below hb4
  have HCN : Hid (CF W4 w1.heap.size #[.int .i64 (yOf n), .int .i64 (mOf n), .int .i64 (dOf n)]) := hcn
  have HCS : Hid (CF W4 w3.heap.size #[.int .i64 (yOf s), .int .i64 (mOf s), .int .i64 (dOf s)]) := hc4
  have HCB : Hid (CB W4 w.heap.size r m) := HC0.out.on (hb04.block _ HC0.out.lt)
  -- up to the big condition: the date's box is laid
  have HW4 : Hid (W4 = w3.alloc (.cells #[.int .i64 (yOf s), .int .i64 (mOf s), .int .i64 (dOf s)] 35)) := hW4
  have hcb3 : CB w3 w.heap.size r m := HC0.out.on ((bstep hb2 b3).block _ HC0.out.lt)
  have hcn3 := hc2.below b3
  obtain ⟨y0, y1, y2, y3, y4, y5, y6, y7, y8⟩ := hcb3
  obtain ⟨d0, _⟩ := hcn3.2 0 _ rfl
  obtain ⟨d1, _⟩ := hcn3.2 1 _ rfl
  obtain ⟨d2, _⟩ := hcn3.2 2 _ rfl
  have yl := cell_lt y0
  have dl := cell_lt d0
  clear hb2 hb4 hc2 hc4 hcn hb04 hW2 hW4 b1 b3 hcn3
  by_cases hmo : 0 < r.mo.length
  · cases hb1 : hasI r.mo (mOf n) with
    | true =>
      go_wp2_with fail
      rw [← HW4.out]
      refine ((specHas _ _ _ _ W4 HM4.out.o (by omega) _ hb1).mono (fun e w' h => (⟨h.1, by rw [h.2]; exact Below.refl _ _⟩ : e = .returned (.bool true) ∧ Below W4.heap.size W4 w'))).mono ?_
      rintro e w5 ⟨rfl, bb5⟩
      have HBX : Hid (Below W4.heap.size W4 w5) := bb5
      clear bb5
      clear y0 y1 y2 y3 y4 y5 y6 y7 y8 d0 d1 d2
      obtain ⟨y0, y1, y2, y3, y4, y5, y6, y7, y8⟩ := HCB.out.on (HBX.out.block _ HCB.out.lt)
      obtain ⟨d0, _⟩ := (HCN.out.below HBX.out).2 0 _ rfl
      obtain ⟨d1, _⟩ := (HCN.out.below HBX.out).2 1 _ rfl
      obtain ⟨d2, _⟩ := (HCN.out.below HBX.out).2 2 _ rfl
      obtain ⟨e0, _⟩ := (HCS.out.below HBX.out).2 0 _ rfl
      obtain ⟨e1, _⟩ := (HCS.out.below HBX.out).2 1 _ rfl
      obtain ⟨e2, _⟩ := (HCS.out.below HBX.out).2 2 _ rfl
      by_cases hda : 0 < r.da.length
      · cases hb2 : dtB r n with
        | true =>
          go_wp2_with fail
          refine (specDateFits r m n w5 ((HM4.out.below HBX.out).d) hl1 h0 h1).mono ?_
          rintro e w6 ⟨rfl, bb6⟩
          rw [hb2]
          replace HBX : Hid (Below W4.heap.size W4 w6) := bstep HBX.out bb6
          clear bb6
          clear y0 y1 y2 y3 y4 y5 y6 y7 y8 d0 d1 d2 e0 e1 e2
          obtain ⟨y0, y1, y2, y3, y4, y5, y6, y7, y8⟩ := HCB.out.on (HBX.out.block _ HCB.out.lt)
          obtain ⟨d0, _⟩ := (HCN.out.below HBX.out).2 0 _ rfl
          obtain ⟨d1, _⟩ := (HCN.out.below HBX.out).2 1 _ rfl
          obtain ⟨d2, _⟩ := (HCN.out.below HBX.out).2 2 _ rfl
          obtain ⟨e0, _⟩ := (HCS.out.below HBX.out).2 0 _ rfl
          obtain ⟨e1, _⟩ := (HCS.out.below HBX.out).2 1 _ rfl
          obtain ⟨e2, _⟩ := (HCS.out.below HBX.out).2 2 _ rfl
          by_cases hds : 0 < r.ds.length
          · cases hb3 : dfB r n with
            | true =>
              go_wp2_with fail
              refine (specDayFits r m n w6 ((HM4.out.below HBX.out).t) hl0 HX.out h0 h1).mono ?_
              rintro e w7 ⟨rfl, bb7⟩
              rw [hb3]
              replace HBX : Hid (Below W4.heap.size W4 w7) := bstep HBX.out bb7
              clear bb7
              clear y0 y1 y2 y3 y4 y5 y6 y7 y8 d0 d1 d2 e0 e1 e2
              obtain ⟨y0, y1, y2, y3, y4, y5, y6, y7, y8⟩ := HCB.out.on (HBX.out.block _ HCB.out.lt)
              obtain ⟨d0, _⟩ := (HCN.out.below HBX.out).2 0 _ rfl
              obtain ⟨d1, _⟩ := (HCN.out.below HBX.out).2 1 _ rfl
              obtain ⟨d2, _⟩ := (HCN.out.below HBX.out).2 2 _ rfl
              obtain ⟨e0, _⟩ := (HCS.out.below HBX.out).2 0 _ rfl
              obtain ⟨e1, _⟩ := (HCS.out.below HBX.out).2 1 _ rfl
              obtain ⟨e2, _⟩ := (HCS.out.below HBX.out).2 2 _ rfl
              go_wp2
              go_ret
              exact ⟨ret_b (by rw [fit_yes (.inr hb1) (.inr hb2) (.inr hb3), decide_eq_true (.inl hds)]; rfl), bstep HB4.out HBX.out⟩
            | false =>
              go_wp2_with fail
              refine (specDayFits r m n w6 ((HM4.out.below HBX.out).t) hl0 HX.out h0 h1).mono ?_
              rintro e w7 ⟨rfl, bb7⟩
              rw [hb3]
              replace HBX : Hid (Below W4.heap.size W4 w7) := bstep HBX.out bb7
              clear bb7
              clear y0 y1 y2 y3 y4 y5 y6 y7 y8 d0 d1 d2 e0 e1 e2
              obtain ⟨y0, y1, y2, y3, y4, y5, y6, y7, y8⟩ := HCB.out.on (HBX.out.block _ HCB.out.lt)
              obtain ⟨d0, _⟩ := (HCN.out.below HBX.out).2 0 _ rfl
              obtain ⟨d1, _⟩ := (HCN.out.below HBX.out).2 1 _ rfl
              obtain ⟨d2, _⟩ := (HCN.out.below HBX.out).2 2 _ rfl
              obtain ⟨e0, _⟩ := (HCS.out.below HBX.out).2 0 _ rfl
              obtain ⟨e1, _⟩ := (HCS.out.below HBX.out).2 1 _ rfl
              obtain ⟨e2, _⟩ := (HCS.out.below HBX.out).2 2 _ rfl
              go_wp2
              go_ret
              exact ⟨ret_b (by rw [fit_no3 hds hb3]), bstep HB4.out HBX.out⟩
          · skip
            go_wp2
            go_ret
            exact ⟨ret_b (by rw [fit_yes (.inr hb1) (.inr hb2) (.inl (by omega)), decide_eq_true (.inr hda)]; rfl), bstep HB4.out HBX.out⟩
        | false =>
          go_wp2_with fail
          refine (specDateFits r m n w5 ((HM4.out.below HBX.out).d) hl1 h0 h1).mono ?_
          rintro e w6 ⟨rfl, bb6⟩
          rw [hb2]
          replace HBX : Hid (Below W4.heap.size W4 w6) := bstep HBX.out bb6
          clear bb6
          clear y0 y1 y2 y3 y4 y5 y6 y7 y8 d0 d1 d2 e0 e1 e2
          obtain ⟨y0, y1, y2, y3, y4, y5, y6, y7, y8⟩ := HCB.out.on (HBX.out.block _ HCB.out.lt)
          obtain ⟨d0, _⟩ := (HCN.out.below HBX.out).2 0 _ rfl
          obtain ⟨d1, _⟩ := (HCN.out.below HBX.out).2 1 _ rfl
          obtain ⟨d2, _⟩ := (HCN.out.below HBX.out).2 2 _ rfl
          obtain ⟨e0, _⟩ := (HCS.out.below HBX.out).2 0 _ rfl
          obtain ⟨e1, _⟩ := (HCS.out.below HBX.out).2 1 _ rfl
          obtain ⟨e2, _⟩ := (HCS.out.below HBX.out).2 2 _ rfl
          go_wp2
          go_ret
          exact ⟨ret_b (by rw [fit_no2 hda hb2]), bstep HB4.out HBX.out⟩
      · skip
        by_cases hds : 0 < r.ds.length
        · cases hb3 : dfB r n with
          | true =>
            go_wp2_with fail
            refine (specDayFits r m n w5 ((HM4.out.below HBX.out).t) hl0 HX.out h0 h1).mono ?_
            rintro e w6 ⟨rfl, bb6⟩
            rw [hb3]
            replace HBX : Hid (Below W4.heap.size W4 w6) := bstep HBX.out bb6
            clear bb6
            clear y0 y1 y2 y3 y4 y5 y6 y7 y8 d0 d1 d2 e0 e1 e2
            obtain ⟨y0, y1, y2, y3, y4, y5, y6, y7, y8⟩ := HCB.out.on (HBX.out.block _ HCB.out.lt)
            obtain ⟨d0, _⟩ := (HCN.out.below HBX.out).2 0 _ rfl
            obtain ⟨d1, _⟩ := (HCN.out.below HBX.out).2 1 _ rfl
            obtain ⟨d2, _⟩ := (HCN.out.below HBX.out).2 2 _ rfl
            obtain ⟨e0, _⟩ := (HCS.out.below HBX.out).2 0 _ rfl
            obtain ⟨e1, _⟩ := (HCS.out.below HBX.out).2 1 _ rfl
            obtain ⟨e2, _⟩ := (HCS.out.below HBX.out).2 2 _ rfl
            go_wp2
            go_ret
            exact ⟨ret_b (by rw [fit_yes (.inr hb1) (.inl (by omega)) (.inr hb3), decide_eq_true (.inl hds)]; rfl), bstep HB4.out HBX.out⟩
          | false =>
            go_wp2_with fail
            refine (specDayFits r m n w5 ((HM4.out.below HBX.out).t) hl0 HX.out h0 h1).mono ?_
            rintro e w6 ⟨rfl, bb6⟩
            rw [hb3]
            replace HBX : Hid (Below W4.heap.size W4 w6) := bstep HBX.out bb6
            clear bb6
            clear y0 y1 y2 y3 y4 y5 y6 y7 y8 d0 d1 d2 e0 e1 e2
            obtain ⟨y0, y1, y2, y3, y4, y5, y6, y7, y8⟩ := HCB.out.on (HBX.out.block _ HCB.out.lt)
            obtain ⟨d0, _⟩ := (HCN.out.below HBX.out).2 0 _ rfl
            obtain ⟨d1, _⟩ := (HCN.out.below HBX.out).2 1 _ rfl
            obtain ⟨d2, _⟩ := (HCN.out.below HBX.out).2 2 _ rfl
            obtain ⟨e0, _⟩ := (HCS.out.below HBX.out).2 0 _ rfl
            obtain ⟨e1, _⟩ := (HCS.out.below HBX.out).2 1 _ rfl
            obtain ⟨e2, _⟩ := (HCS.out.below HBX.out).2 2 _ rfl
            go_wp2
            go_ret
            exact ⟨ret_b (by rw [fit_no3 hds hb3]), bstep HB4.out HBX.out⟩
        · skip
          have HE : Hid (fitB r s n = ownB r s n) := by unfold Hid; rw [fit_yes (.inr hb1) (.inl (by omega)) (.inl (by omega)), decide_eq_false (by omega)]; rfl
          have hds' : ¬ 0 < r.ds.length := hds
          have hda' : ¬ 0 < r.da.length := hda
          rcases four f0 f1 with rfl | rfl | rfl | rfl
          · have hf' : r.f = 1 := HF.out
            have HO : Hid (ownB r s n = true) := by unfold Hid ownB; rw [hf']; rfl
            go_wp2
            go_ret
            exact ⟨ret_b (by rw [HE.out, HO.out]; try rfl), bstep HB4.out HBX.out⟩
          · have hf' : r.f = 2 := HF.out
            have HO : Hid (ownB r s n = decide (n % 7 = s % 7)) := by unfold Hid ownB; rw [hf']; rfl
            go_wp2
            go_ret
            exact ⟨ret_b (by rw [HE.out, HO.out]; try rfl), bstep HB4.out HBX.out⟩
          · have hf' : r.f = 3 := HF.out
            have HO : Hid (ownB r s n = decide (dOf n = dOf s)) := by unfold Hid ownB; rw [hf']; rfl
            go_wp2
            go_ret
            exact ⟨ret_b (by rw [HE.out, HO.out]; try rfl), bstep HB4.out HBX.out⟩
          · have hf' : r.f = 4 := HF.out
            have HO : Hid (ownB r s n = decide (dOf n = dOf s ∧ (0 < r.mo.length ∨ mOf n = mOf s))) := by unfold Hid ownB; rw [hf']; rfl
            by_cases hdd : dOf n = dOf s
            · have HD : Hid (decide (dOf n = dOf s ∧ (0 < r.mo.length ∨ mOf n = mOf s)) = true) := by unfold Hid; simp [hdd, hmo]
              go_wp2
              go_ret
              exact ⟨ret_b (by rw [HE.out, HO.out, HD.out]; try rfl), bstep HB4.out HBX.out⟩
            · have HD : Hid (decide (dOf n = dOf s ∧ (0 < r.mo.length ∨ mOf n = mOf s)) = false) := by unfold Hid; simp [hdd]
              go_wp2
              go_ret
              exact ⟨ret_b (by rw [HE.out, HO.out, HD.out]; try rfl), bstep HB4.out HBX.out⟩
    | false =>
      go_wp2_with fail
      rw [← HW4.out]
      refine ((specHas _ _ _ _ W4 HM4.out.o (by omega) _ hb1).mono (fun e w' h => (⟨h.1, by rw [h.2]; exact Below.refl _ _⟩ : e = .returned (.bool false) ∧ Below W4.heap.size W4 w'))).mono ?_
      rintro e w5 ⟨rfl, bb5⟩
      have HBX : Hid (Below W4.heap.size W4 w5) := bb5
      clear bb5
      clear y0 y1 y2 y3 y4 y5 y6 y7 y8 d0 d1 d2
      obtain ⟨y0, y1, y2, y3, y4, y5, y6, y7, y8⟩ := HCB.out.on (HBX.out.block _ HCB.out.lt)
      obtain ⟨d0, _⟩ := (HCN.out.below HBX.out).2 0 _ rfl
      obtain ⟨d1, _⟩ := (HCN.out.below HBX.out).2 1 _ rfl
      obtain ⟨d2, _⟩ := (HCN.out.below HBX.out).2 2 _ rfl
      obtain ⟨e0, _⟩ := (HCS.out.below HBX.out).2 0 _ rfl
      obtain ⟨e1, _⟩ := (HCS.out.below HBX.out).2 1 _ rfl
      obtain ⟨e2, _⟩ := (HCS.out.below HBX.out).2 2 _ rfl
      go_wp2
      go_ret
      exact ⟨ret_b (by rw [fit_no1 hmo hb1]), bstep HB4.out HBX.out⟩
  · skip
    by_cases hda : 0 < r.da.length
    · cases hb2 : dtB r n with
      | true =>
        go_wp2_with fail
        rw [← HW4.out]
        refine (specDateFits r m n W4 (HM4.out.d) hl1 h0 h1).mono ?_
        rintro e w5 ⟨rfl, bb5⟩
        rw [hb2]
        have HBX : Hid (Below W4.heap.size W4 w5) := bb5
        clear bb5
        clear y0 y1 y2 y3 y4 y5 y6 y7 y8 d0 d1 d2
        obtain ⟨y0, y1, y2, y3, y4, y5, y6, y7, y8⟩ := HCB.out.on (HBX.out.block _ HCB.out.lt)
        obtain ⟨d0, _⟩ := (HCN.out.below HBX.out).2 0 _ rfl
        obtain ⟨d1, _⟩ := (HCN.out.below HBX.out).2 1 _ rfl
        obtain ⟨d2, _⟩ := (HCN.out.below HBX.out).2 2 _ rfl
        obtain ⟨e0, _⟩ := (HCS.out.below HBX.out).2 0 _ rfl
        obtain ⟨e1, _⟩ := (HCS.out.below HBX.out).2 1 _ rfl
        obtain ⟨e2, _⟩ := (HCS.out.below HBX.out).2 2 _ rfl
        by_cases hds : 0 < r.ds.length
        · cases hb3 : dfB r n with
          | true =>
            go_wp2_with fail
            refine (specDayFits r m n w5 ((HM4.out.below HBX.out).t) hl0 HX.out h0 h1).mono ?_
            rintro e w6 ⟨rfl, bb6⟩
            rw [hb3]
            replace HBX : Hid (Below W4.heap.size W4 w6) := bstep HBX.out bb6
            clear bb6
            clear y0 y1 y2 y3 y4 y5 y6 y7 y8 d0 d1 d2 e0 e1 e2
            obtain ⟨y0, y1, y2, y3, y4, y5, y6, y7, y8⟩ := HCB.out.on (HBX.out.block _ HCB.out.lt)
            obtain ⟨d0, _⟩ := (HCN.out.below HBX.out).2 0 _ rfl
            obtain ⟨d1, _⟩ := (HCN.out.below HBX.out).2 1 _ rfl
            obtain ⟨d2, _⟩ := (HCN.out.below HBX.out).2 2 _ rfl
            obtain ⟨e0, _⟩ := (HCS.out.below HBX.out).2 0 _ rfl
            obtain ⟨e1, _⟩ := (HCS.out.below HBX.out).2 1 _ rfl
            obtain ⟨e2, _⟩ := (HCS.out.below HBX.out).2 2 _ rfl
            go_wp2
            go_ret
            exact ⟨ret_b (by rw [fit_yes (.inl (by omega)) (.inr hb2) (.inr hb3), decide_eq_true (.inl hds)]; rfl), bstep HB4.out HBX.out⟩
          | false =>
            go_wp2_with fail
            refine (specDayFits r m n w5 ((HM4.out.below HBX.out).t) hl0 HX.out h0 h1).mono ?_
            rintro e w6 ⟨rfl, bb6⟩
            rw [hb3]
            replace HBX : Hid (Below W4.heap.size W4 w6) := bstep HBX.out bb6
            clear bb6
            clear y0 y1 y2 y3 y4 y5 y6 y7 y8 d0 d1 d2 e0 e1 e2
            obtain ⟨y0, y1, y2, y3, y4, y5, y6, y7, y8⟩ := HCB.out.on (HBX.out.block _ HCB.out.lt)
            obtain ⟨d0, _⟩ := (HCN.out.below HBX.out).2 0 _ rfl
            obtain ⟨d1, _⟩ := (HCN.out.below HBX.out).2 1 _ rfl
            obtain ⟨d2, _⟩ := (HCN.out.below HBX.out).2 2 _ rfl
            obtain ⟨e0, _⟩ := (HCS.out.below HBX.out).2 0 _ rfl
            obtain ⟨e1, _⟩ := (HCS.out.below HBX.out).2 1 _ rfl
            obtain ⟨e2, _⟩ := (HCS.out.below HBX.out).2 2 _ rfl
            go_wp2
            go_ret
            exact ⟨ret_b (by rw [fit_no3 hds hb3]), bstep HB4.out HBX.out⟩
        · skip
          go_wp2
          go_ret
          exact ⟨ret_b (by rw [fit_yes (.inl (by omega)) (.inr hb2) (.inl (by omega)), decide_eq_true (.inr hda)]; rfl), bstep HB4.out HBX.out⟩
      | false =>
        go_wp2_with fail
        rw [← HW4.out]
        refine (specDateFits r m n W4 (HM4.out.d) hl1 h0 h1).mono ?_
        rintro e w5 ⟨rfl, bb5⟩
        rw [hb2]
        have HBX : Hid (Below W4.heap.size W4 w5) := bb5
        clear bb5
        clear y0 y1 y2 y3 y4 y5 y6 y7 y8 d0 d1 d2
        obtain ⟨y0, y1, y2, y3, y4, y5, y6, y7, y8⟩ := HCB.out.on (HBX.out.block _ HCB.out.lt)
        obtain ⟨d0, _⟩ := (HCN.out.below HBX.out).2 0 _ rfl
        obtain ⟨d1, _⟩ := (HCN.out.below HBX.out).2 1 _ rfl
        obtain ⟨d2, _⟩ := (HCN.out.below HBX.out).2 2 _ rfl
        obtain ⟨e0, _⟩ := (HCS.out.below HBX.out).2 0 _ rfl
        obtain ⟨e1, _⟩ := (HCS.out.below HBX.out).2 1 _ rfl
        obtain ⟨e2, _⟩ := (HCS.out.below HBX.out).2 2 _ rfl
        go_wp2
        go_ret
        exact ⟨ret_b (by rw [fit_no2 hda hb2]), bstep HB4.out HBX.out⟩
    · skip
      by_cases hds : 0 < r.ds.length
      · cases hb3 : dfB r n with
        | true =>
          go_wp2_with fail
          rw [← HW4.out]
          refine (specDayFits r m n W4 (HM4.out.t) hl0 HX.out h0 h1).mono ?_
          rintro e w5 ⟨rfl, bb5⟩
          rw [hb3]
          have HBX : Hid (Below W4.heap.size W4 w5) := bb5
          clear bb5
          clear y0 y1 y2 y3 y4 y5 y6 y7 y8 d0 d1 d2
          obtain ⟨y0, y1, y2, y3, y4, y5, y6, y7, y8⟩ := HCB.out.on (HBX.out.block _ HCB.out.lt)
          obtain ⟨d0, _⟩ := (HCN.out.below HBX.out).2 0 _ rfl
          obtain ⟨d1, _⟩ := (HCN.out.below HBX.out).2 1 _ rfl
          obtain ⟨d2, _⟩ := (HCN.out.below HBX.out).2 2 _ rfl
          obtain ⟨e0, _⟩ := (HCS.out.below HBX.out).2 0 _ rfl
          obtain ⟨e1, _⟩ := (HCS.out.below HBX.out).2 1 _ rfl
          obtain ⟨e2, _⟩ := (HCS.out.below HBX.out).2 2 _ rfl
          go_wp2
          go_ret
          exact ⟨ret_b (by rw [fit_yes (.inl (by omega)) (.inl (by omega)) (.inr hb3), decide_eq_true (.inl hds)]; rfl), bstep HB4.out HBX.out⟩
        | false =>
          go_wp2_with fail
          rw [← HW4.out]
          refine (specDayFits r m n W4 (HM4.out.t) hl0 HX.out h0 h1).mono ?_
          rintro e w5 ⟨rfl, bb5⟩
          rw [hb3]
          have HBX : Hid (Below W4.heap.size W4 w5) := bb5
          clear bb5
          clear y0 y1 y2 y3 y4 y5 y6 y7 y8 d0 d1 d2
          obtain ⟨y0, y1, y2, y3, y4, y5, y6, y7, y8⟩ := HCB.out.on (HBX.out.block _ HCB.out.lt)
          obtain ⟨d0, _⟩ := (HCN.out.below HBX.out).2 0 _ rfl
          obtain ⟨d1, _⟩ := (HCN.out.below HBX.out).2 1 _ rfl
          obtain ⟨d2, _⟩ := (HCN.out.below HBX.out).2 2 _ rfl
          obtain ⟨e0, _⟩ := (HCS.out.below HBX.out).2 0 _ rfl
          obtain ⟨e1, _⟩ := (HCS.out.below HBX.out).2 1 _ rfl
          obtain ⟨e2, _⟩ := (HCS.out.below HBX.out).2 2 _ rfl
          go_wp2
          go_ret
          exact ⟨ret_b (by rw [fit_no3 hds hb3]), bstep HB4.out HBX.out⟩
      · skip
        have HE : Hid (fitB r s n = ownB r s n) := by unfold Hid; rw [fit_yes (.inl (by omega)) (.inl (by omega)) (.inl (by omega)), decide_eq_false (by omega)]; rfl
        have hds' : ¬ 0 < r.ds.length := hds
        have hda' : ¬ 0 < r.da.length := hda
        rcases four f0 f1 with rfl | rfl | rfl | rfl
        · have hf' : r.f = 1 := HF.out
          have HO : Hid (ownB r s n = true) := by unfold Hid ownB; rw [hf']; rfl
          go_wp2
          rw [← HW4.out]
          go_ret
          exact ⟨ret_b (by rw [HE.out, HO.out]; try rfl), HB4.out⟩
        · have hf' : r.f = 2 := HF.out
          have HO : Hid (ownB r s n = decide (n % 7 = s % 7)) := by unfold Hid ownB; rw [hf']; rfl
          go_wp2
          rw [← HW4.out]
          go_ret
          exact ⟨ret_b (by rw [HE.out, HO.out]; try rfl), HB4.out⟩
        · have hf' : r.f = 3 := HF.out
          have HO : Hid (ownB r s n = decide (dOf n = dOf s)) := by unfold Hid ownB; rw [hf']; rfl
          go_wp2
          rw [← HW4.out]
          go_ret
          exact ⟨ret_b (by rw [HE.out, HO.out]; try rfl), HB4.out⟩
        · have hf' : r.f = 4 := HF.out
          have HO : Hid (ownB r s n = decide (dOf n = dOf s ∧ (0 < r.mo.length ∨ mOf n = mOf s))) := by unfold Hid ownB; rw [hf']; rfl
          by_cases hdd : dOf n = dOf s
          · have HD : Hid (decide (dOf n = dOf s ∧ (0 < r.mo.length ∨ mOf n = mOf s)) = decide (mOf n = mOf s)) := by unfold Hid; simp [hdd, hmo]
            go_wp2
            rw [← HW4.out]
            go_ret
            exact ⟨ret_b (by rw [HE.out, HO.out, HD.out]; try rfl), HB4.out⟩
          · have HD : Hid (decide (dOf n = dOf s ∧ (0 < r.mo.length ∨ mOf n = mOf s)) = false) := by unfold Hid; simp [hdd]
            go_wp2
            rw [← HW4.out]
            go_ret
            exact ⟨ret_b (by rw [HE.out, HO.out, HD.out]; try rfl), HB4.out⟩
theorem specFits (r : Rl) (m : Rm) (s n : Int) (w : World) (hr : ROk r) (hm : RMem w r m) (hl0 : r.ds.length ≤ 8) (hl1 : r.da.length ≤ 8) (hl2 : r.mo.length ≤ 8) (hx : ∀ j, j < r.ds.length → -1000 ≤ tAt r.ds j ∧ tAt r.ds j ≤ 1000)
    (s0 : 0 ≤ s) (s1 : s ≤ 3652058) (h0 : 0 ≤ n) (h1 : n ≤ 3652058) :
    Calls Tryd.prog 82 #[.agg #[.int .i64 r.f, .int .i64 r.ev, .int .i64 r.ct, .int .i64 r.un, .slice m.a0 r.ds.length m.c0, .slice m.a1 r.da.length m.c1, .slice m.a2 r.mo.length m.c2, .slice m.a3 r.pl.length m.c3, .int .i64 r.wk], .int .i64 s, .int .i64 n] w fun e w' => e = .returned (.bool (fitB r s n)) ∧ Below w.heap.size w w' :=
  specFitsF r.f r rfl hr.f0 hr.f1 m s n w hm hl0 hl1 hl2 hx s0 s1 h0 h1
end Go.Proofs.YtlfglhpepoepcaaDoor
namespace Go.Proofs.YtlfglhpepoepcaaDoor
open Go.RowKit Go.Shelf
set_option linter.unusedVariables false

theorem IL.lit0 (w : World) : IL w (.slice (some ⟨w.heap.size, 0, none⟩) 0 0) [] (w.alloc (.cells #[] 3)) :=
  ⟨⟨by simp, .inr ⟨w.heap.size, 0, #[], rfl, Nat.le_refl _, World.alloc_heap_new w _, Nat.le_refl _, by unfold maxLen; omega, by simp, by simp⟩⟩, (Below.refl _ w).alloc (Nat.le_refl _) _⟩
set_option maxRecDepth 100000 in
set_option maxHeartbeats 8000000 in
theorem specPeriod (r : Rl) (m : Rm) (s a b : Int) (w : World) (hr : ROk r) (hm : RMem w r m) (hl0 : r.ds.length ≤ 8) (hl1 : r.da.length ≤ 8) (hl2 : r.mo.length ≤ 8) (hl3 : r.pl.length ≤ 8) (hx : ∀ j, j < r.ds.length → -1000 ≤ tAt r.ds j ∧ tAt r.ds j ≤ 1000)
    (s0 : 0 ≤ s) (s1 : s ≤ 3652058) (a0 : -10 ≤ a) (a1 : a ≤ 4000000) (hab : b ≤ a + 365) (hba : a ≤ b + 1) :
    Calls Tryd.prog 61 #[.agg #[.int .i64 r.f, .int .i64 r.ev, .int .i64 r.ct, .int .i64 r.un, .slice m.a0 r.ds.length m.c0, .slice m.a1 r.da.length m.c1, .slice m.a2 r.mo.length m.c2, .slice m.a3 r.pl.length m.c3, .int .i64 r.wk], .int .i64 s, .int .i64 a, .int .i64 b] w fun e w' => (∃ v, e = .returned v ∧ OI w' w.heap.size v (choice r s a b)) ∧ Below w.heap.size w w' := by
  obtain ⟨i0, hi, hz0, hz1, hz2⟩ := info_parts intInfo
  obtain ⟨W0, hW0⟩ : ∃ W0, W0 = w.alloc (.cells #[.int .i64 r.f, .int .i64 r.ev, .int .i64 r.ct, .int .i64 r.un, .slice m.a0 r.ds.length m.c0, .slice m.a1 r.da.length m.c1, .slice m.a2 r.mo.length m.c2, .slice m.a3 r.pl.length m.c3, .int .i64 r.wk] 26) := ⟨_, rfl⟩
  have hb0 : Below w.heap.size w W0 := by rw [hW0]; exact (Below.refl _ w).alloc (Nat.le_refl _) _
  have HCR : Hid (CB W0 w.heap.size r m) := by unfold Hid; rw [hW0]; exact CB.new w r m _
  have HW0 : Hid (W0 = w.alloc (.cells #[.int .i64 r.f, .int .i64 r.ev, .int .i64 r.ct, .int .i64 r.un, .slice m.a0 r.ds.length m.c0, .slice m.a1 r.da.length m.c1, .slice m.a2 r.mo.length m.c2, .slice m.a3 r.pl.length m.c3, .int .i64 r.wk] 26)) := hW0
  have HB0 : Hid (Below w.heap.size w W0) := hb0
  have HM : Hid (RMem W0 r m) := hm.below hb0
  have HX : Hid (∀ j, j < r.ds.length → -1000 ≤ tAt r.ds j ∧ tAt r.ds j ≤ 1000) := hx
  have K0 : Hid (IL W0 (.slice (some ⟨W0.heap.size, 0, none⟩) 0 0) [] (W0.alloc (.cells #[] 3))) := IL.lit0 W0
  have HZ0 : Hid (W0.heap.size = w.heap.size + 1) := by unfold Hid; rw [hW0]; simp
  clear hm hb0 hW0 hx
  go_enter Tryd.func61, Tryd.ntmps61
  go_wp2
  rw [← HW0.out]
  go_loopw [9, 10] (fun v i wr => ∃ d : Int, a ≤ d ∧ d ≤ b + 1 ∧ i = .int .i64 d ∧ IL W0 v (fitL r s a d) wr) (fun _ i _ => (b + 1 - intOf i).toNat)
  case atStart => exact ⟨a, by omega, by omega, rfl, by unfold fitL; rw [ira_nil (Int.le_refl _)]; have := K0.out; rw [HZ0.out] at this; exact this⟩
  case round =>
    obtain ⟨d, hd0, hd1, rfl, K1⟩ := hrel
    have hb : Below W0.heap.size W0 wr := K1.2
    obtain ⟨q0, q1, q2, q3, q4, q5, q6, q7, q8⟩ := HCR.out.on (hb.block _ HCR.out.lt)
    by_cases hle : d ≤ b
    · have hlen : (fitL r s a d).length ≤ 400 := by
        have := asc_len (fitL r s a d) a (d - 1) (fitL_asc r s a d) (fun z hz => by have := fitL_mem hz; omega)
        omega
      by_cases hdy : 0 ≤ d ∧ d ≤ 3652058
      · have HIC : Hid (Calls Tryd.prog 82 #[.agg #[.int .i64 r.f, .int .i64 r.ev, .int .i64 r.ct, .int .i64 r.un, .slice m.a0 r.ds.length m.c0, .slice m.a1 r.da.length m.c1, .slice m.a2 r.mo.length m.c2, .slice m.a3 r.pl.length m.c3, .int .i64 r.wk], .int .i64 s, .int .i64 d] wr fun e w' => e = .returned (.bool (fitB r s d)) ∧ Below wr.heap.size wr w') := specFits r m s d wr hr (HM.out.below hb) hl0 hl1 hl2 HX.out s0 s1 hdy.1 hdy.2
        have HIN : Hid (inB d 0 3652058 = true) := (in_iff _ _ _).2 hdy
        have HSY : Hid (fitB r s d = true → fitL r s a (d + 1) = fitL r s a d ++ [d]) := fun h => fitL_snoc_yes hd0 hdy h
        have HSN : Hid (fitB r s d = false → fitL r s a (d + 1) = fitL r s a d) := fun h => fitL_snoc_no hd0 (fun h' => by rw [h] at h'; exact absurd h'.2 (by simp))
        clear hb
        generalize fitL r s a d = L at K1 hlen HSY HSN
        go_wp2_with fail
        refine (specInR _ _ _ _ true HIN.out).mono ?_
        rintro e w1 ⟨rfl, hw1⟩
        rw [hw1]
        clear hw1
        go_wp2_with fail
        refine HIC.out.mono ?_
        rintro e w2 ⟨rfl, b2⟩
        have KK := IL.on K1 b2
        clear K1 b2 q0 q1 q2 q3 q4 q5 q6 q7 q8
        cases hf : fitB r s d with
        | true =>
          have HF : Hid (fitB r s d = true) := hf
          clear hf
          go_wp2_with (first
        | (at_builtin; refine wpList_append_own _ rfl _ _ 24 rfl W0.heap.size 3 i0 (.int .i64 0) 1 8 Tryd.underlying24 hi hz0 hz1 hz2 rfl (by decide) _ _ _ rfl (World.ownsRow.alloc KK.1 _) ⟨_, 0, none⟩ 1 1 [.int .i64 d] rfl rfl (cell_one_new _ _ _) (by simp [Value.oneCell']) (by unfold maxLen; omega) (by omega) (by have := KK.2.size; simp; omega) ?_; intro v' w4 hown hgrow _; have K4 := IL.app KK hown hgrow; clear hown hgrow))
          go_roundw
          case rel => exact ⟨d + 1, by omega, by omega, by go_num, by rw [HSY.out HF.out]; exact K4⟩
          case measure => simp [intOf]; omega
        | false =>
          have HF : Hid (fitB r s d = false) := hf
          have HKK : Hid (IL W0 u9 L w2) := KK
          clear hf KK
          go_wp2
          go_roundw
          case rel => exact ⟨d + 1, by omega, by omega, by go_num, by rw [HSN.out HF.out]; exact HKK.out⟩
          case measure => simp [intOf]; omega
      · have HIN : Hid (inB d 0 3652058 = false) := (in_not _ _ _).2 hdy
        have HSN : Hid (fitL r s a (d + 1) = fitL r s a d) := fitL_snoc_no hd0 (fun h' => hdy h'.1)
        have HKK : Hid (IL W0 u9 (fitL r s a d) wr) := K1
        clear hb K1
        go_wp2_with fail
        refine (specInR _ _ _ _ false HIN.out).mono ?_
        rintro e w1 ⟨rfl, hw1⟩
        rw [hw1]
        clear hw1
        go_wp2
        go_roundw
        case rel => exact ⟨d + 1, by omega, by omega, by go_num, by rw [HSN.out]; exact HKK.out⟩
        case measure => simp [intOf]; omega
    · have hde : d = b + 1 := by omega
      subst hde
      have hlen : (fitL r s a (b + 1)).length ≤ 400 := by
        have := asc_len (fitL r s a (b + 1)) a b (fitL_asc r s a (b + 1)) (fun z hz => by have := fitL_mem hz; omega)
        omega
      obtain ⟨L, hL⟩ : ∃ L, L = fitL r s a (b + 1) := ⟨_, rfl⟩
      rw [← hL] at K1 hlen
      obtain ⟨av, cv, rfl, iv, _, _⟩ := K1.1.val
      have HK1 : Hid (IL W0 (.slice av L.length cv) L wr) := K1
      have HL : Hid (L = fitL r s a (b + 1)) := hL
      have HIV : Hid (IsInts wr av L) := iv
      have HPL : Hid (IsInts wr m.a3 r.pl) := HM.out.p.below hb
      have HCR1 : Hid (CB wr w.heap.size r m) := HCR.out.on (hb.block _ HCR.out.lt)
      clear K1 hL iv hb q0 q1 q2 q3 q4 q5 q6 q8
      by_cases hp : r.pl.length = 0
      · have HC : Hid (choice r s a b = L) := by unfold Hid choice; rw [if_pos hp, HL.out]
        go_wp2
        go_ret
        refine ⟨⟨_, rfl, ?_⟩, bstep HB0.out HK1.out.2⟩
        rw [HC.out]
        exact HK1.out.1.base HB0.out.size
      · have HC : Hid (choice r s a b = plL r.pl L L.length) := by unfold Hid choice; rw [if_neg hp, HL.out]
        have hp' : ¬ (r.pl.length : Int) = 0 := by omega
        obtain ⟨wo, hwo⟩ : ∃ wo, wo = wr := ⟨_, rfl⟩
        subst hwo
        have K9 : Hid (IL wo (.slice (some ⟨wo.heap.size, 0, none⟩) 0 0) [] (wo.alloc (.cells #[] 3))) := IL.lit0 wo
        go_wp2
        go_loopw [11, 12] (fun v i wr => ∃ q : Nat, q ≤ L.length ∧ i = .int .i64 q ∧ IL wo v (plL r.pl L q) wr) (fun _ i _ => L.length - (intOf i).toNat)
        case atStart => exact ⟨0, by omega, rfl, by rw [plL_zero]; exact K9.out⟩
        case round =>
          obtain ⟨q, hq, rfl, K2⟩ := hrel
          have hb2 : Below wo.heap.size wo wr := K2.2
          by_cases hlt : q < L.length
          · have G1 := HIV.out
            rcases G1 with G1 | ⟨bb, o, rfl, hbs, hc⟩
            · rw [G1] at hlt; simp at hlt
            have c0 : wr.cell? ⟨bb, o + q, none⟩ = some (.int .i64 (gi L q)) := by rw [hb2.cell (p := ⟨bb, o + q, none⟩) hbs]; exact hc q hlt
            have c7 : wr.cell? ⟨w.heap.size, 7, none⟩ = some (.slice m.a3 r.pl.length m.c3) := (HCR1.out.on (hb2.block _ HCR1.out.lt)).2.2.2.2.2.2.2.1
            have HPL2 : Hid (IsInts wr m.a3 r.pl) := HPL.out.below hb2
            have hi1 : (q : Int) < (L.length : Int) := by omega
            have hi0 : (0 : Int) ≤ (q : Int) := by omega
            have hbl : bb < wr.heap.size := by have := hb2.size; omega
            have hpl : (plL r.pl L q).length ≤ 400 := by
              unfold plL; rw [List.length_map]
              have := List.length_filter_le (plB r.pl L.length) (List.range q)
              rw [List.length_range] at this; omega
            have HPY : Hid (plB r.pl L.length q = true → plL r.pl L (q + 1) = plL r.pl L q ++ [gi L q]) := fun h => plL_yes h
            have HPN : Hid (plB r.pl L.length q = false → plL r.pl L (q + 1) = plL r.pl L q) := fun h => plL_no h
            clear hc hb2
            generalize plL r.pl L q = PL at K2 hpl HPY HPN
            have KK := K2
            clear K2
            cases h1 : hasI r.pl ((q : Int) + 1) with
            | true =>
              have HF : Hid (plB r.pl L.length q = true) := by unfold Hid plB; rw [h1]; rfl
              have H1 : Hid (hasI r.pl ((q : Int) + 1) = true) := h1
              clear h1
              go_wp2_with fail
              refine (specHas _ _ _ _ _ HPL2.out (by omega) _ H1.out).mono ?_
              rintro e w' ⟨rfl, hw'⟩
              rw [hw']
              clear hw'
              go_wp2_with (first
                | (at_builtin; refine wpList_append_own _ rfl _ _ 24 rfl wo.heap.size 3 i0 (.int .i64 0) 1 8 Tryd.underlying24 hi hz0 hz1 hz2 rfl (by decide) _ _ _ rfl (World.ownsRow.alloc KK.1 _) ⟨_, 0, none⟩ 1 1 [.int .i64 (gi L q)] rfl rfl (cell_one_new _ _ _) (by simp [Value.oneCell']) (by unfold maxLen; omega) (by omega) (by have := KK.2.size; simp; omega) ?_; intro v' w4 hown hgrow _; have K4 := IL.app KK hown hgrow; clear hown hgrow))
              go_roundw
              case rel => exact ⟨q + 1, by omega, by go_num, by rw [HPY.out HF.out]; exact K4⟩
              case measure => simp [intOf]; omega
            | false =>
              have H1 : Hid (hasI r.pl ((q : Int) + 1) = false) := h1
              cases h2 : hasI r.pl ((q : Int) - (L.length : Int)) with
              | true =>
                have HF : Hid (plB r.pl L.length q = true) := by unfold Hid plB; rw [h1, h2]; rfl
                have H2 : Hid (hasI r.pl ((q : Int) - (L.length : Int)) = true) := h2
                clear h1 h2
                go_wp2_with fail
                refine (specHas _ _ _ _ _ HPL2.out (by omega) _ H1.out).mono ?_
                rintro e w' ⟨rfl, hw'⟩
                rw [hw']
                clear hw'
                go_wp2_with fail
                refine (specHas _ _ _ _ _ HPL2.out (by omega) _ H2.out).mono ?_
                rintro e w' ⟨rfl, hw'⟩
                rw [hw']
                clear hw'
                go_wp2_with (first
                | (at_builtin; refine wpList_append_own _ rfl _ _ 24 rfl wo.heap.size 3 i0 (.int .i64 0) 1 8 Tryd.underlying24 hi hz0 hz1 hz2 rfl (by decide) _ _ _ rfl (World.ownsRow.alloc KK.1 _) ⟨_, 0, none⟩ 1 1 [.int .i64 (gi L q)] rfl rfl (cell_one_new _ _ _) (by simp [Value.oneCell']) (by unfold maxLen; omega) (by omega) (by have := KK.2.size; simp; omega) ?_; intro v' w4 hown hgrow _; have K4 := IL.app KK hown hgrow; clear hown hgrow))
                go_roundw
                case rel => exact ⟨q + 1, by omega, by go_num, by rw [HPY.out HF.out]; exact K4⟩
                case measure => simp [intOf]; omega
              | false =>
                have HF : Hid (plB r.pl L.length q = false) := by unfold Hid plB; rw [h1, h2]; rfl
                have H2 : Hid (hasI r.pl ((q : Int) - (L.length : Int)) = false) := h2
                have HKK : Hid (IL wo u11 PL wr) := KK
                clear h1 h2 KK
                go_wp2_with fail
                refine (specHas _ _ _ _ _ HPL2.out (by omega) _ H1.out).mono ?_
                rintro e w' ⟨rfl, hw'⟩
                rw [hw']
                clear hw'
                go_wp2_with fail
                refine (specHas _ _ _ _ _ HPL2.out (by omega) _ H2.out).mono ?_
                rintro e w' ⟨rfl, hw'⟩
                rw [hw']
                clear hw'
                go_wp2
                go_roundw
                case rel => exact ⟨q + 1, by omega, by go_num, by rw [HPN.out HF.out]; exact HKK.out⟩
                case measure => simp [intOf]; omega
          · have hqe : q = L.length := by omega
            subst hqe
            have HK2 : Hid (IL wo u11 (plL r.pl L L.length) wr) := K2
            clear K2 hb2
            go_wp2
            go_ret
            refine ⟨⟨_, rfl, ?_⟩, bstep (bstep HB0.out HK1.out.2) HK2.out.2⟩
            rw [HC.out]
            exact HK2.out.1.base (by have := HB0.out.size; have := HK1.out.2.size; omega)
end Go.Proofs.YtlfglhpepoepcaaDoor
namespace Go.Proofs.YtlfglhpepoepcaaDoor
open Go.RowKit Go.Shelf
set_option linter.unusedVariables false

set_option maxHeartbeats 1000000 in
theorem specMonth (y m n : Int) (w : World) (h0 : 1 ≤ y) (h1 : y ≤ 9999) (h2 : 1 ≤ m) (h3 : m ≤ 12) (n0 : 0 ≤ n) (n1 : n ≤ 400000000) :
    Calls Tryd.prog 78 #[.int .i64 y, .int .i64 m, .int .i64 n] w fun e w' => e = .returned (.tuple #[.int .i64 (y + (m - 1 + n) / 12), .int .i64 ((m - 1 + n) % 12 + 1)]) ∧ w' = w := by
  have e1 : (y * 12 + m - 1 + n) / 12 = y + (m - 1 + n) / 12 := by omega
  have e2 : (y * 12 + m - 1 + n) % 12 = (m - 1 + n) % 12 := by omega
  have E1 : Hid ((y * 12 + m - 1 + n) / 12 = y + (m - 1 + n) / 12) := e1
  have E2 : Hid ((y * 12 + m - 1 + n) % 12 = (m - 1 + n) % 12) := e2
  clear e1 e2
  go_enter Tryd.func78, Tryd.ntmps78
  go_wp2
  refine bodyPost_ret (v := .tuple #[.int .i64 ((y * 12 + m - 1 + n) / 12), .int .i64 ((y * 12 + m - 1 + n) % 12 + 1)]) (by simp [results, Tryd.results78, go_sem]) rfl ⟨by rw [E1.out, E2.out], rfl⟩
set_option maxRecDepth 100000 in
set_option maxHeartbeats 4000000 in
/-- Its two ends, and whether it is there. -/
theorem specSpanF (f : Int) (nm : Nat) (r : Rl) (hf : r.f = f) (hnm : r.mo.length = nm) (m : Rm) (s n : Int) (w : World) (hr : ROk r) (h0 : 0 ≤ s) (h1 : s ≤ 3652058) (n0 : 0 ≤ n) (n1 : n ≤ 400000000) :
    Calls Tryd.prog 60 #[.agg #[.int .i64 f, .int .i64 r.ev, .int .i64 r.ct, .int .i64 r.un, .slice m.a0 r.ds.length m.c0, .slice m.a1 r.da.length m.c1, .slice m.a2 nm m.c2, .slice m.a3 r.pl.length m.c3, .int .i64 r.wk], .int .i64 s, .int .i64 n] w fun e w' => (∃ x y : Int, e = .returned (.tuple #[.int .i64 x, .int .i64 y, .bool (decide (spanF r s n ≤ 3652058))]) ∧ (spanF r s n ≤ 3652058 → x = spanF r s n ∧ y = spanL r s n)) ∧ Below w.heap.size w w' := by
  obtain ⟨W0, hW0⟩ : ∃ W0, W0 = w.alloc (.cells #[.int .i64 f, .int .i64 r.ev, .int .i64 r.ct, .int .i64 r.un, .slice m.a0 r.ds.length m.c0, .slice m.a1 r.da.length m.c1, .slice m.a2 nm m.c2, .slice m.a3 r.pl.length m.c3, .int .i64 r.wk] 26) := ⟨_, rfl⟩
  have hb0 : Below w.heap.size w W0 := by rw [hW0]; exact (Below.refl _ w).alloc (Nat.le_refl _) _
  have HC0 : Hid (CF W0 w.heap.size #[.int .i64 f, .int .i64 r.ev, .int .i64 r.ct, .int .i64 r.un, .slice m.a0 r.ds.length m.c0, .slice m.a1 r.da.length m.c1, .slice m.a2 nm m.c2, .slice m.a3 r.pl.length m.c3, .int .i64 r.wk]) := by unfold Hid; rw [hW0]; exact CF.new _ _ _
  have HW0 : Hid (W0 = w.alloc (.cells #[.int .i64 f, .int .i64 r.ev, .int .i64 r.ct, .int .i64 r.un, .slice m.a0 r.ds.length m.c0, .slice m.a1 r.da.length m.c1, .slice m.a2 nm m.c2, .slice m.a3 r.pl.length m.c3, .int .i64 r.wk] 26)) := hW0
  have HB0 : Hid (Below w.heap.size w W0) := hb0
  obtain ⟨a0, a1, a2, a3, a4, a5, a6, a7, _⟩ := date_bd h0 h1
  have f0 := hr.f0; have f1 := hr.f1; have w0 := hr.w0; have w1 := hr.w1
  have HF : Hid (r.f = f) := hf
  rw [hf] at f0 f1
  clear hW0 hb0 hf hr hnm
  go_enter Tryd.func60, Tryd.ntmps60
  go_wp2_with fail
  rw [← HW0.out]
  refine (specDateN s W0 h0 h1).mono ?_
  rintro e w1 ⟨rfl, b1⟩
  obtain ⟨W2, hW2⟩ : ∃ W2, W2 = w1.alloc (.cells #[.int .i64 (yOf s), .int .i64 (mOf s), .int .i64 (dOf s)] 35) := ⟨_, rfl⟩
  have hb2 : Below W0.heap.size W0 W2 := by rw [hW2]; exact b1.alloc b1.size _
  have HB2 : Hid (Below w.heap.size w W2) := bstep HB0.out hb2
  have HW2 : Hid (W2 = w1.alloc (.cells #[.int .i64 (yOf s), .int .i64 (mOf s), .int .i64 (dOf s)] 35)) := hW2
  have hc1 := HC0.out.below b1
  obtain ⟨q0, _⟩ := hc1.2 0 _ rfl
  obtain ⟨q8, _⟩ := hc1.2 8 _ rfl
  have hrl := cell_lt q0
  have ret : ∀ (x y : Int) (b : Bool) (W3 : World), Below w.heap.size w W3 → b = decide (spanF r s n ≤ 3652058) → (spanF r s n ≤ 3652058 → x = spanF r s n ∧ y = spanL r s n) →
      (∃ x' y' : Int, Ending.returned (.tuple #[.int .i64 x, .int .i64 y, .bool b]) = .returned (.tuple #[.int .i64 x', .int .i64 y', .bool (decide (spanF r s n ≤ 3652058))]) ∧ (spanF r s n ≤ 3652058 → x' = spanF r s n ∧ y' = spanL r s n)) ∧ Below w.heap.size w W3 := fun x y b W3 hb hbb hxy => ⟨⟨x, y, by rw [hbb], hxy⟩, hb⟩
  have RET : Hid (∀ (x y : Int) (b : Bool) (W3 : World), Below w.heap.size w W3 → b = decide (spanF r s n ≤ 3652058) → (spanF r s n ≤ 3652058 → x = spanF r s n ∧ y = spanL r s n) →
      (∃ x' y' : Int, Ending.returned (.tuple #[.int .i64 x, .int .i64 y, .bool b]) = .returned (.tuple #[.int .i64 x', .int .i64 y', .bool (decide (spanF r s n ≤ 3652058))]) ∧ (spanF r s n ≤ 3652058 → x' = spanF r s n ∧ y' = spanL r s n)) ∧ Below w.heap.size w W3) := ret
  clear ret hb2 hW2 b1 hc1
  rcases four f0 f1 with rfl | rfl | rfl | rfl
  · have HS : Hid (spanF r s n = s + n ∧ spanL r s n = s + n) := by unfold Hid spanF spanL; rw [HF.out]; exact ⟨rfl, rfl⟩
    go_wp2
    rw [← HW2.out]
    exact bodyPost_ret (v := .tuple #[.int .i64 (s + n), .int .i64 (s + n), .bool (decide (s + n ≤ 3652058))]) (by simp [results, Tryd.results60, go_sem]) rfl (RET.out _ _ _ _ HB2.out (by rw [HS.out.1]) (fun _ => ⟨HS.out.1.symm, HS.out.2.symm⟩))
  · have HS : Hid (spanF r s n = s - (s % 7 - r.wk + 7) % 7 + 7 * n ∧ spanL r s n = s - (s % 7 - r.wk + 7) % 7 + 7 * n + 6) := by
      unfold Hid spanF spanL; rw [HF.out]; exact ⟨rfl, rfl⟩
    have k1 := IntWalk.i64_in (s % 7 - r.wk) (by omega)
    have k2 := IntWalk.i64_in (s % 7 - r.wk + 7) (by omega)
    go_wp2
    rw [← HW2.out]
    exact bodyPost_ret (v := .tuple #[.int .i64 (s - (s % 7 - r.wk + 7) % 7 + 7 * n), .int .i64 (s - (s % 7 - r.wk + 7) % 7 + 7 * n + 6), .bool (decide (s - (s % 7 - r.wk + 7) % 7 + 7 * n ≤ 3652058))]) (by simp [results, Tryd.results60, go_sem]) rfl (RET.out _ _ _ _ HB2.out (by rw [HS.out.1]) (fun _ => ⟨HS.out.1.symm, HS.out.2.symm⟩))
  · obtain ⟨Y, hY⟩ : ∃ Y, Y = yOf s + (mOf s - 1 + n) / 12 := ⟨_, rfl⟩
    obtain ⟨M, hM⟩ : ∃ M, M = (mOf s - 1 + n) % 12 + 1 := ⟨_, rfl⟩
    have HS : Hid (spanF r s n = num Y M 1 ∧ spanL r s n = num Y M 1 + dim Y M - 1) := by
      unfold Hid spanF spanL; rw [HF.out, hY, hM]; exact ⟨rfl, rfl⟩
    have hY1 : 1 ≤ Y := by omega
    have hM1 : 1 ≤ M := by omega
    have hM2 : M ≤ 12 := by omega
    have hY2 : Y ≤ 40000000 := by omega
    have cb := cum_bd Y M hM1 (by omega)
    have db := dim_bd Y M
    have HY : Hid (yOf s + (mOf s - 1 + n) / 12 = Y) := hY.symm
    have HM : Hid ((mOf s - 1 + n) % 12 + 1 = M) := hM.symm
    clear hY hM
    go_wp2_with fail
    rw [← HW2.out]
    refine (specMonth _ _ _ _ a0 a1 a2 a3 n0 n1).mono ?_
    rintro e w' ⟨rfl, rfl⟩
    rw [HY.out, HM.out]
    by_cases hy : Y ≤ 9999
    · have hn : 0 ≤ num Y M 1 ∧ num Y M 1 ≤ 3652058 := num_bd ((okD_iff _ _ _).2 ⟨hY1, hy, hM1, hM2, by omega, by omega⟩)
      go_wp2_with fail
      refine (specDay Y M 1 _ hY1 hy hM1 hM2 (by omega) (by omega)).mono ?_
      rintro e w3 ⟨rfl, rfl⟩
      have HB3 : Hid (Below w.heap.size w (w'.alloc (.cells #[.int .i64 Y, .int .i64 M, .int .i64 1] 35))) := HB2.out.alloc HB2.out.size _
      go_wp2_with (go_at_call 80; refine (specDays _ _ _ (by omega) (by omega) (by omega) (by omega)).mono ?_; rintro e w' ⟨rfl, rfl⟩)
      exact bodyPost_ret (v := .tuple #[.int .i64 (num Y M 1), .int .i64 (num Y M 1 + dim Y M - 1), .bool (decide (num Y M 1 ≤ 3652058))]) (by simp [results, Tryd.results60, go_sem]; exact hn.2) rfl (RET.out _ _ _ _ HB3.out (by rw [HS.out.1]) (fun _ => ⟨HS.out.1.symm, HS.out.2.symm⟩))
    · have hbig : 3652058 < num Y M 1 := by
        have := fst_mono 10000 Y (by omega) (by omega); have := fst_max; unfold num; omega
      go_wp2
      exact bodyPost_ret (v := .tuple #[.int .i64 0, .int .i64 0, .bool false]) (by simp [results, Tryd.results60, go_sem]) rfl (RET.out _ _ _ _ HB2.out (by rw [HS.out.1]; exact (decide_eq_false (by omega)).symm) (fun h => by rw [HS.out.1] at h; omega))
  · have HS : Hid (spanF r s n = fst (yOf s + n) ∧ spanL r s n = fst (yOf s + n + 1) - 1) := by unfold Hid spanF spanL; rw [HF.out]; exact ⟨rfl, rfl⟩
    by_cases hy : yOf s + n ≤ 9999
    · have fb := fst_bd2 (yOf s + n) (by omega) (by omega)
      have fb' := fst_bd2 (yOf s + n + 1) (by omega) (by omega)
      go_wp2_with (go_at_call 81; refine (specFirst _ _ (by omega) (by omega)).mono ?_; rintro e w' ⟨rfl, rfl⟩)
      rw [← HW2.out]
      exact bodyPost_ret (v := .tuple #[.int .i64 (fst (yOf s + n)), .int .i64 (fst (yOf s + n + 1) - 1), .bool (decide (fst (yOf s + n) ≤ 3652058))]) (by simp [results, Tryd.results60, go_sem]) rfl (RET.out _ _ _ _ HB2.out (by rw [HS.out.1]) (fun _ => ⟨HS.out.1.symm, HS.out.2.symm⟩))
    · have hbig : 3652058 < fst (yOf s + n) := by have := fst_mono 10000 (yOf s + n) (by omega) (by omega); have := fst_max; omega
      go_wp2
      rw [← HW2.out]
      exact bodyPost_ret (v := .tuple #[.int .i64 0, .int .i64 0, .bool false]) (by simp [results, Tryd.results60, go_sem]) rfl (RET.out _ _ _ _ HB2.out (by rw [HS.out.1]; exact (decide_eq_false (by omega)).symm) (fun h => by rw [HS.out.1] at h; omega))
theorem specSpan (r : Rl) (m : Rm) (s n : Int) (w : World) (hr : ROk r) (h0 : 0 ≤ s) (h1 : s ≤ 3652058) (n0 : 0 ≤ n) (n1 : n ≤ 400000000) :
    Calls Tryd.prog 60 #[.agg #[.int .i64 r.f, .int .i64 r.ev, .int .i64 r.ct, .int .i64 r.un, .slice m.a0 r.ds.length m.c0, .slice m.a1 r.da.length m.c1, .slice m.a2 r.mo.length m.c2, .slice m.a3 r.pl.length m.c3, .int .i64 r.wk], .int .i64 s, .int .i64 n] w fun e w' => (∃ x y : Int, e = .returned (.tuple #[.int .i64 x, .int .i64 y, .bool (decide (spanF r s n ≤ 3652058))]) ∧ (spanF r s n ≤ 3652058 → x = spanF r s n ∧ y = spanL r s n)) ∧ Below w.heap.size w w' :=
  specSpanF r.f r.mo.length r rfl rfl m s n w hr h0 h1 n0 n1
end Go.Proofs.YtlfglhpepoepcaaDoor
namespace Go.Proofs.YtlfglhpepoepcaaDoor
open Go.RowKit Go.Shelf
set_option linter.unusedVariables false

theorem sp_stop {r : Rl} {s T : Int} (hr : ROk r) (h0 : 0 ≤ s) (h1 : s ≤ 3652058) {k i : Nat} (hk : k < perN r s T) (hi : i < (chJ r s k).length) (hd : T < gi (chJ r s k) i) : comes r s T = XF s T (AL r s k ++ (chJ r s k).take i) := by
  obtain ⟨Y, hY⟩ := AL_at hk hi
  exact XF_stop hY (AL_asc hr h0 h1 _) hd
theorem sp_split {r : Rl} {s T : Int} {k i : Nat} (hk : k < perN r s T) (hi : i < (chJ r s k).length) : ∃ Z, comes r s T = XF s T (AL r s k ++ (chJ r s k).take i) ++ Z := by
  obtain ⟨Y, hY⟩ := AL_at hk hi
  exact ⟨XF s T (gi (chJ r s k) i :: Y), by unfold comes; rw [hY, XF_append]⟩
def mostT (r : Rl) (most : Int) : Int := if 0 < r.ct ∧ r.ct < most then r.ct else most
set_option maxRecDepth 100000 in
set_option maxHeartbeats 16000000 in
theorem specDaysL (r : Rl) (m : Rm) (s te most : Int) (w : World) (hr : ROk r) (hm : RMem w r m) (hl0 : r.ds.length ≤ 8) (hl1 : r.da.length ≤ 8) (hl2 : r.mo.length ≤ 8) (hl3 : r.pl.length ≤ 8) (hx : ∀ j, j < r.ds.length → -1000 ≤ tAt r.ds j ∧ tAt r.ds j ≤ 1000)
    (s0 : 0 ≤ s) (s1 : s ≤ 3652058) (m0 : 1 ≤ most) (m1 : most ≤ 20000) :
    Calls Tryd.prog 41 #[.agg #[.int .i64 r.f, .int .i64 r.ev, .int .i64 r.ct, .int .i64 r.un, .slice m.a0 r.ds.length m.c0, .slice m.a1 r.da.length m.c1, .slice m.a2 r.mo.length m.c2, .slice m.a3 r.pl.length m.c3, .int .i64 r.wk], .int .i64 s, .int .i64 te, .int .i64 most] w fun e w' => (∃ v, e = .returned v ∧ OI w' w.heap.size v ((comes r s (limT r te)).take (mostT r most).toNat)) ∧ Below w.heap.size w w' := by
  obtain ⟨i0, hi, hz0, hz1, hz2⟩ := info_parts intInfo
  obtain ⟨W0, hW0⟩ : ∃ W0, W0 = w.alloc (.cells #[.int .i64 r.f, .int .i64 r.ev, .int .i64 r.ct, .int .i64 r.un, .slice m.a0 r.ds.length m.c0, .slice m.a1 r.da.length m.c1, .slice m.a2 r.mo.length m.c2, .slice m.a3 r.pl.length m.c3, .int .i64 r.wk] 26) := ⟨_, rfl⟩
  have hb0 : Below w.heap.size w W0 := by rw [hW0]; exact (Below.refl _ w).alloc (Nat.le_refl _) _
  have HCR : Hid (CB W0 w.heap.size r m) := by unfold Hid; rw [hW0]; exact CB.new w r m _
  have HW0 : Hid (W0 = w.alloc (.cells #[.int .i64 r.f, .int .i64 r.ev, .int .i64 r.ct, .int .i64 r.un, .slice m.a0 r.ds.length m.c0, .slice m.a1 r.da.length m.c1, .slice m.a2 r.mo.length m.c2, .slice m.a3 r.pl.length m.c3, .int .i64 r.wk] 26)) := hW0
  have HB0 : Hid (Below w.heap.size w W0) := hb0
  have HM : Hid (RMem W0 r m) := hm.below hb0
  have HX : Hid (∀ j, j < r.ds.length → -1000 ≤ tAt r.ds j ∧ tAt r.ds j ≤ 1000) := hx
  have K0 : Hid (IL W0 (.slice (some ⟨W0.heap.size, 0, none⟩) 0 0) [] (W0.alloc (.cells #[] 3))) := IL.lit0 W0
  have HZ0 : Hid (W0.heap.size = w.heap.size + 1) := by unfold Hid; rw [hW0]; simp
  have c0 := hr.c0; have c1 := hr.c1
  obtain ⟨T, hT⟩ : ∃ T, T = limT r te := ⟨_, rfl⟩
  obtain ⟨Mo, hMo⟩ : ∃ Mo, Mo = mostT r most := ⟨_, rfl⟩
  have hMb : 1 ≤ Mo ∧ Mo ≤ 20000 := by rw [hMo]; unfold mostT; split <;> omega
  rw [← hT, ← hMo]
  have FIN : Hid (∀ (v : Value) (X : List Int) (W : World), IL W0 v X W → (comes r s T).take Mo.toNat = X → (∃ v', Ending.returned v = .returned v' ∧ OI W w.heap.size v' ((comes r s T).take Mo.toNat)) ∧ Below w.heap.size w W) := fun v X W h e =>
    ⟨⟨v, rfl, by rw [e]; exact h.1.base HB0.out.size⟩, bstep HB0.out h.2⟩
  clear hm hb0 hW0 hx
  by_cases hu1 : 0 < r.un
  · by_cases hu2 : r.un < te
    · skip
      by_cases hc1 : 0 < r.ct
      · by_cases hc2 : r.ct < most
        · skip
          have hT' : T = r.un := by rw [hT]; unfold limT; rw [if_pos ⟨hu1, hu2⟩]
          have hM' : Mo = r.ct := by rw [hMo]; unfold mostT; rw [if_pos ⟨hc1, hc2⟩]
          rw [hT', hM'] at FIN ⊢
          rw [hM'] at hMb
          clear hT' hM' hT hMo T Mo
          go_enter Tryd.func41, Tryd.ntmps41
          go_wp2
          rw [← HW0.out]
          go_loopw [9, 10] (fun v i wr => ∃ j : Nat, j ≤ perN r s (r.un) ∧ i = .int .i64 (j * r.ev) ∧ IL W0 v (XF s (r.un) (AL r s j)) wr ∧ ((XF s (r.un) (AL r s j)).length : Int) ≤ (r.ct)) (fun _ i _ => perN r s (r.un) * 100 + 1 - (intOf i).toNat)
          case atStart => exact ⟨0, Nat.zero_le _, by simp, by have := K0.out; rw [HZ0.out] at this; exact this, by show (0 : Int) ≤ (r.ct); omega⟩
          case round =>
            obtain ⟨j, hj, rfl, K1, hlm⟩ := hrel
            have hb : Below W0.heap.size W0 wr := K1.2
            obtain ⟨q0, q1, q2, q3, q4, q5, q6, q7, q8⟩ := HCR.out.on (hb.block _ HCR.out.lt)
            have hn := per_n hr hj
            have HM1 : Hid (RMem wr r m) := HM.out.below hb
            have HCR1 : Hid (CB wr w.heap.size r m) := HCR.out.on (hb.block _ HCR.out.lt)
            clear hb
            go_wp2_with fail
            refine (specSpan r m s _ wr hr s0 s1 hn.1 (by omega)).mono ?_
            rintro e w1 ⟨⟨x, y, rfl, hxy⟩, b1⟩
            have KK1 := IL.on K1 b1
            have HM2 : Hid (RMem w1 r m) := HM1.out.below b1
            have HCR2 : Hid (CB w1 w.heap.size r m) := HCR1.out.on (b1.block _ HCR1.out.lt)
            clear K1 b1 q0 q1 q2 q3 q4 q5 q6 q7 q8
            by_cases hj2 : j < perN r s (r.un)
            · have hin := perN_in hj2
              obtain ⟨rfl, rfl⟩ := hxy hin.2
              have hlen := span_len hr s0 s1 (n := j * r.ev) hn.1
              have hgr := span_grow hr s0 s1 (j * r.ev).toNat
              rw [show (((j * r.ev).toNat : Nat) : Int) = j * r.ev by omega] at hgr
              rw [decide_eq_true hin.2]
              obtain ⟨q0, q1, q2, q3, q4, q5, q6, q7, q8⟩ := HCR2.out
              have hin1 := hin.1
              go_wp2_with fail
              refine (specPeriod r m s _ _ w1 hr HM2.out hl0 hl1 hl2 hl3 HX.out s0 s1 (by omega) (by omega) (by omega) (by omega)).mono ?_
              rintro e w2 ⟨⟨v2, rfl, ov⟩, b2⟩
              have ov : OI w2 w1.heap.size v2 (chJ r s j) := ov
              have ovl := ov.lt
              have kol := KK1.1.lt
              obtain ⟨av, cv, rfl, iv, _, _⟩ := ov.val
              have KK2 := IL.on KK1 b2
              have HI2 : Hid (IsInts w2 av (chJ r s j)) := iv
              have HNE : Hid (∀ bl, av = some bl → bl.block < w2.heap.size ∧ ∀ k, u9.ownBlock = some k → k ≠ bl.block) := fun bl hbl => by
                subst hbl
                have h1 := ovl bl.block rfl
                exact ⟨h1.2, fun k hk => by have := (kol k hk).2; omega⟩
              have hll := chJ_len hr s0 s1 j
              have HK2 : Hid (IL W0 u9 (XF s (r.un) (AL r s j)) w2) := KK2
              have HCR3 : Hid (CB w2 w.heap.size r m) := HCR2.out.on (b2.block _ HCR2.out.lt)
              clear ov ovl kol iv KK1 KK2 b2 q0 q1 q2 q3 q4 q5 q6 q7 q8
              obtain ⟨wo, hwo⟩ : ∃ wo, wo = wr := ⟨_, rfl⟩
              subst hwo
              go_wp2
              go_loopw [9, 15] (fun v i wr => ∃ q : Nat, q ≤ (chJ r s j).length ∧ i = .int .i64 q ∧ IL W0 v (XF s (r.un) (AL r s j ++ (chJ r s j).take q)) wr ∧ ((XF s (r.un) (AL r s j ++ (chJ r s j).take q)).length : Int) ≤ (r.ct) ∧ IsInts wr av (chJ r s j) ∧ ∀ bl, av = some bl → bl.block < wr.heap.size ∧ ∀ k, v.ownBlock = some k → k ≠ bl.block) (fun _ i _ => (chJ r s j).length - (intOf i).toNat)
              case atStart => exact ⟨0, Nat.zero_le _, rfl, by rw [List.take_zero, List.append_nil]; exact HK2.out, by rw [List.take_zero, List.append_nil]; exact hlm, HI2.out, HNE.out⟩
              case round =>
                obtain ⟨q, hq, rfl, K3, hlm3, iv3, ne3⟩ := hrel
                have HCR4 : Hid (CB wr w.heap.size r m) := HCR.out.on (K3.2.block _ HCR.out.lt)
                obtain ⟨ao, co, hvo⟩ := K3.1.shape0
                subst hvo
                obtain ⟨X, hX⟩ : ∃ X, X = XF s (r.un) (AL r s j ++ (chJ r s j).take q) := ⟨_, rfl⟩
                rw [← hX] at K3 hlm3
                have HXX : Hid (X = XF s (r.un) (AL r s j ++ (chJ r s j).take q)) := hX
                by_cases hlt : q < (chJ r s j).length
                · obtain ⟨d, hd⟩ : ∃ d, d = gi (chJ r s j) q := ⟨_, rfl⟩
                  have HD : Hid (d = gi (chJ r s j) q) := hd
                  have hdm := choice_mem (show d ∈ chJ r s j by rw [hd]; exact gi_mem hlt)
                  have e0 : ∃ bL oL, av = some ⟨bL, oL, none⟩ ∧ bL < wr.heap.size ∧ wr.cell? ⟨bL, oL + q, none⟩ = some (.int .i64 d) := by
                    rcases iv3 with h | ⟨bL, oL, h1, h2, h3⟩
                    · rw [h] at hlt; simp at hlt
                    · exact ⟨bL, oL, h1, h2, by rw [hd]; exact h3 q hlt⟩
                  obtain ⟨bL, oL, hav, hbl, cL⟩ := e0
                  have HIV : Hid (IsInts wr av (chJ r s j)) := iv3
                  have HN3 : Hid (∀ bl, av = some bl → bl.block < wr.heap.size ∧ ∀ k, (Value.slice ao (XF s (r.un) (AL r s j ++ (chJ r s j).take q)).length co).ownBlock = some k → k ≠ bl.block) := ne3
                  rw [← hX] at HN3
                  rw [← hX]
                  subst hav
                  have hi1 : (q : Int) < ((chJ r s j).length : Int) := by omega
                  have hi0 : (0 : Int) ≤ (q : Int) := by omega
                  have HXN : Hid (XF s (r.un) (AL r s j ++ (chJ r s j).take (q + 1)) = XF s (r.un) ((AL r s j ++ (chJ r s j).take q) ++ [d])) := by unfold Hid; rw [take_snoc hlt, ← List.append_assoc, hd]
                  clear iv3 ne3 hd hX
                  by_cases hdt : (r.un) < d
                  · have HK3 : Hid (IL W0 (.slice ao X.length co) X wr) := K3
                    clear K3
                    go_wp2
                    go_ret
                    exact FIN.out _ X wr HK3.out (by rw [sp_stop hr s0 s1 hj2 hlt (by rw [← HD.out]; exact hdt), ← HXX.out, List.take_of_length_le (by omega)])
                  · by_cases hfull : (r.ct) ≤ (X.length : Int)
                    · have HK3 : Hid (IL W0 (.slice ao X.length co) X wr) := K3
                      clear K3
                      go_wp2
                      go_ret
                      exact FIN.out _ X wr HK3.out (by obtain ⟨Z, hZ⟩ := sp_split (T := r.un) hj2 hlt; rw [hZ, ← HXX.out, List.take_append, List.take_of_length_le (by omega), show (r.ct).toNat - X.length = 0 by omega, List.take_zero, List.append_nil])
                    · by_cases hds : s ≤ d
                      · have KK := K3
                        clear K3
                        go_wp2_with (first
                          | (at_builtin; refine wpList_append_at rfl _ _ 24 rfl W0.heap.size 3 i0 (.int .i64 0) 1 8 Tryd.underlying24 hi hz0 hz1 hz2 rfl (by decide) _ _ _ rfl (World.ownsRow.alloc KK.1 _) ⟨_, 0, none⟩ 1 1 [.int .i64 d] rfl rfl (cell_one_new _ _ _) (by simp [Value.oneCell']) (by decide) (by unfold maxLen; omega) (by omega) (by have := KK.2.size; simp; omega) ?_; intro v' w4 hown hgrow hat; have K4 := IL.app KK hown hgrow; clear hown))
                        go_roundw
                        case rel =>
                          refine ⟨q + 1, by omega, by go_num, by rw [HXN.out, XF_yes hds (by omega), ← HXX.out]; exact K4, by rw [HXN.out, XF_yes hds (by omega), ← HXX.out]; simp; omega, ?_, fun bl hbl => ?_⟩
                          · refine IsInts.same (HIV.out.below ((Below.refl _ wr).alloc (Nat.le_refl _) (.cells #[.int .i64 d] 3))) hgrow.size (fun _ x hx' => ?_)
                            exact hgrow.block _ (by have := (HN3.out x hx').1; simp; omega) (fun e => (HN3.out x hx').2 _ e.symm rfl)
                          · have h1 := HN3.out bl hbl
                            refine ⟨by have := hgrow.size; simp at this; omega, fun k hk => ?_⟩
                            rcases hat with h | h
                            · exact h1.2 k (by rw [show v'.ownBlock = (Value.slice ao X.length co).ownBlock from h] at hk; exact hk)
                            · rw [h] at hk; simp at hk; omega
                        case measure => simp [intOf]; omega
                      · have HK3 : Hid (IL W0 (.slice ao X.length co) X wr) := K3
                        clear K3
                        go_wp2
                        go_roundw
                        case rel => exact ⟨q + 1, by omega, by go_num, by rw [HXN.out, XF_no (by omega), ← HXX.out]; exact HK3.out, by rw [HXN.out, XF_no (by omega), ← HXX.out]; exact hlm3, HIV.out, HN3.out⟩
                        case measure => simp [intOf]; omega
                · have hqe : q = (chJ r s j).length := by omega
                  subst hqe
                  have HK3 : Hid (IL W0 (.slice ao X.length co) X wr) := K3
                  obtain ⟨b0, b1', b2', b3', b4', b5', b6', b7', b8'⟩ := HCR4.out
                  rw [← hX]
                  clear K3 iv3 ne3 hX
                  have e0' := hr.e0; have e1' := hr.e1
                  have STEP : Hid (Value.int .i64 ((j : Int) * r.ev + r.ev) = .int .i64 (((j + 1 : Nat) : Int) * r.ev)) := by
                    unfold Hid; rw [show (((j + 1 : Nat)) : Int) = (j : Int) + 1 by omega, Int.add_mul, Int.one_mul]
                  have MEAS : Hid (perN r s (r.un) * 100 + 1 - (intOf (.int .i64 ((j : Int) * r.ev + r.ev))).toNat < perN r s (r.un) * 100 + 1 - (intOf (.int .i64 ((j : Int) * r.ev))).toNat) := by
                    unfold Hid
                    have h5 : (j : Int) * r.ev ≤ (j : Int) * 100 := Int.mul_le_mul_of_nonneg_left e1' (by omega)
                    simp only [intOf]
                    omega
                  go_wp2
                  go_roundw
                  case rel => exact ⟨j + 1, by omega, STEP.out, by rw [AL_succ, ← List.take_length (l := chJ r s j), ← HXX.out]; exact HK3.out, by rw [AL_succ, ← List.take_length (l := chJ r s j), ← HXX.out]; exact hlm3⟩
                  case measure => exact MEAS.out
            · have hje : j = perN r s (r.un) := by omega
              have HK1 : Hid (IL W0 u9 (XF s (r.un) (AL r s j)) w1) := KK1
              have hout := perN_out hr («to» := r.un) s0 s1
              rw [← hje] at hout
              have HFN : Hid ((comes r s (r.un)).take (r.ct).toNat = XF s (r.un) (AL r s j)) := by unfold Hid comes; rw [← hje, List.take_of_length_le (by omega)]
              clear hje
              by_cases hmx : spanF r s (j * r.ev) ≤ 3652058
              · obtain ⟨rfl, rfl⟩ := hxy hmx
                rw [decide_eq_true hmx]
                have hto : (r.un) < spanF r s (j * r.ev) := by omega
                clear hout hxy KK1
                go_wp2
                go_ret
                exact FIN.out _ _ w1 HK1.out HFN.out
              · rw [decide_eq_false hmx]
                clear hout hxy KK1
                go_wp2
                go_ret
                exact FIN.out _ _ w1 HK1.out HFN.out
        · skip
          have hT' : T = r.un := by rw [hT]; unfold limT; rw [if_pos ⟨hu1, hu2⟩]
          have hM' : Mo = most := by rw [hMo]; unfold mostT; rw [if_neg (fun h => hc2 h.2)]
          rw [hT', hM'] at FIN ⊢
          rw [hM'] at hMb
          clear hT' hM' hT hMo T Mo
          go_enter Tryd.func41, Tryd.ntmps41
          go_wp2
          rw [← HW0.out]
          go_loopw [9, 10] (fun v i wr => ∃ j : Nat, j ≤ perN r s (r.un) ∧ i = .int .i64 (j * r.ev) ∧ IL W0 v (XF s (r.un) (AL r s j)) wr ∧ ((XF s (r.un) (AL r s j)).length : Int) ≤ most) (fun _ i _ => perN r s (r.un) * 100 + 1 - (intOf i).toNat)
          case atStart => exact ⟨0, Nat.zero_le _, by simp, by have := K0.out; rw [HZ0.out] at this; exact this, by show (0 : Int) ≤ most; omega⟩
          case round =>
            obtain ⟨j, hj, rfl, K1, hlm⟩ := hrel
            have hb : Below W0.heap.size W0 wr := K1.2
            obtain ⟨q0, q1, q2, q3, q4, q5, q6, q7, q8⟩ := HCR.out.on (hb.block _ HCR.out.lt)
            have hn := per_n hr hj
            have HM1 : Hid (RMem wr r m) := HM.out.below hb
            have HCR1 : Hid (CB wr w.heap.size r m) := HCR.out.on (hb.block _ HCR.out.lt)
            clear hb
            go_wp2_with fail
            refine (specSpan r m s _ wr hr s0 s1 hn.1 (by omega)).mono ?_
            rintro e w1 ⟨⟨x, y, rfl, hxy⟩, b1⟩
            have KK1 := IL.on K1 b1
            have HM2 : Hid (RMem w1 r m) := HM1.out.below b1
            have HCR2 : Hid (CB w1 w.heap.size r m) := HCR1.out.on (b1.block _ HCR1.out.lt)
            clear K1 b1 q0 q1 q2 q3 q4 q5 q6 q7 q8
            by_cases hj2 : j < perN r s (r.un)
            · have hin := perN_in hj2
              obtain ⟨rfl, rfl⟩ := hxy hin.2
              have hlen := span_len hr s0 s1 (n := j * r.ev) hn.1
              have hgr := span_grow hr s0 s1 (j * r.ev).toNat
              rw [show (((j * r.ev).toNat : Nat) : Int) = j * r.ev by omega] at hgr
              rw [decide_eq_true hin.2]
              obtain ⟨q0, q1, q2, q3, q4, q5, q6, q7, q8⟩ := HCR2.out
              have hin1 := hin.1
              go_wp2_with fail
              refine (specPeriod r m s _ _ w1 hr HM2.out hl0 hl1 hl2 hl3 HX.out s0 s1 (by omega) (by omega) (by omega) (by omega)).mono ?_
              rintro e w2 ⟨⟨v2, rfl, ov⟩, b2⟩
              have ov : OI w2 w1.heap.size v2 (chJ r s j) := ov
              have ovl := ov.lt
              have kol := KK1.1.lt
              obtain ⟨av, cv, rfl, iv, _, _⟩ := ov.val
              have KK2 := IL.on KK1 b2
              have HI2 : Hid (IsInts w2 av (chJ r s j)) := iv
              have HNE : Hid (∀ bl, av = some bl → bl.block < w2.heap.size ∧ ∀ k, u9.ownBlock = some k → k ≠ bl.block) := fun bl hbl => by
                subst hbl
                have h1 := ovl bl.block rfl
                exact ⟨h1.2, fun k hk => by have := (kol k hk).2; omega⟩
              have hll := chJ_len hr s0 s1 j
              have HK2 : Hid (IL W0 u9 (XF s (r.un) (AL r s j)) w2) := KK2
              have HCR3 : Hid (CB w2 w.heap.size r m) := HCR2.out.on (b2.block _ HCR2.out.lt)
              clear ov ovl kol iv KK1 KK2 b2 q0 q1 q2 q3 q4 q5 q6 q7 q8
              obtain ⟨wo, hwo⟩ : ∃ wo, wo = wr := ⟨_, rfl⟩
              subst hwo
              go_wp2
              go_loopw [9, 15] (fun v i wr => ∃ q : Nat, q ≤ (chJ r s j).length ∧ i = .int .i64 q ∧ IL W0 v (XF s (r.un) (AL r s j ++ (chJ r s j).take q)) wr ∧ ((XF s (r.un) (AL r s j ++ (chJ r s j).take q)).length : Int) ≤ most ∧ IsInts wr av (chJ r s j) ∧ ∀ bl, av = some bl → bl.block < wr.heap.size ∧ ∀ k, v.ownBlock = some k → k ≠ bl.block) (fun _ i _ => (chJ r s j).length - (intOf i).toNat)
              case atStart => exact ⟨0, Nat.zero_le _, rfl, by rw [List.take_zero, List.append_nil]; exact HK2.out, by rw [List.take_zero, List.append_nil]; exact hlm, HI2.out, HNE.out⟩
              case round =>
                obtain ⟨q, hq, rfl, K3, hlm3, iv3, ne3⟩ := hrel
                have HCR4 : Hid (CB wr w.heap.size r m) := HCR.out.on (K3.2.block _ HCR.out.lt)
                obtain ⟨ao, co, hvo⟩ := K3.1.shape0
                subst hvo
                obtain ⟨X, hX⟩ : ∃ X, X = XF s (r.un) (AL r s j ++ (chJ r s j).take q) := ⟨_, rfl⟩
                rw [← hX] at K3 hlm3
                have HXX : Hid (X = XF s (r.un) (AL r s j ++ (chJ r s j).take q)) := hX
                by_cases hlt : q < (chJ r s j).length
                · obtain ⟨d, hd⟩ : ∃ d, d = gi (chJ r s j) q := ⟨_, rfl⟩
                  have HD : Hid (d = gi (chJ r s j) q) := hd
                  have hdm := choice_mem (show d ∈ chJ r s j by rw [hd]; exact gi_mem hlt)
                  have e0 : ∃ bL oL, av = some ⟨bL, oL, none⟩ ∧ bL < wr.heap.size ∧ wr.cell? ⟨bL, oL + q, none⟩ = some (.int .i64 d) := by
                    rcases iv3 with h | ⟨bL, oL, h1, h2, h3⟩
                    · rw [h] at hlt; simp at hlt
                    · exact ⟨bL, oL, h1, h2, by rw [hd]; exact h3 q hlt⟩
                  obtain ⟨bL, oL, hav, hbl, cL⟩ := e0
                  have HIV : Hid (IsInts wr av (chJ r s j)) := iv3
                  have HN3 : Hid (∀ bl, av = some bl → bl.block < wr.heap.size ∧ ∀ k, (Value.slice ao (XF s (r.un) (AL r s j ++ (chJ r s j).take q)).length co).ownBlock = some k → k ≠ bl.block) := ne3
                  rw [← hX] at HN3
                  rw [← hX]
                  subst hav
                  have hi1 : (q : Int) < ((chJ r s j).length : Int) := by omega
                  have hi0 : (0 : Int) ≤ (q : Int) := by omega
                  have HXN : Hid (XF s (r.un) (AL r s j ++ (chJ r s j).take (q + 1)) = XF s (r.un) ((AL r s j ++ (chJ r s j).take q) ++ [d])) := by unfold Hid; rw [take_snoc hlt, ← List.append_assoc, hd]
                  clear iv3 ne3 hd hX
                  by_cases hdt : (r.un) < d
                  · have HK3 : Hid (IL W0 (.slice ao X.length co) X wr) := K3
                    clear K3
                    go_wp2
                    go_ret
                    exact FIN.out _ X wr HK3.out (by rw [sp_stop hr s0 s1 hj2 hlt (by rw [← HD.out]; exact hdt), ← HXX.out, List.take_of_length_le (by omega)])
                  · by_cases hfull : most ≤ (X.length : Int)
                    · have HK3 : Hid (IL W0 (.slice ao X.length co) X wr) := K3
                      clear K3
                      go_wp2
                      go_ret
                      exact FIN.out _ X wr HK3.out (by obtain ⟨Z, hZ⟩ := sp_split (T := r.un) hj2 hlt; rw [hZ, ← HXX.out, List.take_append, List.take_of_length_le (by omega), show most.toNat - X.length = 0 by omega, List.take_zero, List.append_nil])
                    · by_cases hds : s ≤ d
                      · have KK := K3
                        clear K3
                        go_wp2_with (first
                          | (at_builtin; refine wpList_append_at rfl _ _ 24 rfl W0.heap.size 3 i0 (.int .i64 0) 1 8 Tryd.underlying24 hi hz0 hz1 hz2 rfl (by decide) _ _ _ rfl (World.ownsRow.alloc KK.1 _) ⟨_, 0, none⟩ 1 1 [.int .i64 d] rfl rfl (cell_one_new _ _ _) (by simp [Value.oneCell']) (by decide) (by unfold maxLen; omega) (by omega) (by have := KK.2.size; simp; omega) ?_; intro v' w4 hown hgrow hat; have K4 := IL.app KK hown hgrow; clear hown))
                        go_roundw
                        case rel =>
                          refine ⟨q + 1, by omega, by go_num, by rw [HXN.out, XF_yes hds (by omega), ← HXX.out]; exact K4, by rw [HXN.out, XF_yes hds (by omega), ← HXX.out]; simp; omega, ?_, fun bl hbl => ?_⟩
                          · refine IsInts.same (HIV.out.below ((Below.refl _ wr).alloc (Nat.le_refl _) (.cells #[.int .i64 d] 3))) hgrow.size (fun _ x hx' => ?_)
                            exact hgrow.block _ (by have := (HN3.out x hx').1; simp; omega) (fun e => (HN3.out x hx').2 _ e.symm rfl)
                          · have h1 := HN3.out bl hbl
                            refine ⟨by have := hgrow.size; simp at this; omega, fun k hk => ?_⟩
                            rcases hat with h | h
                            · exact h1.2 k (by rw [show v'.ownBlock = (Value.slice ao X.length co).ownBlock from h] at hk; exact hk)
                            · rw [h] at hk; simp at hk; omega
                        case measure => simp [intOf]; omega
                      · have HK3 : Hid (IL W0 (.slice ao X.length co) X wr) := K3
                        clear K3
                        go_wp2
                        go_roundw
                        case rel => exact ⟨q + 1, by omega, by go_num, by rw [HXN.out, XF_no (by omega), ← HXX.out]; exact HK3.out, by rw [HXN.out, XF_no (by omega), ← HXX.out]; exact hlm3, HIV.out, HN3.out⟩
                        case measure => simp [intOf]; omega
                · have hqe : q = (chJ r s j).length := by omega
                  subst hqe
                  have HK3 : Hid (IL W0 (.slice ao X.length co) X wr) := K3
                  obtain ⟨b0, b1', b2', b3', b4', b5', b6', b7', b8'⟩ := HCR4.out
                  rw [← hX]
                  clear K3 iv3 ne3 hX
                  have e0' := hr.e0; have e1' := hr.e1
                  have STEP : Hid (Value.int .i64 ((j : Int) * r.ev + r.ev) = .int .i64 (((j + 1 : Nat) : Int) * r.ev)) := by
                    unfold Hid; rw [show (((j + 1 : Nat)) : Int) = (j : Int) + 1 by omega, Int.add_mul, Int.one_mul]
                  have MEAS : Hid (perN r s (r.un) * 100 + 1 - (intOf (.int .i64 ((j : Int) * r.ev + r.ev))).toNat < perN r s (r.un) * 100 + 1 - (intOf (.int .i64 ((j : Int) * r.ev))).toNat) := by
                    unfold Hid
                    have h5 : (j : Int) * r.ev ≤ (j : Int) * 100 := Int.mul_le_mul_of_nonneg_left e1' (by omega)
                    simp only [intOf]
                    omega
                  go_wp2
                  go_roundw
                  case rel => exact ⟨j + 1, by omega, STEP.out, by rw [AL_succ, ← List.take_length (l := chJ r s j), ← HXX.out]; exact HK3.out, by rw [AL_succ, ← List.take_length (l := chJ r s j), ← HXX.out]; exact hlm3⟩
                  case measure => exact MEAS.out
            · have hje : j = perN r s (r.un) := by omega
              have HK1 : Hid (IL W0 u9 (XF s (r.un) (AL r s j)) w1) := KK1
              have hout := perN_out hr («to» := r.un) s0 s1
              rw [← hje] at hout
              have HFN : Hid ((comes r s (r.un)).take most.toNat = XF s (r.un) (AL r s j)) := by unfold Hid comes; rw [← hje, List.take_of_length_le (by omega)]
              clear hje
              by_cases hmx : spanF r s (j * r.ev) ≤ 3652058
              · obtain ⟨rfl, rfl⟩ := hxy hmx
                rw [decide_eq_true hmx]
                have hto : (r.un) < spanF r s (j * r.ev) := by omega
                clear hout hxy KK1
                go_wp2
                go_ret
                exact FIN.out _ _ w1 HK1.out HFN.out
              · rw [decide_eq_false hmx]
                clear hout hxy KK1
                go_wp2
                go_ret
                exact FIN.out _ _ w1 HK1.out HFN.out
      · skip
        have hT' : T = r.un := by rw [hT]; unfold limT; rw [if_pos ⟨hu1, hu2⟩]
        have hM' : Mo = most := by rw [hMo]; unfold mostT; rw [if_neg (fun h => hc1 h.1)]
        rw [hT', hM'] at FIN ⊢
        rw [hM'] at hMb
        clear hT' hM' hT hMo T Mo
        go_enter Tryd.func41, Tryd.ntmps41
        go_wp2
        rw [← HW0.out]
        go_loopw [9, 10] (fun v i wr => ∃ j : Nat, j ≤ perN r s (r.un) ∧ i = .int .i64 (j * r.ev) ∧ IL W0 v (XF s (r.un) (AL r s j)) wr ∧ ((XF s (r.un) (AL r s j)).length : Int) ≤ most) (fun _ i _ => perN r s (r.un) * 100 + 1 - (intOf i).toNat)
        case atStart => exact ⟨0, Nat.zero_le _, by simp, by have := K0.out; rw [HZ0.out] at this; exact this, by show (0 : Int) ≤ most; omega⟩
        case round =>
          obtain ⟨j, hj, rfl, K1, hlm⟩ := hrel
          have hb : Below W0.heap.size W0 wr := K1.2
          obtain ⟨q0, q1, q2, q3, q4, q5, q6, q7, q8⟩ := HCR.out.on (hb.block _ HCR.out.lt)
          have hn := per_n hr hj
          have HM1 : Hid (RMem wr r m) := HM.out.below hb
          have HCR1 : Hid (CB wr w.heap.size r m) := HCR.out.on (hb.block _ HCR.out.lt)
          clear hb
          go_wp2_with fail
          refine (specSpan r m s _ wr hr s0 s1 hn.1 (by omega)).mono ?_
          rintro e w1 ⟨⟨x, y, rfl, hxy⟩, b1⟩
          have KK1 := IL.on K1 b1
          have HM2 : Hid (RMem w1 r m) := HM1.out.below b1
          have HCR2 : Hid (CB w1 w.heap.size r m) := HCR1.out.on (b1.block _ HCR1.out.lt)
          clear K1 b1 q0 q1 q2 q3 q4 q5 q6 q7 q8
          by_cases hj2 : j < perN r s (r.un)
          · have hin := perN_in hj2
            obtain ⟨rfl, rfl⟩ := hxy hin.2
            have hlen := span_len hr s0 s1 (n := j * r.ev) hn.1
            have hgr := span_grow hr s0 s1 (j * r.ev).toNat
            rw [show (((j * r.ev).toNat : Nat) : Int) = j * r.ev by omega] at hgr
            rw [decide_eq_true hin.2]
            obtain ⟨q0, q1, q2, q3, q4, q5, q6, q7, q8⟩ := HCR2.out
            have hin1 := hin.1
            go_wp2_with fail
            refine (specPeriod r m s _ _ w1 hr HM2.out hl0 hl1 hl2 hl3 HX.out s0 s1 (by omega) (by omega) (by omega) (by omega)).mono ?_
            rintro e w2 ⟨⟨v2, rfl, ov⟩, b2⟩
            have ov : OI w2 w1.heap.size v2 (chJ r s j) := ov
            have ovl := ov.lt
            have kol := KK1.1.lt
            obtain ⟨av, cv, rfl, iv, _, _⟩ := ov.val
            have KK2 := IL.on KK1 b2
            have HI2 : Hid (IsInts w2 av (chJ r s j)) := iv
            have HNE : Hid (∀ bl, av = some bl → bl.block < w2.heap.size ∧ ∀ k, u9.ownBlock = some k → k ≠ bl.block) := fun bl hbl => by
              subst hbl
              have h1 := ovl bl.block rfl
              exact ⟨h1.2, fun k hk => by have := (kol k hk).2; omega⟩
            have hll := chJ_len hr s0 s1 j
            have HK2 : Hid (IL W0 u9 (XF s (r.un) (AL r s j)) w2) := KK2
            have HCR3 : Hid (CB w2 w.heap.size r m) := HCR2.out.on (b2.block _ HCR2.out.lt)
            clear ov ovl kol iv KK1 KK2 b2 q0 q1 q2 q3 q4 q5 q6 q7 q8
            obtain ⟨wo, hwo⟩ : ∃ wo, wo = wr := ⟨_, rfl⟩
            subst hwo
            go_wp2
            go_loopw [9, 15] (fun v i wr => ∃ q : Nat, q ≤ (chJ r s j).length ∧ i = .int .i64 q ∧ IL W0 v (XF s (r.un) (AL r s j ++ (chJ r s j).take q)) wr ∧ ((XF s (r.un) (AL r s j ++ (chJ r s j).take q)).length : Int) ≤ most ∧ IsInts wr av (chJ r s j) ∧ ∀ bl, av = some bl → bl.block < wr.heap.size ∧ ∀ k, v.ownBlock = some k → k ≠ bl.block) (fun _ i _ => (chJ r s j).length - (intOf i).toNat)
            case atStart => exact ⟨0, Nat.zero_le _, rfl, by rw [List.take_zero, List.append_nil]; exact HK2.out, by rw [List.take_zero, List.append_nil]; exact hlm, HI2.out, HNE.out⟩
            case round =>
              obtain ⟨q, hq, rfl, K3, hlm3, iv3, ne3⟩ := hrel
              have HCR4 : Hid (CB wr w.heap.size r m) := HCR.out.on (K3.2.block _ HCR.out.lt)
              obtain ⟨ao, co, hvo⟩ := K3.1.shape0
              subst hvo
              obtain ⟨X, hX⟩ : ∃ X, X = XF s (r.un) (AL r s j ++ (chJ r s j).take q) := ⟨_, rfl⟩
              rw [← hX] at K3 hlm3
              have HXX : Hid (X = XF s (r.un) (AL r s j ++ (chJ r s j).take q)) := hX
              by_cases hlt : q < (chJ r s j).length
              · obtain ⟨d, hd⟩ : ∃ d, d = gi (chJ r s j) q := ⟨_, rfl⟩
                have HD : Hid (d = gi (chJ r s j) q) := hd
                have hdm := choice_mem (show d ∈ chJ r s j by rw [hd]; exact gi_mem hlt)
                have e0 : ∃ bL oL, av = some ⟨bL, oL, none⟩ ∧ bL < wr.heap.size ∧ wr.cell? ⟨bL, oL + q, none⟩ = some (.int .i64 d) := by
                  rcases iv3 with h | ⟨bL, oL, h1, h2, h3⟩
                  · rw [h] at hlt; simp at hlt
                  · exact ⟨bL, oL, h1, h2, by rw [hd]; exact h3 q hlt⟩
                obtain ⟨bL, oL, hav, hbl, cL⟩ := e0
                have HIV : Hid (IsInts wr av (chJ r s j)) := iv3
                have HN3 : Hid (∀ bl, av = some bl → bl.block < wr.heap.size ∧ ∀ k, (Value.slice ao (XF s (r.un) (AL r s j ++ (chJ r s j).take q)).length co).ownBlock = some k → k ≠ bl.block) := ne3
                rw [← hX] at HN3
                rw [← hX]
                subst hav
                have hi1 : (q : Int) < ((chJ r s j).length : Int) := by omega
                have hi0 : (0 : Int) ≤ (q : Int) := by omega
                have HXN : Hid (XF s (r.un) (AL r s j ++ (chJ r s j).take (q + 1)) = XF s (r.un) ((AL r s j ++ (chJ r s j).take q) ++ [d])) := by unfold Hid; rw [take_snoc hlt, ← List.append_assoc, hd]
                clear iv3 ne3 hd hX
                by_cases hdt : (r.un) < d
                · have HK3 : Hid (IL W0 (.slice ao X.length co) X wr) := K3
                  clear K3
                  go_wp2
                  go_ret
                  exact FIN.out _ X wr HK3.out (by rw [sp_stop hr s0 s1 hj2 hlt (by rw [← HD.out]; exact hdt), ← HXX.out, List.take_of_length_le (by omega)])
                · by_cases hfull : most ≤ (X.length : Int)
                  · have HK3 : Hid (IL W0 (.slice ao X.length co) X wr) := K3
                    clear K3
                    go_wp2
                    go_ret
                    exact FIN.out _ X wr HK3.out (by obtain ⟨Z, hZ⟩ := sp_split (T := r.un) hj2 hlt; rw [hZ, ← HXX.out, List.take_append, List.take_of_length_le (by omega), show most.toNat - X.length = 0 by omega, List.take_zero, List.append_nil])
                  · by_cases hds : s ≤ d
                    · have KK := K3
                      clear K3
                      go_wp2_with (first
                        | (at_builtin; refine wpList_append_at rfl _ _ 24 rfl W0.heap.size 3 i0 (.int .i64 0) 1 8 Tryd.underlying24 hi hz0 hz1 hz2 rfl (by decide) _ _ _ rfl (World.ownsRow.alloc KK.1 _) ⟨_, 0, none⟩ 1 1 [.int .i64 d] rfl rfl (cell_one_new _ _ _) (by simp [Value.oneCell']) (by decide) (by unfold maxLen; omega) (by omega) (by have := KK.2.size; simp; omega) ?_; intro v' w4 hown hgrow hat; have K4 := IL.app KK hown hgrow; clear hown))
                      go_roundw
                      case rel =>
                        refine ⟨q + 1, by omega, by go_num, by rw [HXN.out, XF_yes hds (by omega), ← HXX.out]; exact K4, by rw [HXN.out, XF_yes hds (by omega), ← HXX.out]; simp; omega, ?_, fun bl hbl => ?_⟩
                        · refine IsInts.same (HIV.out.below ((Below.refl _ wr).alloc (Nat.le_refl _) (.cells #[.int .i64 d] 3))) hgrow.size (fun _ x hx' => ?_)
                          exact hgrow.block _ (by have := (HN3.out x hx').1; simp; omega) (fun e => (HN3.out x hx').2 _ e.symm rfl)
                        · have h1 := HN3.out bl hbl
                          refine ⟨by have := hgrow.size; simp at this; omega, fun k hk => ?_⟩
                          rcases hat with h | h
                          · exact h1.2 k (by rw [show v'.ownBlock = (Value.slice ao X.length co).ownBlock from h] at hk; exact hk)
                          · rw [h] at hk; simp at hk; omega
                      case measure => simp [intOf]; omega
                    · have HK3 : Hid (IL W0 (.slice ao X.length co) X wr) := K3
                      clear K3
                      go_wp2
                      go_roundw
                      case rel => exact ⟨q + 1, by omega, by go_num, by rw [HXN.out, XF_no (by omega), ← HXX.out]; exact HK3.out, by rw [HXN.out, XF_no (by omega), ← HXX.out]; exact hlm3, HIV.out, HN3.out⟩
                      case measure => simp [intOf]; omega
              · have hqe : q = (chJ r s j).length := by omega
                subst hqe
                have HK3 : Hid (IL W0 (.slice ao X.length co) X wr) := K3
                obtain ⟨b0, b1', b2', b3', b4', b5', b6', b7', b8'⟩ := HCR4.out
                rw [← hX]
                clear K3 iv3 ne3 hX
                have e0' := hr.e0; have e1' := hr.e1
                have STEP : Hid (Value.int .i64 ((j : Int) * r.ev + r.ev) = .int .i64 (((j + 1 : Nat) : Int) * r.ev)) := by
                  unfold Hid; rw [show (((j + 1 : Nat)) : Int) = (j : Int) + 1 by omega, Int.add_mul, Int.one_mul]
                have MEAS : Hid (perN r s (r.un) * 100 + 1 - (intOf (.int .i64 ((j : Int) * r.ev + r.ev))).toNat < perN r s (r.un) * 100 + 1 - (intOf (.int .i64 ((j : Int) * r.ev))).toNat) := by
                  unfold Hid
                  have h5 : (j : Int) * r.ev ≤ (j : Int) * 100 := Int.mul_le_mul_of_nonneg_left e1' (by omega)
                  simp only [intOf]
                  omega
                go_wp2
                go_roundw
                case rel => exact ⟨j + 1, by omega, STEP.out, by rw [AL_succ, ← List.take_length (l := chJ r s j), ← HXX.out]; exact HK3.out, by rw [AL_succ, ← List.take_length (l := chJ r s j), ← HXX.out]; exact hlm3⟩
                case measure => exact MEAS.out
          · have hje : j = perN r s (r.un) := by omega
            have HK1 : Hid (IL W0 u9 (XF s (r.un) (AL r s j)) w1) := KK1
            have hout := perN_out hr («to» := r.un) s0 s1
            rw [← hje] at hout
            have HFN : Hid ((comes r s (r.un)).take most.toNat = XF s (r.un) (AL r s j)) := by unfold Hid comes; rw [← hje, List.take_of_length_le (by omega)]
            clear hje
            by_cases hmx : spanF r s (j * r.ev) ≤ 3652058
            · obtain ⟨rfl, rfl⟩ := hxy hmx
              rw [decide_eq_true hmx]
              have hto : (r.un) < spanF r s (j * r.ev) := by omega
              clear hout hxy KK1
              go_wp2
              go_ret
              exact FIN.out _ _ w1 HK1.out HFN.out
            · rw [decide_eq_false hmx]
              clear hout hxy KK1
              go_wp2
              go_ret
              exact FIN.out _ _ w1 HK1.out HFN.out
    · skip
      by_cases hc1 : 0 < r.ct
      · by_cases hc2 : r.ct < most
        · skip
          have hT' : T = te := by rw [hT]; unfold limT; rw [if_neg (fun h => hu2 h.2)]
          have hM' : Mo = r.ct := by rw [hMo]; unfold mostT; rw [if_pos ⟨hc1, hc2⟩]
          rw [hT', hM'] at FIN ⊢
          rw [hM'] at hMb
          clear hT' hM' hT hMo T Mo
          go_enter Tryd.func41, Tryd.ntmps41
          go_wp2
          rw [← HW0.out]
          go_loopw [9, 10] (fun v i wr => ∃ j : Nat, j ≤ perN r s te ∧ i = .int .i64 (j * r.ev) ∧ IL W0 v (XF s te (AL r s j)) wr ∧ ((XF s te (AL r s j)).length : Int) ≤ (r.ct)) (fun _ i _ => perN r s te * 100 + 1 - (intOf i).toNat)
          case atStart => exact ⟨0, Nat.zero_le _, by simp, by have := K0.out; rw [HZ0.out] at this; exact this, by show (0 : Int) ≤ (r.ct); omega⟩
          case round =>
            obtain ⟨j, hj, rfl, K1, hlm⟩ := hrel
            have hb : Below W0.heap.size W0 wr := K1.2
            obtain ⟨q0, q1, q2, q3, q4, q5, q6, q7, q8⟩ := HCR.out.on (hb.block _ HCR.out.lt)
            have hn := per_n hr hj
            have HM1 : Hid (RMem wr r m) := HM.out.below hb
            have HCR1 : Hid (CB wr w.heap.size r m) := HCR.out.on (hb.block _ HCR.out.lt)
            clear hb
            go_wp2_with fail
            refine (specSpan r m s _ wr hr s0 s1 hn.1 (by omega)).mono ?_
            rintro e w1 ⟨⟨x, y, rfl, hxy⟩, b1⟩
            have KK1 := IL.on K1 b1
            have HM2 : Hid (RMem w1 r m) := HM1.out.below b1
            have HCR2 : Hid (CB w1 w.heap.size r m) := HCR1.out.on (b1.block _ HCR1.out.lt)
            clear K1 b1 q0 q1 q2 q3 q4 q5 q6 q7 q8
            by_cases hj2 : j < perN r s te
            · have hin := perN_in hj2
              obtain ⟨rfl, rfl⟩ := hxy hin.2
              have hlen := span_len hr s0 s1 (n := j * r.ev) hn.1
              have hgr := span_grow hr s0 s1 (j * r.ev).toNat
              rw [show (((j * r.ev).toNat : Nat) : Int) = j * r.ev by omega] at hgr
              rw [decide_eq_true hin.2]
              obtain ⟨q0, q1, q2, q3, q4, q5, q6, q7, q8⟩ := HCR2.out
              have hin1 := hin.1
              go_wp2_with fail
              refine (specPeriod r m s _ _ w1 hr HM2.out hl0 hl1 hl2 hl3 HX.out s0 s1 (by omega) (by omega) (by omega) (by omega)).mono ?_
              rintro e w2 ⟨⟨v2, rfl, ov⟩, b2⟩
              have ov : OI w2 w1.heap.size v2 (chJ r s j) := ov
              have ovl := ov.lt
              have kol := KK1.1.lt
              obtain ⟨av, cv, rfl, iv, _, _⟩ := ov.val
              have KK2 := IL.on KK1 b2
              have HI2 : Hid (IsInts w2 av (chJ r s j)) := iv
              have HNE : Hid (∀ bl, av = some bl → bl.block < w2.heap.size ∧ ∀ k, u9.ownBlock = some k → k ≠ bl.block) := fun bl hbl => by
                subst hbl
                have h1 := ovl bl.block rfl
                exact ⟨h1.2, fun k hk => by have := (kol k hk).2; omega⟩
              have hll := chJ_len hr s0 s1 j
              have HK2 : Hid (IL W0 u9 (XF s te (AL r s j)) w2) := KK2
              have HCR3 : Hid (CB w2 w.heap.size r m) := HCR2.out.on (b2.block _ HCR2.out.lt)
              clear ov ovl kol iv KK1 KK2 b2 q0 q1 q2 q3 q4 q5 q6 q7 q8
              obtain ⟨wo, hwo⟩ : ∃ wo, wo = wr := ⟨_, rfl⟩
              subst hwo
              go_wp2
              go_loopw [9, 15] (fun v i wr => ∃ q : Nat, q ≤ (chJ r s j).length ∧ i = .int .i64 q ∧ IL W0 v (XF s te (AL r s j ++ (chJ r s j).take q)) wr ∧ ((XF s te (AL r s j ++ (chJ r s j).take q)).length : Int) ≤ (r.ct) ∧ IsInts wr av (chJ r s j) ∧ ∀ bl, av = some bl → bl.block < wr.heap.size ∧ ∀ k, v.ownBlock = some k → k ≠ bl.block) (fun _ i _ => (chJ r s j).length - (intOf i).toNat)
              case atStart => exact ⟨0, Nat.zero_le _, rfl, by rw [List.take_zero, List.append_nil]; exact HK2.out, by rw [List.take_zero, List.append_nil]; exact hlm, HI2.out, HNE.out⟩
              case round =>
                obtain ⟨q, hq, rfl, K3, hlm3, iv3, ne3⟩ := hrel
                have HCR4 : Hid (CB wr w.heap.size r m) := HCR.out.on (K3.2.block _ HCR.out.lt)
                obtain ⟨ao, co, hvo⟩ := K3.1.shape0
                subst hvo
                obtain ⟨X, hX⟩ : ∃ X, X = XF s te (AL r s j ++ (chJ r s j).take q) := ⟨_, rfl⟩
                rw [← hX] at K3 hlm3
                have HXX : Hid (X = XF s te (AL r s j ++ (chJ r s j).take q)) := hX
                by_cases hlt : q < (chJ r s j).length
                · obtain ⟨d, hd⟩ : ∃ d, d = gi (chJ r s j) q := ⟨_, rfl⟩
                  have HD : Hid (d = gi (chJ r s j) q) := hd
                  have hdm := choice_mem (show d ∈ chJ r s j by rw [hd]; exact gi_mem hlt)
                  have e0 : ∃ bL oL, av = some ⟨bL, oL, none⟩ ∧ bL < wr.heap.size ∧ wr.cell? ⟨bL, oL + q, none⟩ = some (.int .i64 d) := by
                    rcases iv3 with h | ⟨bL, oL, h1, h2, h3⟩
                    · rw [h] at hlt; simp at hlt
                    · exact ⟨bL, oL, h1, h2, by rw [hd]; exact h3 q hlt⟩
                  obtain ⟨bL, oL, hav, hbl, cL⟩ := e0
                  have HIV : Hid (IsInts wr av (chJ r s j)) := iv3
                  have HN3 : Hid (∀ bl, av = some bl → bl.block < wr.heap.size ∧ ∀ k, (Value.slice ao (XF s te (AL r s j ++ (chJ r s j).take q)).length co).ownBlock = some k → k ≠ bl.block) := ne3
                  rw [← hX] at HN3
                  rw [← hX]
                  subst hav
                  have hi1 : (q : Int) < ((chJ r s j).length : Int) := by omega
                  have hi0 : (0 : Int) ≤ (q : Int) := by omega
                  have HXN : Hid (XF s te (AL r s j ++ (chJ r s j).take (q + 1)) = XF s te ((AL r s j ++ (chJ r s j).take q) ++ [d])) := by unfold Hid; rw [take_snoc hlt, ← List.append_assoc, hd]
                  clear iv3 ne3 hd hX
                  by_cases hdt : te < d
                  · have HK3 : Hid (IL W0 (.slice ao X.length co) X wr) := K3
                    clear K3
                    go_wp2
                    go_ret
                    exact FIN.out _ X wr HK3.out (by rw [sp_stop hr s0 s1 hj2 hlt (by rw [← HD.out]; exact hdt), ← HXX.out, List.take_of_length_le (by omega)])
                  · by_cases hfull : (r.ct) ≤ (X.length : Int)
                    · have HK3 : Hid (IL W0 (.slice ao X.length co) X wr) := K3
                      clear K3
                      go_wp2
                      go_ret
                      exact FIN.out _ X wr HK3.out (by obtain ⟨Z, hZ⟩ := sp_split (T := te) hj2 hlt; rw [hZ, ← HXX.out, List.take_append, List.take_of_length_le (by omega), show (r.ct).toNat - X.length = 0 by omega, List.take_zero, List.append_nil])
                    · by_cases hds : s ≤ d
                      · have KK := K3
                        clear K3
                        go_wp2_with (first
                          | (at_builtin; refine wpList_append_at rfl _ _ 24 rfl W0.heap.size 3 i0 (.int .i64 0) 1 8 Tryd.underlying24 hi hz0 hz1 hz2 rfl (by decide) _ _ _ rfl (World.ownsRow.alloc KK.1 _) ⟨_, 0, none⟩ 1 1 [.int .i64 d] rfl rfl (cell_one_new _ _ _) (by simp [Value.oneCell']) (by decide) (by unfold maxLen; omega) (by omega) (by have := KK.2.size; simp; omega) ?_; intro v' w4 hown hgrow hat; have K4 := IL.app KK hown hgrow; clear hown))
                        go_roundw
                        case rel =>
                          refine ⟨q + 1, by omega, by go_num, by rw [HXN.out, XF_yes hds (by omega), ← HXX.out]; exact K4, by rw [HXN.out, XF_yes hds (by omega), ← HXX.out]; simp; omega, ?_, fun bl hbl => ?_⟩
                          · refine IsInts.same (HIV.out.below ((Below.refl _ wr).alloc (Nat.le_refl _) (.cells #[.int .i64 d] 3))) hgrow.size (fun _ x hx' => ?_)
                            exact hgrow.block _ (by have := (HN3.out x hx').1; simp; omega) (fun e => (HN3.out x hx').2 _ e.symm rfl)
                          · have h1 := HN3.out bl hbl
                            refine ⟨by have := hgrow.size; simp at this; omega, fun k hk => ?_⟩
                            rcases hat with h | h
                            · exact h1.2 k (by rw [show v'.ownBlock = (Value.slice ao X.length co).ownBlock from h] at hk; exact hk)
                            · rw [h] at hk; simp at hk; omega
                        case measure => simp [intOf]; omega
                      · have HK3 : Hid (IL W0 (.slice ao X.length co) X wr) := K3
                        clear K3
                        go_wp2
                        go_roundw
                        case rel => exact ⟨q + 1, by omega, by go_num, by rw [HXN.out, XF_no (by omega), ← HXX.out]; exact HK3.out, by rw [HXN.out, XF_no (by omega), ← HXX.out]; exact hlm3, HIV.out, HN3.out⟩
                        case measure => simp [intOf]; omega
                · have hqe : q = (chJ r s j).length := by omega
                  subst hqe
                  have HK3 : Hid (IL W0 (.slice ao X.length co) X wr) := K3
                  obtain ⟨b0, b1', b2', b3', b4', b5', b6', b7', b8'⟩ := HCR4.out
                  rw [← hX]
                  clear K3 iv3 ne3 hX
                  have e0' := hr.e0; have e1' := hr.e1
                  have STEP : Hid (Value.int .i64 ((j : Int) * r.ev + r.ev) = .int .i64 (((j + 1 : Nat) : Int) * r.ev)) := by
                    unfold Hid; rw [show (((j + 1 : Nat)) : Int) = (j : Int) + 1 by omega, Int.add_mul, Int.one_mul]
                  have MEAS : Hid (perN r s te * 100 + 1 - (intOf (.int .i64 ((j : Int) * r.ev + r.ev))).toNat < perN r s te * 100 + 1 - (intOf (.int .i64 ((j : Int) * r.ev))).toNat) := by
                    unfold Hid
                    have h5 : (j : Int) * r.ev ≤ (j : Int) * 100 := Int.mul_le_mul_of_nonneg_left e1' (by omega)
                    simp only [intOf]
                    omega
                  go_wp2
                  go_roundw
                  case rel => exact ⟨j + 1, by omega, STEP.out, by rw [AL_succ, ← List.take_length (l := chJ r s j), ← HXX.out]; exact HK3.out, by rw [AL_succ, ← List.take_length (l := chJ r s j), ← HXX.out]; exact hlm3⟩
                  case measure => exact MEAS.out
            · have hje : j = perN r s te := by omega
              have HK1 : Hid (IL W0 u9 (XF s te (AL r s j)) w1) := KK1
              have hout := perN_out hr («to» := te) s0 s1
              rw [← hje] at hout
              have HFN : Hid ((comes r s te).take (r.ct).toNat = XF s te (AL r s j)) := by unfold Hid comes; rw [← hje, List.take_of_length_le (by omega)]
              clear hje
              by_cases hmx : spanF r s (j * r.ev) ≤ 3652058
              · obtain ⟨rfl, rfl⟩ := hxy hmx
                rw [decide_eq_true hmx]
                have hto : te < spanF r s (j * r.ev) := by omega
                clear hout hxy KK1
                go_wp2
                go_ret
                exact FIN.out _ _ w1 HK1.out HFN.out
              · rw [decide_eq_false hmx]
                clear hout hxy KK1
                go_wp2
                go_ret
                exact FIN.out _ _ w1 HK1.out HFN.out
        · skip
          have hT' : T = te := by rw [hT]; unfold limT; rw [if_neg (fun h => hu2 h.2)]
          have hM' : Mo = most := by rw [hMo]; unfold mostT; rw [if_neg (fun h => hc2 h.2)]
          rw [hT', hM'] at FIN ⊢
          rw [hM'] at hMb
          clear hT' hM' hT hMo T Mo
          go_enter Tryd.func41, Tryd.ntmps41
          go_wp2
          rw [← HW0.out]
          go_loopw [9, 10] (fun v i wr => ∃ j : Nat, j ≤ perN r s te ∧ i = .int .i64 (j * r.ev) ∧ IL W0 v (XF s te (AL r s j)) wr ∧ ((XF s te (AL r s j)).length : Int) ≤ most) (fun _ i _ => perN r s te * 100 + 1 - (intOf i).toNat)
          case atStart => exact ⟨0, Nat.zero_le _, by simp, by have := K0.out; rw [HZ0.out] at this; exact this, by show (0 : Int) ≤ most; omega⟩
          case round =>
            obtain ⟨j, hj, rfl, K1, hlm⟩ := hrel
            have hb : Below W0.heap.size W0 wr := K1.2
            obtain ⟨q0, q1, q2, q3, q4, q5, q6, q7, q8⟩ := HCR.out.on (hb.block _ HCR.out.lt)
            have hn := per_n hr hj
            have HM1 : Hid (RMem wr r m) := HM.out.below hb
            have HCR1 : Hid (CB wr w.heap.size r m) := HCR.out.on (hb.block _ HCR.out.lt)
            clear hb
            go_wp2_with fail
            refine (specSpan r m s _ wr hr s0 s1 hn.1 (by omega)).mono ?_
            rintro e w1 ⟨⟨x, y, rfl, hxy⟩, b1⟩
            have KK1 := IL.on K1 b1
            have HM2 : Hid (RMem w1 r m) := HM1.out.below b1
            have HCR2 : Hid (CB w1 w.heap.size r m) := HCR1.out.on (b1.block _ HCR1.out.lt)
            clear K1 b1 q0 q1 q2 q3 q4 q5 q6 q7 q8
            by_cases hj2 : j < perN r s te
            · have hin := perN_in hj2
              obtain ⟨rfl, rfl⟩ := hxy hin.2
              have hlen := span_len hr s0 s1 (n := j * r.ev) hn.1
              have hgr := span_grow hr s0 s1 (j * r.ev).toNat
              rw [show (((j * r.ev).toNat : Nat) : Int) = j * r.ev by omega] at hgr
              rw [decide_eq_true hin.2]
              obtain ⟨q0, q1, q2, q3, q4, q5, q6, q7, q8⟩ := HCR2.out
              have hin1 := hin.1
              go_wp2_with fail
              refine (specPeriod r m s _ _ w1 hr HM2.out hl0 hl1 hl2 hl3 HX.out s0 s1 (by omega) (by omega) (by omega) (by omega)).mono ?_
              rintro e w2 ⟨⟨v2, rfl, ov⟩, b2⟩
              have ov : OI w2 w1.heap.size v2 (chJ r s j) := ov
              have ovl := ov.lt
              have kol := KK1.1.lt
              obtain ⟨av, cv, rfl, iv, _, _⟩ := ov.val
              have KK2 := IL.on KK1 b2
              have HI2 : Hid (IsInts w2 av (chJ r s j)) := iv
              have HNE : Hid (∀ bl, av = some bl → bl.block < w2.heap.size ∧ ∀ k, u9.ownBlock = some k → k ≠ bl.block) := fun bl hbl => by
                subst hbl
                have h1 := ovl bl.block rfl
                exact ⟨h1.2, fun k hk => by have := (kol k hk).2; omega⟩
              have hll := chJ_len hr s0 s1 j
              have HK2 : Hid (IL W0 u9 (XF s te (AL r s j)) w2) := KK2
              have HCR3 : Hid (CB w2 w.heap.size r m) := HCR2.out.on (b2.block _ HCR2.out.lt)
              clear ov ovl kol iv KK1 KK2 b2 q0 q1 q2 q3 q4 q5 q6 q7 q8
              obtain ⟨wo, hwo⟩ : ∃ wo, wo = wr := ⟨_, rfl⟩
              subst hwo
              go_wp2
              go_loopw [9, 15] (fun v i wr => ∃ q : Nat, q ≤ (chJ r s j).length ∧ i = .int .i64 q ∧ IL W0 v (XF s te (AL r s j ++ (chJ r s j).take q)) wr ∧ ((XF s te (AL r s j ++ (chJ r s j).take q)).length : Int) ≤ most ∧ IsInts wr av (chJ r s j) ∧ ∀ bl, av = some bl → bl.block < wr.heap.size ∧ ∀ k, v.ownBlock = some k → k ≠ bl.block) (fun _ i _ => (chJ r s j).length - (intOf i).toNat)
              case atStart => exact ⟨0, Nat.zero_le _, rfl, by rw [List.take_zero, List.append_nil]; exact HK2.out, by rw [List.take_zero, List.append_nil]; exact hlm, HI2.out, HNE.out⟩
              case round =>
                obtain ⟨q, hq, rfl, K3, hlm3, iv3, ne3⟩ := hrel
                have HCR4 : Hid (CB wr w.heap.size r m) := HCR.out.on (K3.2.block _ HCR.out.lt)
                obtain ⟨ao, co, hvo⟩ := K3.1.shape0
                subst hvo
                obtain ⟨X, hX⟩ : ∃ X, X = XF s te (AL r s j ++ (chJ r s j).take q) := ⟨_, rfl⟩
                rw [← hX] at K3 hlm3
                have HXX : Hid (X = XF s te (AL r s j ++ (chJ r s j).take q)) := hX
                by_cases hlt : q < (chJ r s j).length
                · obtain ⟨d, hd⟩ : ∃ d, d = gi (chJ r s j) q := ⟨_, rfl⟩
                  have HD : Hid (d = gi (chJ r s j) q) := hd
                  have hdm := choice_mem (show d ∈ chJ r s j by rw [hd]; exact gi_mem hlt)
                  have e0 : ∃ bL oL, av = some ⟨bL, oL, none⟩ ∧ bL < wr.heap.size ∧ wr.cell? ⟨bL, oL + q, none⟩ = some (.int .i64 d) := by
                    rcases iv3 with h | ⟨bL, oL, h1, h2, h3⟩
                    · rw [h] at hlt; simp at hlt
                    · exact ⟨bL, oL, h1, h2, by rw [hd]; exact h3 q hlt⟩
                  obtain ⟨bL, oL, hav, hbl, cL⟩ := e0
                  have HIV : Hid (IsInts wr av (chJ r s j)) := iv3
                  have HN3 : Hid (∀ bl, av = some bl → bl.block < wr.heap.size ∧ ∀ k, (Value.slice ao (XF s te (AL r s j ++ (chJ r s j).take q)).length co).ownBlock = some k → k ≠ bl.block) := ne3
                  rw [← hX] at HN3
                  rw [← hX]
                  subst hav
                  have hi1 : (q : Int) < ((chJ r s j).length : Int) := by omega
                  have hi0 : (0 : Int) ≤ (q : Int) := by omega
                  have HXN : Hid (XF s te (AL r s j ++ (chJ r s j).take (q + 1)) = XF s te ((AL r s j ++ (chJ r s j).take q) ++ [d])) := by unfold Hid; rw [take_snoc hlt, ← List.append_assoc, hd]
                  clear iv3 ne3 hd hX
                  by_cases hdt : te < d
                  · have HK3 : Hid (IL W0 (.slice ao X.length co) X wr) := K3
                    clear K3
                    go_wp2
                    go_ret
                    exact FIN.out _ X wr HK3.out (by rw [sp_stop hr s0 s1 hj2 hlt (by rw [← HD.out]; exact hdt), ← HXX.out, List.take_of_length_le (by omega)])
                  · by_cases hfull : most ≤ (X.length : Int)
                    · have HK3 : Hid (IL W0 (.slice ao X.length co) X wr) := K3
                      clear K3
                      go_wp2
                      go_ret
                      exact FIN.out _ X wr HK3.out (by obtain ⟨Z, hZ⟩ := sp_split (T := te) hj2 hlt; rw [hZ, ← HXX.out, List.take_append, List.take_of_length_le (by omega), show most.toNat - X.length = 0 by omega, List.take_zero, List.append_nil])
                    · by_cases hds : s ≤ d
                      · have KK := K3
                        clear K3
                        go_wp2_with (first
                          | (at_builtin; refine wpList_append_at rfl _ _ 24 rfl W0.heap.size 3 i0 (.int .i64 0) 1 8 Tryd.underlying24 hi hz0 hz1 hz2 rfl (by decide) _ _ _ rfl (World.ownsRow.alloc KK.1 _) ⟨_, 0, none⟩ 1 1 [.int .i64 d] rfl rfl (cell_one_new _ _ _) (by simp [Value.oneCell']) (by decide) (by unfold maxLen; omega) (by omega) (by have := KK.2.size; simp; omega) ?_; intro v' w4 hown hgrow hat; have K4 := IL.app KK hown hgrow; clear hown))
                        go_roundw
                        case rel =>
                          refine ⟨q + 1, by omega, by go_num, by rw [HXN.out, XF_yes hds (by omega), ← HXX.out]; exact K4, by rw [HXN.out, XF_yes hds (by omega), ← HXX.out]; simp; omega, ?_, fun bl hbl => ?_⟩
                          · refine IsInts.same (HIV.out.below ((Below.refl _ wr).alloc (Nat.le_refl _) (.cells #[.int .i64 d] 3))) hgrow.size (fun _ x hx' => ?_)
                            exact hgrow.block _ (by have := (HN3.out x hx').1; simp; omega) (fun e => (HN3.out x hx').2 _ e.symm rfl)
                          · have h1 := HN3.out bl hbl
                            refine ⟨by have := hgrow.size; simp at this; omega, fun k hk => ?_⟩
                            rcases hat with h | h
                            · exact h1.2 k (by rw [show v'.ownBlock = (Value.slice ao X.length co).ownBlock from h] at hk; exact hk)
                            · rw [h] at hk; simp at hk; omega
                        case measure => simp [intOf]; omega
                      · have HK3 : Hid (IL W0 (.slice ao X.length co) X wr) := K3
                        clear K3
                        go_wp2
                        go_roundw
                        case rel => exact ⟨q + 1, by omega, by go_num, by rw [HXN.out, XF_no (by omega), ← HXX.out]; exact HK3.out, by rw [HXN.out, XF_no (by omega), ← HXX.out]; exact hlm3, HIV.out, HN3.out⟩
                        case measure => simp [intOf]; omega
                · have hqe : q = (chJ r s j).length := by omega
                  subst hqe
                  have HK3 : Hid (IL W0 (.slice ao X.length co) X wr) := K3
                  obtain ⟨b0, b1', b2', b3', b4', b5', b6', b7', b8'⟩ := HCR4.out
                  rw [← hX]
                  clear K3 iv3 ne3 hX
                  have e0' := hr.e0; have e1' := hr.e1
                  have STEP : Hid (Value.int .i64 ((j : Int) * r.ev + r.ev) = .int .i64 (((j + 1 : Nat) : Int) * r.ev)) := by
                    unfold Hid; rw [show (((j + 1 : Nat)) : Int) = (j : Int) + 1 by omega, Int.add_mul, Int.one_mul]
                  have MEAS : Hid (perN r s te * 100 + 1 - (intOf (.int .i64 ((j : Int) * r.ev + r.ev))).toNat < perN r s te * 100 + 1 - (intOf (.int .i64 ((j : Int) * r.ev))).toNat) := by
                    unfold Hid
                    have h5 : (j : Int) * r.ev ≤ (j : Int) * 100 := Int.mul_le_mul_of_nonneg_left e1' (by omega)
                    simp only [intOf]
                    omega
                  go_wp2
                  go_roundw
                  case rel => exact ⟨j + 1, by omega, STEP.out, by rw [AL_succ, ← List.take_length (l := chJ r s j), ← HXX.out]; exact HK3.out, by rw [AL_succ, ← List.take_length (l := chJ r s j), ← HXX.out]; exact hlm3⟩
                  case measure => exact MEAS.out
            · have hje : j = perN r s te := by omega
              have HK1 : Hid (IL W0 u9 (XF s te (AL r s j)) w1) := KK1
              have hout := perN_out hr («to» := te) s0 s1
              rw [← hje] at hout
              have HFN : Hid ((comes r s te).take most.toNat = XF s te (AL r s j)) := by unfold Hid comes; rw [← hje, List.take_of_length_le (by omega)]
              clear hje
              by_cases hmx : spanF r s (j * r.ev) ≤ 3652058
              · obtain ⟨rfl, rfl⟩ := hxy hmx
                rw [decide_eq_true hmx]
                have hto : te < spanF r s (j * r.ev) := by omega
                clear hout hxy KK1
                go_wp2
                go_ret
                exact FIN.out _ _ w1 HK1.out HFN.out
              · rw [decide_eq_false hmx]
                clear hout hxy KK1
                go_wp2
                go_ret
                exact FIN.out _ _ w1 HK1.out HFN.out
      · skip
        have hT' : T = te := by rw [hT]; unfold limT; rw [if_neg (fun h => hu2 h.2)]
        have hM' : Mo = most := by rw [hMo]; unfold mostT; rw [if_neg (fun h => hc1 h.1)]
        rw [hT', hM'] at FIN ⊢
        rw [hM'] at hMb
        clear hT' hM' hT hMo T Mo
        go_enter Tryd.func41, Tryd.ntmps41
        go_wp2
        rw [← HW0.out]
        go_loopw [9, 10] (fun v i wr => ∃ j : Nat, j ≤ perN r s te ∧ i = .int .i64 (j * r.ev) ∧ IL W0 v (XF s te (AL r s j)) wr ∧ ((XF s te (AL r s j)).length : Int) ≤ most) (fun _ i _ => perN r s te * 100 + 1 - (intOf i).toNat)
        case atStart => exact ⟨0, Nat.zero_le _, by simp, by have := K0.out; rw [HZ0.out] at this; exact this, by show (0 : Int) ≤ most; omega⟩
        case round =>
          obtain ⟨j, hj, rfl, K1, hlm⟩ := hrel
          have hb : Below W0.heap.size W0 wr := K1.2
          obtain ⟨q0, q1, q2, q3, q4, q5, q6, q7, q8⟩ := HCR.out.on (hb.block _ HCR.out.lt)
          have hn := per_n hr hj
          have HM1 : Hid (RMem wr r m) := HM.out.below hb
          have HCR1 : Hid (CB wr w.heap.size r m) := HCR.out.on (hb.block _ HCR.out.lt)
          clear hb
          go_wp2_with fail
          refine (specSpan r m s _ wr hr s0 s1 hn.1 (by omega)).mono ?_
          rintro e w1 ⟨⟨x, y, rfl, hxy⟩, b1⟩
          have KK1 := IL.on K1 b1
          have HM2 : Hid (RMem w1 r m) := HM1.out.below b1
          have HCR2 : Hid (CB w1 w.heap.size r m) := HCR1.out.on (b1.block _ HCR1.out.lt)
          clear K1 b1 q0 q1 q2 q3 q4 q5 q6 q7 q8
          by_cases hj2 : j < perN r s te
          · have hin := perN_in hj2
            obtain ⟨rfl, rfl⟩ := hxy hin.2
            have hlen := span_len hr s0 s1 (n := j * r.ev) hn.1
            have hgr := span_grow hr s0 s1 (j * r.ev).toNat
            rw [show (((j * r.ev).toNat : Nat) : Int) = j * r.ev by omega] at hgr
            rw [decide_eq_true hin.2]
            obtain ⟨q0, q1, q2, q3, q4, q5, q6, q7, q8⟩ := HCR2.out
            have hin1 := hin.1
            go_wp2_with fail
            refine (specPeriod r m s _ _ w1 hr HM2.out hl0 hl1 hl2 hl3 HX.out s0 s1 (by omega) (by omega) (by omega) (by omega)).mono ?_
            rintro e w2 ⟨⟨v2, rfl, ov⟩, b2⟩
            have ov : OI w2 w1.heap.size v2 (chJ r s j) := ov
            have ovl := ov.lt
            have kol := KK1.1.lt
            obtain ⟨av, cv, rfl, iv, _, _⟩ := ov.val
            have KK2 := IL.on KK1 b2
            have HI2 : Hid (IsInts w2 av (chJ r s j)) := iv
            have HNE : Hid (∀ bl, av = some bl → bl.block < w2.heap.size ∧ ∀ k, u9.ownBlock = some k → k ≠ bl.block) := fun bl hbl => by
              subst hbl
              have h1 := ovl bl.block rfl
              exact ⟨h1.2, fun k hk => by have := (kol k hk).2; omega⟩
            have hll := chJ_len hr s0 s1 j
            have HK2 : Hid (IL W0 u9 (XF s te (AL r s j)) w2) := KK2
            have HCR3 : Hid (CB w2 w.heap.size r m) := HCR2.out.on (b2.block _ HCR2.out.lt)
            clear ov ovl kol iv KK1 KK2 b2 q0 q1 q2 q3 q4 q5 q6 q7 q8
            obtain ⟨wo, hwo⟩ : ∃ wo, wo = wr := ⟨_, rfl⟩
            subst hwo
            go_wp2
            go_loopw [9, 15] (fun v i wr => ∃ q : Nat, q ≤ (chJ r s j).length ∧ i = .int .i64 q ∧ IL W0 v (XF s te (AL r s j ++ (chJ r s j).take q)) wr ∧ ((XF s te (AL r s j ++ (chJ r s j).take q)).length : Int) ≤ most ∧ IsInts wr av (chJ r s j) ∧ ∀ bl, av = some bl → bl.block < wr.heap.size ∧ ∀ k, v.ownBlock = some k → k ≠ bl.block) (fun _ i _ => (chJ r s j).length - (intOf i).toNat)
            case atStart => exact ⟨0, Nat.zero_le _, rfl, by rw [List.take_zero, List.append_nil]; exact HK2.out, by rw [List.take_zero, List.append_nil]; exact hlm, HI2.out, HNE.out⟩
            case round =>
              obtain ⟨q, hq, rfl, K3, hlm3, iv3, ne3⟩ := hrel
              have HCR4 : Hid (CB wr w.heap.size r m) := HCR.out.on (K3.2.block _ HCR.out.lt)
              obtain ⟨ao, co, hvo⟩ := K3.1.shape0
              subst hvo
              obtain ⟨X, hX⟩ : ∃ X, X = XF s te (AL r s j ++ (chJ r s j).take q) := ⟨_, rfl⟩
              rw [← hX] at K3 hlm3
              have HXX : Hid (X = XF s te (AL r s j ++ (chJ r s j).take q)) := hX
              by_cases hlt : q < (chJ r s j).length
              · obtain ⟨d, hd⟩ : ∃ d, d = gi (chJ r s j) q := ⟨_, rfl⟩
                have HD : Hid (d = gi (chJ r s j) q) := hd
                have hdm := choice_mem (show d ∈ chJ r s j by rw [hd]; exact gi_mem hlt)
                have e0 : ∃ bL oL, av = some ⟨bL, oL, none⟩ ∧ bL < wr.heap.size ∧ wr.cell? ⟨bL, oL + q, none⟩ = some (.int .i64 d) := by
                  rcases iv3 with h | ⟨bL, oL, h1, h2, h3⟩
                  · rw [h] at hlt; simp at hlt
                  · exact ⟨bL, oL, h1, h2, by rw [hd]; exact h3 q hlt⟩
                obtain ⟨bL, oL, hav, hbl, cL⟩ := e0
                have HIV : Hid (IsInts wr av (chJ r s j)) := iv3
                have HN3 : Hid (∀ bl, av = some bl → bl.block < wr.heap.size ∧ ∀ k, (Value.slice ao (XF s te (AL r s j ++ (chJ r s j).take q)).length co).ownBlock = some k → k ≠ bl.block) := ne3
                rw [← hX] at HN3
                rw [← hX]
                subst hav
                have hi1 : (q : Int) < ((chJ r s j).length : Int) := by omega
                have hi0 : (0 : Int) ≤ (q : Int) := by omega
                have HXN : Hid (XF s te (AL r s j ++ (chJ r s j).take (q + 1)) = XF s te ((AL r s j ++ (chJ r s j).take q) ++ [d])) := by unfold Hid; rw [take_snoc hlt, ← List.append_assoc, hd]
                clear iv3 ne3 hd hX
                by_cases hdt : te < d
                · have HK3 : Hid (IL W0 (.slice ao X.length co) X wr) := K3
                  clear K3
                  go_wp2
                  go_ret
                  exact FIN.out _ X wr HK3.out (by rw [sp_stop hr s0 s1 hj2 hlt (by rw [← HD.out]; exact hdt), ← HXX.out, List.take_of_length_le (by omega)])
                · by_cases hfull : most ≤ (X.length : Int)
                  · have HK3 : Hid (IL W0 (.slice ao X.length co) X wr) := K3
                    clear K3
                    go_wp2
                    go_ret
                    exact FIN.out _ X wr HK3.out (by obtain ⟨Z, hZ⟩ := sp_split (T := te) hj2 hlt; rw [hZ, ← HXX.out, List.take_append, List.take_of_length_le (by omega), show most.toNat - X.length = 0 by omega, List.take_zero, List.append_nil])
                  · by_cases hds : s ≤ d
                    · have KK := K3
                      clear K3
                      go_wp2_with (first
                        | (at_builtin; refine wpList_append_at rfl _ _ 24 rfl W0.heap.size 3 i0 (.int .i64 0) 1 8 Tryd.underlying24 hi hz0 hz1 hz2 rfl (by decide) _ _ _ rfl (World.ownsRow.alloc KK.1 _) ⟨_, 0, none⟩ 1 1 [.int .i64 d] rfl rfl (cell_one_new _ _ _) (by simp [Value.oneCell']) (by decide) (by unfold maxLen; omega) (by omega) (by have := KK.2.size; simp; omega) ?_; intro v' w4 hown hgrow hat; have K4 := IL.app KK hown hgrow; clear hown))
                      go_roundw
                      case rel =>
                        refine ⟨q + 1, by omega, by go_num, by rw [HXN.out, XF_yes hds (by omega), ← HXX.out]; exact K4, by rw [HXN.out, XF_yes hds (by omega), ← HXX.out]; simp; omega, ?_, fun bl hbl => ?_⟩
                        · refine IsInts.same (HIV.out.below ((Below.refl _ wr).alloc (Nat.le_refl _) (.cells #[.int .i64 d] 3))) hgrow.size (fun _ x hx' => ?_)
                          exact hgrow.block _ (by have := (HN3.out x hx').1; simp; omega) (fun e => (HN3.out x hx').2 _ e.symm rfl)
                        · have h1 := HN3.out bl hbl
                          refine ⟨by have := hgrow.size; simp at this; omega, fun k hk => ?_⟩
                          rcases hat with h | h
                          · exact h1.2 k (by rw [show v'.ownBlock = (Value.slice ao X.length co).ownBlock from h] at hk; exact hk)
                          · rw [h] at hk; simp at hk; omega
                      case measure => simp [intOf]; omega
                    · have HK3 : Hid (IL W0 (.slice ao X.length co) X wr) := K3
                      clear K3
                      go_wp2
                      go_roundw
                      case rel => exact ⟨q + 1, by omega, by go_num, by rw [HXN.out, XF_no (by omega), ← HXX.out]; exact HK3.out, by rw [HXN.out, XF_no (by omega), ← HXX.out]; exact hlm3, HIV.out, HN3.out⟩
                      case measure => simp [intOf]; omega
              · have hqe : q = (chJ r s j).length := by omega
                subst hqe
                have HK3 : Hid (IL W0 (.slice ao X.length co) X wr) := K3
                obtain ⟨b0, b1', b2', b3', b4', b5', b6', b7', b8'⟩ := HCR4.out
                rw [← hX]
                clear K3 iv3 ne3 hX
                have e0' := hr.e0; have e1' := hr.e1
                have STEP : Hid (Value.int .i64 ((j : Int) * r.ev + r.ev) = .int .i64 (((j + 1 : Nat) : Int) * r.ev)) := by
                  unfold Hid; rw [show (((j + 1 : Nat)) : Int) = (j : Int) + 1 by omega, Int.add_mul, Int.one_mul]
                have MEAS : Hid (perN r s te * 100 + 1 - (intOf (.int .i64 ((j : Int) * r.ev + r.ev))).toNat < perN r s te * 100 + 1 - (intOf (.int .i64 ((j : Int) * r.ev))).toNat) := by
                  unfold Hid
                  have h5 : (j : Int) * r.ev ≤ (j : Int) * 100 := Int.mul_le_mul_of_nonneg_left e1' (by omega)
                  simp only [intOf]
                  omega
                go_wp2
                go_roundw
                case rel => exact ⟨j + 1, by omega, STEP.out, by rw [AL_succ, ← List.take_length (l := chJ r s j), ← HXX.out]; exact HK3.out, by rw [AL_succ, ← List.take_length (l := chJ r s j), ← HXX.out]; exact hlm3⟩
                case measure => exact MEAS.out
          · have hje : j = perN r s te := by omega
            have HK1 : Hid (IL W0 u9 (XF s te (AL r s j)) w1) := KK1
            have hout := perN_out hr («to» := te) s0 s1
            rw [← hje] at hout
            have HFN : Hid ((comes r s te).take most.toNat = XF s te (AL r s j)) := by unfold Hid comes; rw [← hje, List.take_of_length_le (by omega)]
            clear hje
            by_cases hmx : spanF r s (j * r.ev) ≤ 3652058
            · obtain ⟨rfl, rfl⟩ := hxy hmx
              rw [decide_eq_true hmx]
              have hto : te < spanF r s (j * r.ev) := by omega
              clear hout hxy KK1
              go_wp2
              go_ret
              exact FIN.out _ _ w1 HK1.out HFN.out
            · rw [decide_eq_false hmx]
              clear hout hxy KK1
              go_wp2
              go_ret
              exact FIN.out _ _ w1 HK1.out HFN.out
  · skip
    by_cases hc1 : 0 < r.ct
    · by_cases hc2 : r.ct < most
      · skip
        have hT' : T = te := by rw [hT]; unfold limT; rw [if_neg (fun h => hu1 h.1)]
        have hM' : Mo = r.ct := by rw [hMo]; unfold mostT; rw [if_pos ⟨hc1, hc2⟩]
        rw [hT', hM'] at FIN ⊢
        rw [hM'] at hMb
        clear hT' hM' hT hMo T Mo
        go_enter Tryd.func41, Tryd.ntmps41
        go_wp2
        rw [← HW0.out]
        go_loopw [9, 10] (fun v i wr => ∃ j : Nat, j ≤ perN r s te ∧ i = .int .i64 (j * r.ev) ∧ IL W0 v (XF s te (AL r s j)) wr ∧ ((XF s te (AL r s j)).length : Int) ≤ (r.ct)) (fun _ i _ => perN r s te * 100 + 1 - (intOf i).toNat)
        case atStart => exact ⟨0, Nat.zero_le _, by simp, by have := K0.out; rw [HZ0.out] at this; exact this, by show (0 : Int) ≤ (r.ct); omega⟩
        case round =>
          obtain ⟨j, hj, rfl, K1, hlm⟩ := hrel
          have hb : Below W0.heap.size W0 wr := K1.2
          obtain ⟨q0, q1, q2, q3, q4, q5, q6, q7, q8⟩ := HCR.out.on (hb.block _ HCR.out.lt)
          have hn := per_n hr hj
          have HM1 : Hid (RMem wr r m) := HM.out.below hb
          have HCR1 : Hid (CB wr w.heap.size r m) := HCR.out.on (hb.block _ HCR.out.lt)
          clear hb
          go_wp2_with fail
          refine (specSpan r m s _ wr hr s0 s1 hn.1 (by omega)).mono ?_
          rintro e w1 ⟨⟨x, y, rfl, hxy⟩, b1⟩
          have KK1 := IL.on K1 b1
          have HM2 : Hid (RMem w1 r m) := HM1.out.below b1
          have HCR2 : Hid (CB w1 w.heap.size r m) := HCR1.out.on (b1.block _ HCR1.out.lt)
          clear K1 b1 q0 q1 q2 q3 q4 q5 q6 q7 q8
          by_cases hj2 : j < perN r s te
          · have hin := perN_in hj2
            obtain ⟨rfl, rfl⟩ := hxy hin.2
            have hlen := span_len hr s0 s1 (n := j * r.ev) hn.1
            have hgr := span_grow hr s0 s1 (j * r.ev).toNat
            rw [show (((j * r.ev).toNat : Nat) : Int) = j * r.ev by omega] at hgr
            rw [decide_eq_true hin.2]
            obtain ⟨q0, q1, q2, q3, q4, q5, q6, q7, q8⟩ := HCR2.out
            have hin1 := hin.1
            go_wp2_with fail
            refine (specPeriod r m s _ _ w1 hr HM2.out hl0 hl1 hl2 hl3 HX.out s0 s1 (by omega) (by omega) (by omega) (by omega)).mono ?_
            rintro e w2 ⟨⟨v2, rfl, ov⟩, b2⟩
            have ov : OI w2 w1.heap.size v2 (chJ r s j) := ov
            have ovl := ov.lt
            have kol := KK1.1.lt
            obtain ⟨av, cv, rfl, iv, _, _⟩ := ov.val
            have KK2 := IL.on KK1 b2
            have HI2 : Hid (IsInts w2 av (chJ r s j)) := iv
            have HNE : Hid (∀ bl, av = some bl → bl.block < w2.heap.size ∧ ∀ k, u9.ownBlock = some k → k ≠ bl.block) := fun bl hbl => by
              subst hbl
              have h1 := ovl bl.block rfl
              exact ⟨h1.2, fun k hk => by have := (kol k hk).2; omega⟩
            have hll := chJ_len hr s0 s1 j
            have HK2 : Hid (IL W0 u9 (XF s te (AL r s j)) w2) := KK2
            have HCR3 : Hid (CB w2 w.heap.size r m) := HCR2.out.on (b2.block _ HCR2.out.lt)
            clear ov ovl kol iv KK1 KK2 b2 q0 q1 q2 q3 q4 q5 q6 q7 q8
            obtain ⟨wo, hwo⟩ : ∃ wo, wo = wr := ⟨_, rfl⟩
            subst hwo
            go_wp2
            go_loopw [9, 15] (fun v i wr => ∃ q : Nat, q ≤ (chJ r s j).length ∧ i = .int .i64 q ∧ IL W0 v (XF s te (AL r s j ++ (chJ r s j).take q)) wr ∧ ((XF s te (AL r s j ++ (chJ r s j).take q)).length : Int) ≤ (r.ct) ∧ IsInts wr av (chJ r s j) ∧ ∀ bl, av = some bl → bl.block < wr.heap.size ∧ ∀ k, v.ownBlock = some k → k ≠ bl.block) (fun _ i _ => (chJ r s j).length - (intOf i).toNat)
            case atStart => exact ⟨0, Nat.zero_le _, rfl, by rw [List.take_zero, List.append_nil]; exact HK2.out, by rw [List.take_zero, List.append_nil]; exact hlm, HI2.out, HNE.out⟩
            case round =>
              obtain ⟨q, hq, rfl, K3, hlm3, iv3, ne3⟩ := hrel
              have HCR4 : Hid (CB wr w.heap.size r m) := HCR.out.on (K3.2.block _ HCR.out.lt)
              obtain ⟨ao, co, hvo⟩ := K3.1.shape0
              subst hvo
              obtain ⟨X, hX⟩ : ∃ X, X = XF s te (AL r s j ++ (chJ r s j).take q) := ⟨_, rfl⟩
              rw [← hX] at K3 hlm3
              have HXX : Hid (X = XF s te (AL r s j ++ (chJ r s j).take q)) := hX
              by_cases hlt : q < (chJ r s j).length
              · obtain ⟨d, hd⟩ : ∃ d, d = gi (chJ r s j) q := ⟨_, rfl⟩
                have HD : Hid (d = gi (chJ r s j) q) := hd
                have hdm := choice_mem (show d ∈ chJ r s j by rw [hd]; exact gi_mem hlt)
                have e0 : ∃ bL oL, av = some ⟨bL, oL, none⟩ ∧ bL < wr.heap.size ∧ wr.cell? ⟨bL, oL + q, none⟩ = some (.int .i64 d) := by
                  rcases iv3 with h | ⟨bL, oL, h1, h2, h3⟩
                  · rw [h] at hlt; simp at hlt
                  · exact ⟨bL, oL, h1, h2, by rw [hd]; exact h3 q hlt⟩
                obtain ⟨bL, oL, hav, hbl, cL⟩ := e0
                have HIV : Hid (IsInts wr av (chJ r s j)) := iv3
                have HN3 : Hid (∀ bl, av = some bl → bl.block < wr.heap.size ∧ ∀ k, (Value.slice ao (XF s te (AL r s j ++ (chJ r s j).take q)).length co).ownBlock = some k → k ≠ bl.block) := ne3
                rw [← hX] at HN3
                rw [← hX]
                subst hav
                have hi1 : (q : Int) < ((chJ r s j).length : Int) := by omega
                have hi0 : (0 : Int) ≤ (q : Int) := by omega
                have HXN : Hid (XF s te (AL r s j ++ (chJ r s j).take (q + 1)) = XF s te ((AL r s j ++ (chJ r s j).take q) ++ [d])) := by unfold Hid; rw [take_snoc hlt, ← List.append_assoc, hd]
                clear iv3 ne3 hd hX
                by_cases hdt : te < d
                · have HK3 : Hid (IL W0 (.slice ao X.length co) X wr) := K3
                  clear K3
                  go_wp2
                  go_ret
                  exact FIN.out _ X wr HK3.out (by rw [sp_stop hr s0 s1 hj2 hlt (by rw [← HD.out]; exact hdt), ← HXX.out, List.take_of_length_le (by omega)])
                · by_cases hfull : (r.ct) ≤ (X.length : Int)
                  · have HK3 : Hid (IL W0 (.slice ao X.length co) X wr) := K3
                    clear K3
                    go_wp2
                    go_ret
                    exact FIN.out _ X wr HK3.out (by obtain ⟨Z, hZ⟩ := sp_split (T := te) hj2 hlt; rw [hZ, ← HXX.out, List.take_append, List.take_of_length_le (by omega), show (r.ct).toNat - X.length = 0 by omega, List.take_zero, List.append_nil])
                  · by_cases hds : s ≤ d
                    · have KK := K3
                      clear K3
                      go_wp2_with (first
                        | (at_builtin; refine wpList_append_at rfl _ _ 24 rfl W0.heap.size 3 i0 (.int .i64 0) 1 8 Tryd.underlying24 hi hz0 hz1 hz2 rfl (by decide) _ _ _ rfl (World.ownsRow.alloc KK.1 _) ⟨_, 0, none⟩ 1 1 [.int .i64 d] rfl rfl (cell_one_new _ _ _) (by simp [Value.oneCell']) (by decide) (by unfold maxLen; omega) (by omega) (by have := KK.2.size; simp; omega) ?_; intro v' w4 hown hgrow hat; have K4 := IL.app KK hown hgrow; clear hown))
                      go_roundw
                      case rel =>
                        refine ⟨q + 1, by omega, by go_num, by rw [HXN.out, XF_yes hds (by omega), ← HXX.out]; exact K4, by rw [HXN.out, XF_yes hds (by omega), ← HXX.out]; simp; omega, ?_, fun bl hbl => ?_⟩
                        · refine IsInts.same (HIV.out.below ((Below.refl _ wr).alloc (Nat.le_refl _) (.cells #[.int .i64 d] 3))) hgrow.size (fun _ x hx' => ?_)
                          exact hgrow.block _ (by have := (HN3.out x hx').1; simp; omega) (fun e => (HN3.out x hx').2 _ e.symm rfl)
                        · have h1 := HN3.out bl hbl
                          refine ⟨by have := hgrow.size; simp at this; omega, fun k hk => ?_⟩
                          rcases hat with h | h
                          · exact h1.2 k (by rw [show v'.ownBlock = (Value.slice ao X.length co).ownBlock from h] at hk; exact hk)
                          · rw [h] at hk; simp at hk; omega
                      case measure => simp [intOf]; omega
                    · have HK3 : Hid (IL W0 (.slice ao X.length co) X wr) := K3
                      clear K3
                      go_wp2
                      go_roundw
                      case rel => exact ⟨q + 1, by omega, by go_num, by rw [HXN.out, XF_no (by omega), ← HXX.out]; exact HK3.out, by rw [HXN.out, XF_no (by omega), ← HXX.out]; exact hlm3, HIV.out, HN3.out⟩
                      case measure => simp [intOf]; omega
              · have hqe : q = (chJ r s j).length := by omega
                subst hqe
                have HK3 : Hid (IL W0 (.slice ao X.length co) X wr) := K3
                obtain ⟨b0, b1', b2', b3', b4', b5', b6', b7', b8'⟩ := HCR4.out
                rw [← hX]
                clear K3 iv3 ne3 hX
                have e0' := hr.e0; have e1' := hr.e1
                have STEP : Hid (Value.int .i64 ((j : Int) * r.ev + r.ev) = .int .i64 (((j + 1 : Nat) : Int) * r.ev)) := by
                  unfold Hid; rw [show (((j + 1 : Nat)) : Int) = (j : Int) + 1 by omega, Int.add_mul, Int.one_mul]
                have MEAS : Hid (perN r s te * 100 + 1 - (intOf (.int .i64 ((j : Int) * r.ev + r.ev))).toNat < perN r s te * 100 + 1 - (intOf (.int .i64 ((j : Int) * r.ev))).toNat) := by
                  unfold Hid
                  have h5 : (j : Int) * r.ev ≤ (j : Int) * 100 := Int.mul_le_mul_of_nonneg_left e1' (by omega)
                  simp only [intOf]
                  omega
                go_wp2
                go_roundw
                case rel => exact ⟨j + 1, by omega, STEP.out, by rw [AL_succ, ← List.take_length (l := chJ r s j), ← HXX.out]; exact HK3.out, by rw [AL_succ, ← List.take_length (l := chJ r s j), ← HXX.out]; exact hlm3⟩
                case measure => exact MEAS.out
          · have hje : j = perN r s te := by omega
            have HK1 : Hid (IL W0 u9 (XF s te (AL r s j)) w1) := KK1
            have hout := perN_out hr («to» := te) s0 s1
            rw [← hje] at hout
            have HFN : Hid ((comes r s te).take (r.ct).toNat = XF s te (AL r s j)) := by unfold Hid comes; rw [← hje, List.take_of_length_le (by omega)]
            clear hje
            by_cases hmx : spanF r s (j * r.ev) ≤ 3652058
            · obtain ⟨rfl, rfl⟩ := hxy hmx
              rw [decide_eq_true hmx]
              have hto : te < spanF r s (j * r.ev) := by omega
              clear hout hxy KK1
              go_wp2
              go_ret
              exact FIN.out _ _ w1 HK1.out HFN.out
            · rw [decide_eq_false hmx]
              clear hout hxy KK1
              go_wp2
              go_ret
              exact FIN.out _ _ w1 HK1.out HFN.out
      · skip
        have hT' : T = te := by rw [hT]; unfold limT; rw [if_neg (fun h => hu1 h.1)]
        have hM' : Mo = most := by rw [hMo]; unfold mostT; rw [if_neg (fun h => hc2 h.2)]
        rw [hT', hM'] at FIN ⊢
        rw [hM'] at hMb
        clear hT' hM' hT hMo T Mo
        go_enter Tryd.func41, Tryd.ntmps41
        go_wp2
        rw [← HW0.out]
        go_loopw [9, 10] (fun v i wr => ∃ j : Nat, j ≤ perN r s te ∧ i = .int .i64 (j * r.ev) ∧ IL W0 v (XF s te (AL r s j)) wr ∧ ((XF s te (AL r s j)).length : Int) ≤ most) (fun _ i _ => perN r s te * 100 + 1 - (intOf i).toNat)
        case atStart => exact ⟨0, Nat.zero_le _, by simp, by have := K0.out; rw [HZ0.out] at this; exact this, by show (0 : Int) ≤ most; omega⟩
        case round =>
          obtain ⟨j, hj, rfl, K1, hlm⟩ := hrel
          have hb : Below W0.heap.size W0 wr := K1.2
          obtain ⟨q0, q1, q2, q3, q4, q5, q6, q7, q8⟩ := HCR.out.on (hb.block _ HCR.out.lt)
          have hn := per_n hr hj
          have HM1 : Hid (RMem wr r m) := HM.out.below hb
          have HCR1 : Hid (CB wr w.heap.size r m) := HCR.out.on (hb.block _ HCR.out.lt)
          clear hb
          go_wp2_with fail
          refine (specSpan r m s _ wr hr s0 s1 hn.1 (by omega)).mono ?_
          rintro e w1 ⟨⟨x, y, rfl, hxy⟩, b1⟩
          have KK1 := IL.on K1 b1
          have HM2 : Hid (RMem w1 r m) := HM1.out.below b1
          have HCR2 : Hid (CB w1 w.heap.size r m) := HCR1.out.on (b1.block _ HCR1.out.lt)
          clear K1 b1 q0 q1 q2 q3 q4 q5 q6 q7 q8
          by_cases hj2 : j < perN r s te
          · have hin := perN_in hj2
            obtain ⟨rfl, rfl⟩ := hxy hin.2
            have hlen := span_len hr s0 s1 (n := j * r.ev) hn.1
            have hgr := span_grow hr s0 s1 (j * r.ev).toNat
            rw [show (((j * r.ev).toNat : Nat) : Int) = j * r.ev by omega] at hgr
            rw [decide_eq_true hin.2]
            obtain ⟨q0, q1, q2, q3, q4, q5, q6, q7, q8⟩ := HCR2.out
            have hin1 := hin.1
            go_wp2_with fail
            refine (specPeriod r m s _ _ w1 hr HM2.out hl0 hl1 hl2 hl3 HX.out s0 s1 (by omega) (by omega) (by omega) (by omega)).mono ?_
            rintro e w2 ⟨⟨v2, rfl, ov⟩, b2⟩
            have ov : OI w2 w1.heap.size v2 (chJ r s j) := ov
            have ovl := ov.lt
            have kol := KK1.1.lt
            obtain ⟨av, cv, rfl, iv, _, _⟩ := ov.val
            have KK2 := IL.on KK1 b2
            have HI2 : Hid (IsInts w2 av (chJ r s j)) := iv
            have HNE : Hid (∀ bl, av = some bl → bl.block < w2.heap.size ∧ ∀ k, u9.ownBlock = some k → k ≠ bl.block) := fun bl hbl => by
              subst hbl
              have h1 := ovl bl.block rfl
              exact ⟨h1.2, fun k hk => by have := (kol k hk).2; omega⟩
            have hll := chJ_len hr s0 s1 j
            have HK2 : Hid (IL W0 u9 (XF s te (AL r s j)) w2) := KK2
            have HCR3 : Hid (CB w2 w.heap.size r m) := HCR2.out.on (b2.block _ HCR2.out.lt)
            clear ov ovl kol iv KK1 KK2 b2 q0 q1 q2 q3 q4 q5 q6 q7 q8
            obtain ⟨wo, hwo⟩ : ∃ wo, wo = wr := ⟨_, rfl⟩
            subst hwo
            go_wp2
            go_loopw [9, 15] (fun v i wr => ∃ q : Nat, q ≤ (chJ r s j).length ∧ i = .int .i64 q ∧ IL W0 v (XF s te (AL r s j ++ (chJ r s j).take q)) wr ∧ ((XF s te (AL r s j ++ (chJ r s j).take q)).length : Int) ≤ most ∧ IsInts wr av (chJ r s j) ∧ ∀ bl, av = some bl → bl.block < wr.heap.size ∧ ∀ k, v.ownBlock = some k → k ≠ bl.block) (fun _ i _ => (chJ r s j).length - (intOf i).toNat)
            case atStart => exact ⟨0, Nat.zero_le _, rfl, by rw [List.take_zero, List.append_nil]; exact HK2.out, by rw [List.take_zero, List.append_nil]; exact hlm, HI2.out, HNE.out⟩
            case round =>
              obtain ⟨q, hq, rfl, K3, hlm3, iv3, ne3⟩ := hrel
              have HCR4 : Hid (CB wr w.heap.size r m) := HCR.out.on (K3.2.block _ HCR.out.lt)
              obtain ⟨ao, co, hvo⟩ := K3.1.shape0
              subst hvo
              obtain ⟨X, hX⟩ : ∃ X, X = XF s te (AL r s j ++ (chJ r s j).take q) := ⟨_, rfl⟩
              rw [← hX] at K3 hlm3
              have HXX : Hid (X = XF s te (AL r s j ++ (chJ r s j).take q)) := hX
              by_cases hlt : q < (chJ r s j).length
              · obtain ⟨d, hd⟩ : ∃ d, d = gi (chJ r s j) q := ⟨_, rfl⟩
                have HD : Hid (d = gi (chJ r s j) q) := hd
                have hdm := choice_mem (show d ∈ chJ r s j by rw [hd]; exact gi_mem hlt)
                have e0 : ∃ bL oL, av = some ⟨bL, oL, none⟩ ∧ bL < wr.heap.size ∧ wr.cell? ⟨bL, oL + q, none⟩ = some (.int .i64 d) := by
                  rcases iv3 with h | ⟨bL, oL, h1, h2, h3⟩
                  · rw [h] at hlt; simp at hlt
                  · exact ⟨bL, oL, h1, h2, by rw [hd]; exact h3 q hlt⟩
                obtain ⟨bL, oL, hav, hbl, cL⟩ := e0
                have HIV : Hid (IsInts wr av (chJ r s j)) := iv3
                have HN3 : Hid (∀ bl, av = some bl → bl.block < wr.heap.size ∧ ∀ k, (Value.slice ao (XF s te (AL r s j ++ (chJ r s j).take q)).length co).ownBlock = some k → k ≠ bl.block) := ne3
                rw [← hX] at HN3
                rw [← hX]
                subst hav
                have hi1 : (q : Int) < ((chJ r s j).length : Int) := by omega
                have hi0 : (0 : Int) ≤ (q : Int) := by omega
                have HXN : Hid (XF s te (AL r s j ++ (chJ r s j).take (q + 1)) = XF s te ((AL r s j ++ (chJ r s j).take q) ++ [d])) := by unfold Hid; rw [take_snoc hlt, ← List.append_assoc, hd]
                clear iv3 ne3 hd hX
                by_cases hdt : te < d
                · have HK3 : Hid (IL W0 (.slice ao X.length co) X wr) := K3
                  clear K3
                  go_wp2
                  go_ret
                  exact FIN.out _ X wr HK3.out (by rw [sp_stop hr s0 s1 hj2 hlt (by rw [← HD.out]; exact hdt), ← HXX.out, List.take_of_length_le (by omega)])
                · by_cases hfull : most ≤ (X.length : Int)
                  · have HK3 : Hid (IL W0 (.slice ao X.length co) X wr) := K3
                    clear K3
                    go_wp2
                    go_ret
                    exact FIN.out _ X wr HK3.out (by obtain ⟨Z, hZ⟩ := sp_split (T := te) hj2 hlt; rw [hZ, ← HXX.out, List.take_append, List.take_of_length_le (by omega), show most.toNat - X.length = 0 by omega, List.take_zero, List.append_nil])
                  · by_cases hds : s ≤ d
                    · have KK := K3
                      clear K3
                      go_wp2_with (first
                        | (at_builtin; refine wpList_append_at rfl _ _ 24 rfl W0.heap.size 3 i0 (.int .i64 0) 1 8 Tryd.underlying24 hi hz0 hz1 hz2 rfl (by decide) _ _ _ rfl (World.ownsRow.alloc KK.1 _) ⟨_, 0, none⟩ 1 1 [.int .i64 d] rfl rfl (cell_one_new _ _ _) (by simp [Value.oneCell']) (by decide) (by unfold maxLen; omega) (by omega) (by have := KK.2.size; simp; omega) ?_; intro v' w4 hown hgrow hat; have K4 := IL.app KK hown hgrow; clear hown))
                      go_roundw
                      case rel =>
                        refine ⟨q + 1, by omega, by go_num, by rw [HXN.out, XF_yes hds (by omega), ← HXX.out]; exact K4, by rw [HXN.out, XF_yes hds (by omega), ← HXX.out]; simp; omega, ?_, fun bl hbl => ?_⟩
                        · refine IsInts.same (HIV.out.below ((Below.refl _ wr).alloc (Nat.le_refl _) (.cells #[.int .i64 d] 3))) hgrow.size (fun _ x hx' => ?_)
                          exact hgrow.block _ (by have := (HN3.out x hx').1; simp; omega) (fun e => (HN3.out x hx').2 _ e.symm rfl)
                        · have h1 := HN3.out bl hbl
                          refine ⟨by have := hgrow.size; simp at this; omega, fun k hk => ?_⟩
                          rcases hat with h | h
                          · exact h1.2 k (by rw [show v'.ownBlock = (Value.slice ao X.length co).ownBlock from h] at hk; exact hk)
                          · rw [h] at hk; simp at hk; omega
                      case measure => simp [intOf]; omega
                    · have HK3 : Hid (IL W0 (.slice ao X.length co) X wr) := K3
                      clear K3
                      go_wp2
                      go_roundw
                      case rel => exact ⟨q + 1, by omega, by go_num, by rw [HXN.out, XF_no (by omega), ← HXX.out]; exact HK3.out, by rw [HXN.out, XF_no (by omega), ← HXX.out]; exact hlm3, HIV.out, HN3.out⟩
                      case measure => simp [intOf]; omega
              · have hqe : q = (chJ r s j).length := by omega
                subst hqe
                have HK3 : Hid (IL W0 (.slice ao X.length co) X wr) := K3
                obtain ⟨b0, b1', b2', b3', b4', b5', b6', b7', b8'⟩ := HCR4.out
                rw [← hX]
                clear K3 iv3 ne3 hX
                have e0' := hr.e0; have e1' := hr.e1
                have STEP : Hid (Value.int .i64 ((j : Int) * r.ev + r.ev) = .int .i64 (((j + 1 : Nat) : Int) * r.ev)) := by
                  unfold Hid; rw [show (((j + 1 : Nat)) : Int) = (j : Int) + 1 by omega, Int.add_mul, Int.one_mul]
                have MEAS : Hid (perN r s te * 100 + 1 - (intOf (.int .i64 ((j : Int) * r.ev + r.ev))).toNat < perN r s te * 100 + 1 - (intOf (.int .i64 ((j : Int) * r.ev))).toNat) := by
                  unfold Hid
                  have h5 : (j : Int) * r.ev ≤ (j : Int) * 100 := Int.mul_le_mul_of_nonneg_left e1' (by omega)
                  simp only [intOf]
                  omega
                go_wp2
                go_roundw
                case rel => exact ⟨j + 1, by omega, STEP.out, by rw [AL_succ, ← List.take_length (l := chJ r s j), ← HXX.out]; exact HK3.out, by rw [AL_succ, ← List.take_length (l := chJ r s j), ← HXX.out]; exact hlm3⟩
                case measure => exact MEAS.out
          · have hje : j = perN r s te := by omega
            have HK1 : Hid (IL W0 u9 (XF s te (AL r s j)) w1) := KK1
            have hout := perN_out hr («to» := te) s0 s1
            rw [← hje] at hout
            have HFN : Hid ((comes r s te).take most.toNat = XF s te (AL r s j)) := by unfold Hid comes; rw [← hje, List.take_of_length_le (by omega)]
            clear hje
            by_cases hmx : spanF r s (j * r.ev) ≤ 3652058
            · obtain ⟨rfl, rfl⟩ := hxy hmx
              rw [decide_eq_true hmx]
              have hto : te < spanF r s (j * r.ev) := by omega
              clear hout hxy KK1
              go_wp2
              go_ret
              exact FIN.out _ _ w1 HK1.out HFN.out
            · rw [decide_eq_false hmx]
              clear hout hxy KK1
              go_wp2
              go_ret
              exact FIN.out _ _ w1 HK1.out HFN.out
    · skip
      have hT' : T = te := by rw [hT]; unfold limT; rw [if_neg (fun h => hu1 h.1)]
      have hM' : Mo = most := by rw [hMo]; unfold mostT; rw [if_neg (fun h => hc1 h.1)]
      rw [hT', hM'] at FIN ⊢
      rw [hM'] at hMb
      clear hT' hM' hT hMo T Mo
      go_enter Tryd.func41, Tryd.ntmps41
      go_wp2
      rw [← HW0.out]
      go_loopw [9, 10] (fun v i wr => ∃ j : Nat, j ≤ perN r s te ∧ i = .int .i64 (j * r.ev) ∧ IL W0 v (XF s te (AL r s j)) wr ∧ ((XF s te (AL r s j)).length : Int) ≤ most) (fun _ i _ => perN r s te * 100 + 1 - (intOf i).toNat)
      case atStart => exact ⟨0, Nat.zero_le _, by simp, by have := K0.out; rw [HZ0.out] at this; exact this, by show (0 : Int) ≤ most; omega⟩
      case round =>
        obtain ⟨j, hj, rfl, K1, hlm⟩ := hrel
        have hb : Below W0.heap.size W0 wr := K1.2
        obtain ⟨q0, q1, q2, q3, q4, q5, q6, q7, q8⟩ := HCR.out.on (hb.block _ HCR.out.lt)
        have hn := per_n hr hj
        have HM1 : Hid (RMem wr r m) := HM.out.below hb
        have HCR1 : Hid (CB wr w.heap.size r m) := HCR.out.on (hb.block _ HCR.out.lt)
        clear hb
        go_wp2_with fail
        refine (specSpan r m s _ wr hr s0 s1 hn.1 (by omega)).mono ?_
        rintro e w1 ⟨⟨x, y, rfl, hxy⟩, b1⟩
        have KK1 := IL.on K1 b1
        have HM2 : Hid (RMem w1 r m) := HM1.out.below b1
        have HCR2 : Hid (CB w1 w.heap.size r m) := HCR1.out.on (b1.block _ HCR1.out.lt)
        clear K1 b1 q0 q1 q2 q3 q4 q5 q6 q7 q8
        by_cases hj2 : j < perN r s te
        · have hin := perN_in hj2
          obtain ⟨rfl, rfl⟩ := hxy hin.2
          have hlen := span_len hr s0 s1 (n := j * r.ev) hn.1
          have hgr := span_grow hr s0 s1 (j * r.ev).toNat
          rw [show (((j * r.ev).toNat : Nat) : Int) = j * r.ev by omega] at hgr
          rw [decide_eq_true hin.2]
          obtain ⟨q0, q1, q2, q3, q4, q5, q6, q7, q8⟩ := HCR2.out
          have hin1 := hin.1
          go_wp2_with fail
          refine (specPeriod r m s _ _ w1 hr HM2.out hl0 hl1 hl2 hl3 HX.out s0 s1 (by omega) (by omega) (by omega) (by omega)).mono ?_
          rintro e w2 ⟨⟨v2, rfl, ov⟩, b2⟩
          have ov : OI w2 w1.heap.size v2 (chJ r s j) := ov
          have ovl := ov.lt
          have kol := KK1.1.lt
          obtain ⟨av, cv, rfl, iv, _, _⟩ := ov.val
          have KK2 := IL.on KK1 b2
          have HI2 : Hid (IsInts w2 av (chJ r s j)) := iv
          have HNE : Hid (∀ bl, av = some bl → bl.block < w2.heap.size ∧ ∀ k, u9.ownBlock = some k → k ≠ bl.block) := fun bl hbl => by
            subst hbl
            have h1 := ovl bl.block rfl
            exact ⟨h1.2, fun k hk => by have := (kol k hk).2; omega⟩
          have hll := chJ_len hr s0 s1 j
          have HK2 : Hid (IL W0 u9 (XF s te (AL r s j)) w2) := KK2
          have HCR3 : Hid (CB w2 w.heap.size r m) := HCR2.out.on (b2.block _ HCR2.out.lt)
          clear ov ovl kol iv KK1 KK2 b2 q0 q1 q2 q3 q4 q5 q6 q7 q8
          obtain ⟨wo, hwo⟩ : ∃ wo, wo = wr := ⟨_, rfl⟩
          subst hwo
          go_wp2
          go_loopw [9, 15] (fun v i wr => ∃ q : Nat, q ≤ (chJ r s j).length ∧ i = .int .i64 q ∧ IL W0 v (XF s te (AL r s j ++ (chJ r s j).take q)) wr ∧ ((XF s te (AL r s j ++ (chJ r s j).take q)).length : Int) ≤ most ∧ IsInts wr av (chJ r s j) ∧ ∀ bl, av = some bl → bl.block < wr.heap.size ∧ ∀ k, v.ownBlock = some k → k ≠ bl.block) (fun _ i _ => (chJ r s j).length - (intOf i).toNat)
          case atStart => exact ⟨0, Nat.zero_le _, rfl, by rw [List.take_zero, List.append_nil]; exact HK2.out, by rw [List.take_zero, List.append_nil]; exact hlm, HI2.out, HNE.out⟩
          case round =>
            obtain ⟨q, hq, rfl, K3, hlm3, iv3, ne3⟩ := hrel
            have HCR4 : Hid (CB wr w.heap.size r m) := HCR.out.on (K3.2.block _ HCR.out.lt)
            obtain ⟨ao, co, hvo⟩ := K3.1.shape0
            subst hvo
            obtain ⟨X, hX⟩ : ∃ X, X = XF s te (AL r s j ++ (chJ r s j).take q) := ⟨_, rfl⟩
            rw [← hX] at K3 hlm3
            have HXX : Hid (X = XF s te (AL r s j ++ (chJ r s j).take q)) := hX
            by_cases hlt : q < (chJ r s j).length
            · obtain ⟨d, hd⟩ : ∃ d, d = gi (chJ r s j) q := ⟨_, rfl⟩
              have HD : Hid (d = gi (chJ r s j) q) := hd
              have hdm := choice_mem (show d ∈ chJ r s j by rw [hd]; exact gi_mem hlt)
              have e0 : ∃ bL oL, av = some ⟨bL, oL, none⟩ ∧ bL < wr.heap.size ∧ wr.cell? ⟨bL, oL + q, none⟩ = some (.int .i64 d) := by
                rcases iv3 with h | ⟨bL, oL, h1, h2, h3⟩
                · rw [h] at hlt; simp at hlt
                · exact ⟨bL, oL, h1, h2, by rw [hd]; exact h3 q hlt⟩
              obtain ⟨bL, oL, hav, hbl, cL⟩ := e0
              have HIV : Hid (IsInts wr av (chJ r s j)) := iv3
              have HN3 : Hid (∀ bl, av = some bl → bl.block < wr.heap.size ∧ ∀ k, (Value.slice ao (XF s te (AL r s j ++ (chJ r s j).take q)).length co).ownBlock = some k → k ≠ bl.block) := ne3
              rw [← hX] at HN3
              rw [← hX]
              subst hav
              have hi1 : (q : Int) < ((chJ r s j).length : Int) := by omega
              have hi0 : (0 : Int) ≤ (q : Int) := by omega
              have HXN : Hid (XF s te (AL r s j ++ (chJ r s j).take (q + 1)) = XF s te ((AL r s j ++ (chJ r s j).take q) ++ [d])) := by unfold Hid; rw [take_snoc hlt, ← List.append_assoc, hd]
              clear iv3 ne3 hd hX
              by_cases hdt : te < d
              · have HK3 : Hid (IL W0 (.slice ao X.length co) X wr) := K3
                clear K3
                go_wp2
                go_ret
                exact FIN.out _ X wr HK3.out (by rw [sp_stop hr s0 s1 hj2 hlt (by rw [← HD.out]; exact hdt), ← HXX.out, List.take_of_length_le (by omega)])
              · by_cases hfull : most ≤ (X.length : Int)
                · have HK3 : Hid (IL W0 (.slice ao X.length co) X wr) := K3
                  clear K3
                  go_wp2
                  go_ret
                  exact FIN.out _ X wr HK3.out (by obtain ⟨Z, hZ⟩ := sp_split (T := te) hj2 hlt; rw [hZ, ← HXX.out, List.take_append, List.take_of_length_le (by omega), show most.toNat - X.length = 0 by omega, List.take_zero, List.append_nil])
                · by_cases hds : s ≤ d
                  · have KK := K3
                    clear K3
                    go_wp2_with (first
                      | (at_builtin; refine wpList_append_at rfl _ _ 24 rfl W0.heap.size 3 i0 (.int .i64 0) 1 8 Tryd.underlying24 hi hz0 hz1 hz2 rfl (by decide) _ _ _ rfl (World.ownsRow.alloc KK.1 _) ⟨_, 0, none⟩ 1 1 [.int .i64 d] rfl rfl (cell_one_new _ _ _) (by simp [Value.oneCell']) (by decide) (by unfold maxLen; omega) (by omega) (by have := KK.2.size; simp; omega) ?_; intro v' w4 hown hgrow hat; have K4 := IL.app KK hown hgrow; clear hown))
                    go_roundw
                    case rel =>
                      refine ⟨q + 1, by omega, by go_num, by rw [HXN.out, XF_yes hds (by omega), ← HXX.out]; exact K4, by rw [HXN.out, XF_yes hds (by omega), ← HXX.out]; simp; omega, ?_, fun bl hbl => ?_⟩
                      · refine IsInts.same (HIV.out.below ((Below.refl _ wr).alloc (Nat.le_refl _) (.cells #[.int .i64 d] 3))) hgrow.size (fun _ x hx' => ?_)
                        exact hgrow.block _ (by have := (HN3.out x hx').1; simp; omega) (fun e => (HN3.out x hx').2 _ e.symm rfl)
                      · have h1 := HN3.out bl hbl
                        refine ⟨by have := hgrow.size; simp at this; omega, fun k hk => ?_⟩
                        rcases hat with h | h
                        · exact h1.2 k (by rw [show v'.ownBlock = (Value.slice ao X.length co).ownBlock from h] at hk; exact hk)
                        · rw [h] at hk; simp at hk; omega
                    case measure => simp [intOf]; omega
                  · have HK3 : Hid (IL W0 (.slice ao X.length co) X wr) := K3
                    clear K3
                    go_wp2
                    go_roundw
                    case rel => exact ⟨q + 1, by omega, by go_num, by rw [HXN.out, XF_no (by omega), ← HXX.out]; exact HK3.out, by rw [HXN.out, XF_no (by omega), ← HXX.out]; exact hlm3, HIV.out, HN3.out⟩
                    case measure => simp [intOf]; omega
            · have hqe : q = (chJ r s j).length := by omega
              subst hqe
              have HK3 : Hid (IL W0 (.slice ao X.length co) X wr) := K3
              obtain ⟨b0, b1', b2', b3', b4', b5', b6', b7', b8'⟩ := HCR4.out
              rw [← hX]
              clear K3 iv3 ne3 hX
              have e0' := hr.e0; have e1' := hr.e1
              have STEP : Hid (Value.int .i64 ((j : Int) * r.ev + r.ev) = .int .i64 (((j + 1 : Nat) : Int) * r.ev)) := by
                unfold Hid; rw [show (((j + 1 : Nat)) : Int) = (j : Int) + 1 by omega, Int.add_mul, Int.one_mul]
              have MEAS : Hid (perN r s te * 100 + 1 - (intOf (.int .i64 ((j : Int) * r.ev + r.ev))).toNat < perN r s te * 100 + 1 - (intOf (.int .i64 ((j : Int) * r.ev))).toNat) := by
                unfold Hid
                have h5 : (j : Int) * r.ev ≤ (j : Int) * 100 := Int.mul_le_mul_of_nonneg_left e1' (by omega)
                simp only [intOf]
                omega
              go_wp2
              go_roundw
              case rel => exact ⟨j + 1, by omega, STEP.out, by rw [AL_succ, ← List.take_length (l := chJ r s j), ← HXX.out]; exact HK3.out, by rw [AL_succ, ← List.take_length (l := chJ r s j), ← HXX.out]; exact hlm3⟩
              case measure => exact MEAS.out
        · have hje : j = perN r s te := by omega
          have HK1 : Hid (IL W0 u9 (XF s te (AL r s j)) w1) := KK1
          have hout := perN_out hr («to» := te) s0 s1
          rw [← hje] at hout
          have HFN : Hid ((comes r s te).take most.toNat = XF s te (AL r s j)) := by unfold Hid comes; rw [← hje, List.take_of_length_le (by omega)]
          clear hje
          by_cases hmx : spanF r s (j * r.ev) ≤ 3652058
          · obtain ⟨rfl, rfl⟩ := hxy hmx
            rw [decide_eq_true hmx]
            have hto : te < spanF r s (j * r.ev) := by omega
            clear hout hxy KK1
            go_wp2
            go_ret
            exact FIN.out _ _ w1 HK1.out HFN.out
          · rw [decide_eq_false hmx]
            clear hout hxy KK1
            go_wp2
            go_ret
            exact FIN.out _ _ w1 HK1.out HFN.out
end Go.Proofs.YtlfglhpepoepcaaDoor
namespace Go.Proofs.YtlfglhpepoepcaaDoor
open Go.RowKit
set_option linter.unusedVariables false
abbrev QE (w1 : World) (R b o o' : Nat) (sl x y x' y' : Value) (W : World) : Prop := W.cell? ⟨R, 4, none⟩ = some sl ∧ W.cell? ⟨b, o, none⟩ = some x ∧ W.cell? ⟨b, o + 1, none⟩ = some y ∧ W.cell? ⟨b, o', none⟩ = some x' ∧ W.cell? ⟨b, o' + 1, none⟩ = some y' ∧ Below w1.heap.size w1 W
theorem QE.on {w1 W W' : World} {R b o o' : Nat} {sl x y x' y' : Value} (h : QE w1 R b o o' sl x y x' y' W) (hb : Below W.heap.size W W') : QE w1 R b o o' sl x y x' y' W' := by
  obtain ⟨c0, c1, c2, c3, c4, B⟩ := h
  exact ⟨by rw [hb.cell (cell_lt c0)]; exact c0, by rw [hb.cell (cell_lt c1)]; exact c1, by rw [hb.cell (cell_lt c2)]; exact c2, by rw [hb.cell (cell_lt c3)]; exact c3, by rw [hb.cell (cell_lt c4)]; exact c4, bstep B hb⟩
theorem lv_yes {f : Int} {n0 n1 n2 n3 : Nat} (h1 : ¬ (f = 2 ∧ 0 < n1)) (h2 : ¬ (0 < n3 ∧ n0 = 0 ∧ n1 = 0 ∧ n2 = 0)) : (decide (¬ (f = 2 ∧ 0 < n1)) && decide (¬ (0 < n3 ∧ n0 = 0 ∧ n1 = 0 ∧ n2 = 0))) = true := by
  rw [Bool.and_eq_true]; exact ⟨decide_eq_true h1, decide_eq_true h2⟩
theorem lv_no1 {f : Int} {n0 n1 n2 n3 : Nat} (h : f = 2 ∧ 0 < n1) : (decide (¬ (f = 2 ∧ 0 < n1)) && decide (¬ (0 < n3 ∧ n0 = 0 ∧ n1 = 0 ∧ n2 = 0))) = false := by
  have e : decide (¬ (f = 2 ∧ 0 < n1)) = false := decide_eq_false (fun k => k h)
  rw [e, Bool.false_and]
theorem lv_no2 {f : Int} {n0 n1 n2 n3 : Nat} (h : 0 < n3 ∧ n0 = 0 ∧ n1 = 0 ∧ n2 = 0) : (decide (¬ (f = 2 ∧ 0 < n1)) && decide (¬ (0 < n3 ∧ n0 = 0 ∧ n1 = 0 ∧ n2 = 0))) = false := by
  have e : decide (¬ (0 < n3 ∧ n0 = 0 ∧ n1 = 0 ∧ n2 = 0)) = false := decide_eq_false (fun k => k h)
  rw [e, Bool.and_false]
set_option maxRecDepth 100000 in
set_option maxHeartbeats 64000000 in
theorem specRuleOkN (f ev ct un : Int) (a0 : Option Addr) (n0 c0 : Nat) (ds : List (Int × Int)) (a1 : Option Addr) (n1 c1 : Nat) (da : List Int) (a2 : Option Addr) (n2 c2 : Nat) (mo : List Int) (a3 : Option Addr) (n3 c3 : Nat) (pl : List Int) (wk : Int) (w : World) (h0 : IsTurns w a0 ds) (h1 : IsInts w a1 da) (h2 : IsInts w a2 mo) (h3 : IsInts w a3 pl) (l0 : ds.length ≤ 2000000) (l1 : da.length ≤ 2000000) (l2 : mo.length ≤ 2000000) (l3 : pl.length ≤ 2000000) (e0 : ds.length = n0) (e1 : da.length = n1) (e2 : mo.length = n2) (e3 : pl.length = n3) (m : Int) (hm : numM f n2 = m) (r1 r2 r3 : Bool) (hn1 : nuB da (-31) 31 = r1) (hn2 : nuB mo 1 12 = r2) (hn3 : nuB pl (-366) 366 = r3) (bf be bc bu bw : Bool) (hf : inB f 1 4 = bf) (he : inB ev 1 100 = be) (hc : inB ct 0 500 = bc) (hu : inB un 0 3652058 = bu) (hw : inB wk 0 6 = bw) : Calls Tryd.prog 28 #[.agg #[.int .i64 f, .int .i64 ev, .int .i64 ct, .int .i64 un, .slice a0 n0 c0, .slice a1 n1 c1, .slice a2 n2 c2, .slice a3 n3 c3, .int .i64 wk]] w fun z w' => z = .returned (.bool (ruB f ev ct un ds da mo pl wk)) ∧ Below w.heap.size w w' := by
  have K : QR w w.heap.size (.int .i64 f) (.int .i64 ev) (.int .i64 ct) (.int .i64 un) (.slice a0 n0 c0) (.slice a1 n1 c1) (.slice a2 n2 c2) (.slice a3 n3 c3) (.int .i64 wk) a0 ds a1 da a2 mo a3 pl (w.alloc (.cells #[.int .i64 f, .int .i64 ev, .int .i64 ct, .int .i64 un, .slice a0 n0 c0, .slice a1 n1 c1, .slice a2 n2 c2, .slice a3 n3 c3, .int .i64 wk] 26)) := QR.new _ h0 h1 h2 h3
  clear h0 h1 h2 h3
  have E0 : Hid (ds.length = n0) := e0
  have E1 : Hid (da.length = n1) := e1
  have E2 : Hid (mo.length = n2) := e2
  have E3 : Hid (pl.length = n3) := e3
  obtain ⟨m0, m1⟩ : 0 ≤ m ∧ m ≤ 53 := hm ▸ numM_in f n2
  have DBAD : Hid (dsA ds m = false → ruB f ev ct un ds da mo pl wk = false) := fun h => by
    unfold ruB dsB; rw [e2, hm, h]; simp
  have BAD : Hid (ofB f ev ct un wk = false → ruB f ev ct un ds da mo pl wk = false) := fun h => by unfold ruB; rw [h]; simp
  have GEN0 : Hid (dsA ds m = true → ofB f ev ct un wk = true → ruB f ev ct un ds da mo pl wk = (decide (n0 ≤ 8) && (decide (¬ (f = 2 ∧ 0 < n1)) && (decide (¬ (0 < n3 ∧ n0 = 0 ∧ n1 = 0 ∧ n2 = 0)) && (r1 && (r2 && r3)))))) := fun h g => by
    unfold ruB dsB liB; rw [e0, e1, e2, e3, hm, h, g, hn1, hn2, hn3]; simp
  have HM : Hid (numM f n2 = m) := hm
  have l1' : n1 ≤ 2000000 := by omega
  have l2' : n2 ≤ 2000000 := by omega
  have l3' : n3 ≤ 2000000 := by omega
  have l0' : n0 ≤ 2000000 := by omega
  clear hm e0 e1 e2 e3
  have X := K
  obtain ⟨x0, x1, x2, x3, x4, x5, x6, x7, x8, _⟩ := X
  go_enter Tryd.func28, Tryd.ntmps28
  go_wp2_with fail
  refine (specMost _ _ _ _ _ _ _ _ _ _ _ _ _ _ _ _ _ _ m HM.out).mono ?_
  rintro e w1 ⟨rfl, b1⟩
  replace K := QR.on K b1
  clear b1 x0 x1 x2 x3 x4 x5 x6 x7 x8
  go_wp2
  go_loopw [4] (fun i wr => ∃ k : Nat, k ≤ n0 ∧ i = .int .i64 k ∧ (∀ j, j < k → dstB ds m j = true) ∧ QR w w.heap.size (.int .i64 f) (.int .i64 ev) (.int .i64 ct) (.int .i64 un) (.slice a0 n0 c0) (.slice a1 n1 c1) (.slice a2 n2 c2) (.slice a3 n3 c3) (.int .i64 wk) a0 ds a1 da a2 mo a3 pl wr) (fun i _ => n0 - (intOf i).toNat)
  case atStart => exact ⟨0, by omega, rfl, fun j h => by omega, K⟩
  case round =>
    clear K
    obtain ⟨k, hk, rfl, ha, K⟩ := hrel
    have HA : Hid (∀ j, j < k → dstB ds m j = true) := ha
    clear ha
    have X := K
    obtain ⟨x0, x1, x2, x3, x4, x5, x6, x7, x8, _⟩ := X
    by_cases hlt : k < n0
    · have hlt' : k < ds.length := by rw [E0.out]; exact hlt
      have T := K.t
      rcases T with T | ⟨b, off, rfl, hbs, hcc⟩
      · rw [T] at hlt'; simp at hlt'
      obtain ⟨q0, q1⟩ := hcc k hlt'
      have hi0 : (0 : Int) ≤ (k : Int) := by omega
      have hi1 : (k : Int) < (n0 : Int) := by omega
      have qm := IntWalk.i64_in (-m) (by omega)
      have p0 := q0
      have p1 := q1
      clear hf he hc hu hw hn1 hn2 hn3
      cases hd : inB (tSh ds k) 0 6 with
      | false =>
        have HB : Hid (ruB f ev ct un ds da mo pl wk = false) := DBAD.out (dsA_bad hlt' (dst_bad1 hd))
        clear hcc
        generalize tAt ds k = X1 at *
        generalize tSh ds k = Y1 at *
        have K6 : QE wr w.heap.size b (off + k * 2) (off + k * 2) (.slice (some ⟨b, off, none⟩) n0 c0) (.int .i64 X1) (.int .i64 Y1) (.int .i64 X1) (.int .i64 Y1) wr := ⟨K.2.2.2.2.1, p0, p1, q0, q1, Below.refl _ _⟩
        go_wp2
        refine wp_region_cl (fun w' => QE wr w.heap.size b (off + k * 2) (off + k * 2) (.slice (some ⟨b, off, none⟩) n0 c0) (.int .i64 X1) (.int .i64 Y1) (.int .i64 X1) (.int .i64 Y1) w') (by kernel_rfl) (by kernel_rfl) (QE.on K6 (Below.refl _ _).drew) ?_
        clear K6 p0 p1 q0 q1 x0 x1 x2 x3 x4 x5 x6 x7 x8
        repeat (first
          | go_big_quiet_skip
          | (go_big_quiet_want; go_big_quiet_op; go_big_quiet_on)
          | (go_big_quiet_want
             apply Exists.intro
             refine ⟨fun w7 hC7 => ?_, ?_⟩
             · (have hC8 := hC7
                obtain ⟨y0, y1, y2, y3, y4, _⟩ := hC7
                go_simp
                first
                  | done
                  | rfl
                  | exact ⟨rfl, rfl⟩
                  | (refine (specIn _ _ _ _).mono ?_
                     rintro e w8 ⟨rfl, rfl⟩
                     first | rw [hd] | rw [hn]
                     exact ⟨rfl, hC8⟩))
             (go_simp; go_big_quiet_on)))
        refine wpQuiet_nil ?_
        intro w7 K7
        obtain ⟨_, _, _, _, _, B7⟩ := K7
        replace K := QR.on K B7
        clear B7
        go_wp2
        go_ret
        exact ⟨ret_b HB.out.symm, K.b⟩
      | true =>
        cases hn : inB (tAt ds k) (-m) m with
        | false =>
          have HB : Hid (ruB f ev ct un ds da mo pl wk = false) := DBAD.out (dsA_bad hlt' (dst_bad2 ((in_not _ _ _).1 hn)))
          clear hcc
          generalize tAt ds k = X1 at *
          generalize tSh ds k = Y1 at *
          have K6 : QE wr w.heap.size b (off + k * 2) (off + k * 2) (.slice (some ⟨b, off, none⟩) n0 c0) (.int .i64 X1) (.int .i64 Y1) (.int .i64 X1) (.int .i64 Y1) wr := ⟨K.2.2.2.2.1, p0, p1, q0, q1, Below.refl _ _⟩
          go_wp2
          refine wp_region_cl (fun w' => QE wr w.heap.size b (off + k * 2) (off + k * 2) (.slice (some ⟨b, off, none⟩) n0 c0) (.int .i64 X1) (.int .i64 Y1) (.int .i64 X1) (.int .i64 Y1) w') (by kernel_rfl) (by kernel_rfl) (QE.on K6 (Below.refl _ _).drew) ?_
          clear K6 p0 p1 q0 q1 x0 x1 x2 x3 x4 x5 x6 x7 x8
          repeat (first
            | go_big_quiet_skip
            | (go_big_quiet_want; go_big_quiet_op; go_big_quiet_on)
            | (go_big_quiet_want
               apply Exists.intro
               refine ⟨fun w7 hC7 => ?_, ?_⟩
               · (have hC8 := hC7
                  obtain ⟨y0, y1, y2, y3, y4, _⟩ := hC7
                  go_simp
                  first
                    | done
                    | rfl
                    | exact ⟨rfl, rfl⟩
                    | (refine (specIn _ _ _ _).mono ?_
                       rintro e w8 ⟨rfl, rfl⟩
                       first | rw [hd] | rw [hn]
                       exact ⟨rfl, hC8⟩))
               (go_simp; go_big_quiet_on)))
          refine wpQuiet_nil ?_
          intro w7 K7
          obtain ⟨_, _, _, _, _, B7⟩ := K7
          replace K := QR.on K B7
          clear B7
          go_wp2
          go_ret
          exact ⟨ret_b HB.out.symm, K.b⟩
        | true =>
          have hn' := (in_iff _ _ _).1 hn
          clear p0 p1
          by_cases hk0 : 0 < k
          · obtain ⟨j, rfl⟩ : ∃ j, k = j + 1 := ⟨k - 1, by omega⟩
            obtain ⟨p0, p1⟩ := hcc j (by omega)
            have q2 := IntWalk.i64_in ((j : Int) + 1 - 1) (by omega)
            have hj0 : (0 : Int) ≤ (j : Int) := by omega
            have hj1 : (j : Int) < (n0 : Int) := by omega
            have q6 : ((j : Int) + 1) - 1 = (j : Int) := by omega
            have q3 := IntWalk.i64_in (j : Int) (by omega)
            clear hcc
            cases hh : ahB (tAt ds j) (tSh ds j) (tAt ds (j + 1)) (tSh ds (j + 1)) with
            | false =>
              have HB : Hid (ruB f ev ct un ds da mo pl wk = false) := DBAD.out (dsA_bad hlt' (dst_bad3 hh))
              generalize tAt ds (j + 1) = X1 at *
              generalize tSh ds (j + 1) = Y1 at *
              generalize tAt ds j = X0 at *
              generalize tSh ds j = Y0 at *
              have K6 : QE wr w.heap.size b (off + j * 2) (off + (j + 1) * 2) (.slice (some ⟨b, off, none⟩) n0 c0) (.int .i64 X0) (.int .i64 Y0) (.int .i64 X1) (.int .i64 Y1) wr := ⟨K.2.2.2.2.1, p0, p1, q0, q1, Below.refl _ _⟩
              go_wp2
              refine wp_region_cl (fun w' => QE wr w.heap.size b (off + j * 2) (off + (j + 1) * 2) (.slice (some ⟨b, off, none⟩) n0 c0) (.int .i64 X0) (.int .i64 Y0) (.int .i64 X1) (.int .i64 Y1) w') (by kernel_rfl) (by kernel_rfl) (QE.on K6 (Below.refl _ _).drew) ?_
              clear K6 p0 p1 q0 q1 x0 x1 x2 x3 x4 x5 x6 x7 x8
              repeat (first
                | go_big_quiet_skip
                | (go_big_quiet_want; go_big_quiet_op; go_big_quiet_on)
                | (go_big_quiet_want
                   apply Exists.intro
                   refine ⟨fun w7 hC7 => ?_, ?_⟩
                   · (have hC8 := hC7
                      obtain ⟨y0, y1, y2, y3, y4, _⟩ := hC7
                      go_simp
                      first
                        | done
                        | rfl
                        | exact ⟨rfl, rfl⟩
                        | (refine (specIn _ _ _ _).mono ?_
                           rintro e w8 ⟨rfl, rfl⟩
                           first | rw [hd] | rw [hn]
                           exact ⟨rfl, hC8⟩)
                        | (refine (specAhead _ _ _ _ _ _ hh).mono ?_
                           rintro e w8 ⟨rfl, hb8⟩
                           exact ⟨rfl, QE.on hC8 hb8⟩))
                   (go_simp; go_big_quiet_on)))
              refine wpQuiet_nil ?_
              intro w7 K7
              obtain ⟨_, _, _, _, _, B7⟩ := K7
              replace K := QR.on K B7
              clear B7
              go_wp2
              go_ret
              exact ⟨ret_b HB.out.symm, K.b⟩
            | true =>
              have HG : Hid (∀ i, i < j + 1 + 1 → dstB ds m i = true) := dst_snoc HA.out (dst_yes hd hn' hh)
              generalize tAt ds (j + 1) = X1 at *
              generalize tSh ds (j + 1) = Y1 at *
              generalize tAt ds j = X0 at *
              generalize tSh ds j = Y0 at *
              have K6 : QE wr w.heap.size b (off + j * 2) (off + (j + 1) * 2) (.slice (some ⟨b, off, none⟩) n0 c0) (.int .i64 X0) (.int .i64 Y0) (.int .i64 X1) (.int .i64 Y1) wr := ⟨K.2.2.2.2.1, p0, p1, q0, q1, Below.refl _ _⟩
              go_wp2
              refine wp_region_cl (fun w' => QE wr w.heap.size b (off + j * 2) (off + (j + 1) * 2) (.slice (some ⟨b, off, none⟩) n0 c0) (.int .i64 X0) (.int .i64 Y0) (.int .i64 X1) (.int .i64 Y1) w') (by kernel_rfl) (by kernel_rfl) (QE.on K6 (Below.refl _ _).drew) ?_
              clear K6 p0 p1 q0 q1 x0 x1 x2 x3 x4 x5 x6 x7 x8
              repeat (first
                | go_big_quiet_skip
                | (go_big_quiet_want; go_big_quiet_op; go_big_quiet_on)
                | (go_big_quiet_want
                   apply Exists.intro
                   refine ⟨fun w7 hC7 => ?_, ?_⟩
                   · (have hC8 := hC7
                      obtain ⟨y0, y1, y2, y3, y4, _⟩ := hC7
                      go_simp
                      first
                        | done
                        | rfl
                        | exact ⟨rfl, rfl⟩
                        | (refine (specIn _ _ _ _).mono ?_
                           rintro e w8 ⟨rfl, rfl⟩
                           first | rw [hd] | rw [hn]
                           exact ⟨rfl, hC8⟩)
                        | (refine (specAhead _ _ _ _ _ _ hh).mono ?_
                           rintro e w8 ⟨rfl, hb8⟩
                           exact ⟨rfl, QE.on hC8 hb8⟩))
                   (go_simp; go_big_quiet_on)))
              refine wpQuiet_nil ?_
              intro w7 K7
              obtain ⟨_, _, _, _, _, B7⟩ := K7
              replace K := QR.on K B7
              clear B7
              go_wp2
              go_roundw
              case rel => exact ⟨j + 1 + 1, by omega, by go_num, HG.out, K⟩
              case measure => simp [intOf]; omega
          · have hk00 : k = 0 := by omega
            subst hk00
            have HG : Hid (∀ i, i < 0 + 1 → dstB ds m i = true) := dst_snoc HA.out (dst_yes0 hd hn')
            clear hcc
            have z0 : ¬ (0 : Int) < ((0 : Nat) : Int) := by omega
            simp only [Nat.zero_mul, Nat.add_zero] at q0 q1
            have p0 := q0
            have p1 := q1
            generalize tAt ds 0 = X1 at *
            generalize tSh ds 0 = Y1 at *
            have K6 : QE wr w.heap.size b off off (.slice (some ⟨b, off, none⟩) n0 c0) (.int .i64 X1) (.int .i64 Y1) (.int .i64 X1) (.int .i64 Y1) wr := ⟨K.2.2.2.2.1, p0, p1, q0, q1, Below.refl _ _⟩
            go_wp2
            refine wp_region_cl (fun w' => QE wr w.heap.size b off off (.slice (some ⟨b, off, none⟩) n0 c0) (.int .i64 X1) (.int .i64 Y1) (.int .i64 X1) (.int .i64 Y1) w') (by kernel_rfl) (by kernel_rfl) (QE.on K6 (Below.refl _ _).drew) ?_
            clear K6 p0 p1 q0 q1 x0 x1 x2 x3 x4 x5 x6 x7 x8
            repeat (first
              | go_big_quiet_skip
              | (go_big_quiet_want; go_big_quiet_op; go_big_quiet_on)
              | (go_big_quiet_want
                 apply Exists.intro
                 refine ⟨fun w7 hC7 => ?_, ?_⟩
                 · (have hC8 := hC7
                    obtain ⟨y0, y1, y2, y3, y4, _⟩ := hC7
                    go_simp
                    first
                      | done
                      | rfl
                      | exact ⟨rfl, rfl⟩
                      | (refine (specIn _ _ _ _).mono ?_
                         rintro e w8 ⟨rfl, rfl⟩
                         first | rw [hd] | rw [hn]
                         exact ⟨rfl, hC8⟩))
                 (go_simp; go_big_quiet_on)))
            refine wpQuiet_nil ?_
            intro w7 K7
            obtain ⟨_, _, _, _, _, B7⟩ := K7
            replace K := QR.on K B7
            clear B7
            go_wp2
            go_roundw
            case rel => exact ⟨0 + 1, by omega, by go_num, HG.out, K⟩
            case measure => simp [intOf]; omega
    · have GEN : Hid (ofB f ev ct un wk = true → ruB f ev ct un ds da mo pl wk = (decide (n0 ≤ 8) && (decide (¬ (f = 2 ∧ 0 < n1)) && (decide (¬ (0 < n3 ∧ n0 = 0 ∧ n1 = 0 ∧ n2 = 0)) && (r1 && (r2 && r3)))))) := GEN0.out ((dsA_iff _ _).2 fun i hi => HA.out i (by have := E0.out; omega))
      clear DBAD GEN0
      have hi1 : ¬ (k : Int) < (n0 : Int) := by omega
      cases bf with
      | false =>
        have HB : Hid (ruB f ev ct un ds da mo pl wk = false) := BAD.out (by simp [ofB, hf, he, hc, hu, hw])
        go_wp2_with (go_at_call 51; refine (specIn _ _ _ _).mono ?_; rintro e w' ⟨rfl, rfl⟩; first | rw [hf] | rw [he] | rw [hc] | rw [hu] | rw [hw])
        go_ret
        exact ⟨ret_b HB.out.symm, K.b⟩
      | true =>
        cases be with
        | false =>
          have HB : Hid (ruB f ev ct un ds da mo pl wk = false) := BAD.out (by simp [ofB, hf, he, hc, hu, hw])
          go_wp2_with (go_at_call 51; refine (specIn _ _ _ _).mono ?_; rintro e w' ⟨rfl, rfl⟩; first | rw [hf] | rw [he] | rw [hc] | rw [hu] | rw [hw])
          go_ret
          exact ⟨ret_b HB.out.symm, K.b⟩
        | true =>
          cases bc with
          | false =>
            have HB : Hid (ruB f ev ct un ds da mo pl wk = false) := BAD.out (by simp [ofB, hf, he, hc, hu, hw])
            go_wp2_with (go_at_call 51; refine (specIn _ _ _ _).mono ?_; rintro e w' ⟨rfl, rfl⟩; first | rw [hf] | rw [he] | rw [hc] | rw [hu] | rw [hw])
            go_ret
            exact ⟨ret_b HB.out.symm, K.b⟩
          | true =>
            cases bu with
            | false =>
              have HB : Hid (ruB f ev ct un ds da mo pl wk = false) := BAD.out (by simp [ofB, hf, he, hc, hu, hw])
              go_wp2_with (go_at_call 51; refine (specIn _ _ _ _).mono ?_; rintro e w' ⟨rfl, rfl⟩; first | rw [hf] | rw [he] | rw [hc] | rw [hu] | rw [hw])
              go_ret
              exact ⟨ret_b HB.out.symm, K.b⟩
            | true =>
              have c' := (in_iff _ _ _).1 hc
              have u' := (in_iff _ _ _).1 hu
              by_cases cu : 0 < ct ∧ 0 < un
              · obtain ⟨cu0, cu1⟩ := cu
                have HB : Hid (ruB f ev ct un ds da mo pl wk = false) := BAD.out (by
                  have : ¬ (ct = 0 ∨ un = 0) := by omega
                  simp [ofB, hf, he, hc, hu, hw, this])
                go_wp2_with (go_at_call 51; refine (specIn _ _ _ _).mono ?_; rintro e w' ⟨rfl, rfl⟩; first | rw [hf] | rw [he] | rw [hc] | rw [hu] | rw [hw])
                go_ret
                exact ⟨ret_b HB.out.symm, K.b⟩
              · have cz : ct = 0 ∨ un = 0 := by omega
                have CZ : Hid (ofB f ev ct un wk = bw) := by unfold Hid ofB; rw [hf, he, hc, hu, hw]; simp [cz]
                have cases2 : (0 < ct) = False ∨ ((0 < ct) = True ∧ (0 < un) = False) := by
                  rcases cz with z | z
                  · exact .inl (by simp; omega)
                  · by_cases q : 0 < ct
                    · exact .inr ⟨by simp [q], by simp; omega⟩
                    · exact .inl (by simp; omega)
                clear cu cz
                rcases cases2 with z1 | ⟨z1, z2⟩
                · skip
                  cases bw with
                  | false =>
                    have HB : Hid (ruB f ev ct un ds da mo pl wk = false) := BAD.out CZ.out
                    go_wp2_with (go_at_call 51; refine (specIn _ _ _ _).mono ?_; rintro e w' ⟨rfl, rfl⟩; first | rw [hf] | rw [he] | rw [hc] | rw [hu] | rw [hw])
                    go_ret
                    exact ⟨ret_b HB.out.symm, K.b⟩
                  | true =>
                    go_wp2_with (go_at_call 51; refine (specIn _ _ _ _).mono ?_; rintro e w' ⟨rfl, rfl⟩; first | rw [hf] | rw [he] | rw [hc] | rw [hu] | rw [hw])
                    have RU := GEN.out CZ.out
                    cases r1 with
                    | false =>
                      have HB : Hid (ruB f ev ct un ds da mo pl wk = false) := RU.trans (by simp)
                      refine (specInts _ _ _ da _ _ _ (QR.i1 K) l1 E1.out _ hn1).mono ?_
                      rintro e w1 ⟨rfl, b1⟩
                      replace K := QR.on K b1
                      clear b1 x0 x1 x2 x3 x4 x5 x6 x7 x8
                      have X := K
                      obtain ⟨x0, x1, x2, x3, x4, x5, x6, x7, x8, _⟩ := X
                      go_wp2
                      go_ret
                      exact ⟨ret_b HB.out.symm, K.b⟩
                    | true =>
                      refine (specInts _ _ _ da _ _ _ (QR.i1 K) l1 E1.out _ hn1).mono ?_
                      rintro e w1 ⟨rfl, b1⟩
                      replace K := QR.on K b1
                      clear b1 x0 x1 x2 x3 x4 x5 x6 x7 x8
                      have X := K
                      obtain ⟨x0, x1, x2, x3, x4, x5, x6, x7, x8, _⟩ := X
                      go_wp2_with fail
                      cases r2 with
                      | false =>
                        have HB : Hid (ruB f ev ct un ds da mo pl wk = false) := RU.trans (by simp)
                        refine (specInts _ _ _ mo _ _ _ (QR.i2 K) l2 E2.out _ hn2).mono ?_
                        rintro e w1 ⟨rfl, b1⟩
                        replace K := QR.on K b1
                        clear b1 x0 x1 x2 x3 x4 x5 x6 x7 x8
                        have X := K
                        obtain ⟨x0, x1, x2, x3, x4, x5, x6, x7, x8, _⟩ := X
                        go_wp2
                        go_ret
                        exact ⟨ret_b HB.out.symm, K.b⟩
                      | true =>
                        refine (specInts _ _ _ mo _ _ _ (QR.i2 K) l2 E2.out _ hn2).mono ?_
                        rintro e w1 ⟨rfl, b1⟩
                        replace K := QR.on K b1
                        clear b1 x0 x1 x2 x3 x4 x5 x6 x7 x8
                        have X := K
                        obtain ⟨x0, x1, x2, x3, x4, x5, x6, x7, x8, _⟩ := X
                        go_wp2_with fail
                        cases r3 with
                        | false =>
                          have HB : Hid (ruB f ev ct un ds da mo pl wk = false) := RU.trans (by simp)
                          refine (specInts _ _ _ pl _ _ _ (QR.i3 K) l3 E3.out _ hn3).mono ?_
                          rintro e w1 ⟨rfl, b1⟩
                          replace K := QR.on K b1
                          clear b1 x0 x1 x2 x3 x4 x5 x6 x7 x8
                          have X := K
                          obtain ⟨x0, x1, x2, x3, x4, x5, x6, x7, x8, _⟩ := X
                          go_wp2
                          go_ret
                          exact ⟨ret_b HB.out.symm, K.b⟩
                        | true =>
                          refine (specInts _ _ _ pl _ _ _ (QR.i3 K) l3 E3.out _ hn3).mono ?_
                          rintro e w1 ⟨rfl, b1⟩
                          replace K := QR.on K b1
                          clear b1 x0 x1 x2 x3 x4 x5 x6 x7 x8
                          have X := K
                          obtain ⟨x0, x1, x2, x3, x4, x5, x6, x7, x8, _⟩ := X
                          by_cases h8 : n0 ≤ 8
                          · have LV : Hid (ruB f ev ct un ds da mo pl wk = (decide (¬ (f = 2 ∧ 0 < n1)) && decide (¬ (0 < n3 ∧ n0 = 0 ∧ n1 = 0 ∧ n2 = 0)))) := RU.trans (by rw [decide_eq_true h8]; simp)
                            have h8' : ¬ (8 : Int) < (n0 : Int) := by omega
                            clear RU GEN BAD
                            by_cases g1 : f = 2
                            · subst g1
                              by_cases g0 : n1 = 0
                              · subst g0
                                by_cases p0 : n3 = 0
                                · subst p0
                                  have HV : Hid (ruB 2 ev ct un ds da mo pl wk = true) := LV.out.trans (lv_yes (by omega) (by omega))
                                  go_wp2
                                  go_ret
                                  exact ⟨ret_b HV.out.symm, K.b⟩
                                · have z3 : ((n3 : Int) == 0) = false := by simpa using p0
                                  by_cases s0 : 0 < n0 + 0 + n2
                                  · have HV : Hid (ruB 2 ev ct un ds da mo pl wk = true) := LV.out.trans (lv_yes (by omega) (by omega))
                                    have s1 : (0 : Int) < (n0 : Int) + (0 : Int) + (n2 : Int) := by omega
                                    go_wp2
                                    go_ret
                                    exact ⟨ret_b (HV.out.trans (by first | rfl | exact (decide_eq_true (by omega)).symm | exact (decide_eq_false (by omega)).symm | (simp; omega))).symm, K.b⟩
                                  · have HV : Hid (ruB 2 ev ct un ds da mo pl wk = false) := LV.out.trans (lv_no2 (by omega))
                                    have s1 : ¬ (0 : Int) < (n0 : Int) + (0 : Int) + (n2 : Int) := by omega
                                    go_wp2
                                    go_ret
                                    exact ⟨ret_b (HV.out.trans (by first | rfl | exact (decide_eq_true (by omega)).symm | exact (decide_eq_false (by omega)).symm | (simp; omega))).symm, K.b⟩
                              · have z1 : ((n1 : Int) == 0) = false := by simpa using g0
                                have HV : Hid (ruB 2 ev ct un ds da mo pl wk = false) := LV.out.trans (lv_no1 ⟨rfl, by omega⟩)
                                go_wp2
                                go_ret
                                exact ⟨ret_b HV.out.symm, K.b⟩
                            · have b2 : (f == 2) = false := by simpa using g1
                              by_cases p0 : n3 = 0
                              · subst p0
                                have HV : Hid (ruB f ev ct un ds da mo pl wk = true) := LV.out.trans (lv_yes (by omega) (by omega))
                                go_wp2
                                go_ret
                                exact ⟨ret_b HV.out.symm, K.b⟩
                              · have z3 : ((n3 : Int) == 0) = false := by simpa using p0
                                by_cases s0 : 0 < n0 + n1 + n2
                                · have HV : Hid (ruB f ev ct un ds da mo pl wk = true) := LV.out.trans (lv_yes (by omega) (by omega))
                                  have s1 : (0 : Int) < (n0 : Int) + (n1 : Int) + (n2 : Int) := by omega
                                  go_wp2
                                  go_ret
                                  exact ⟨ret_b (HV.out.trans (by first | rfl | exact (decide_eq_true (by omega)).symm | exact (decide_eq_false (by omega)).symm | (simp; omega))).symm, K.b⟩
                                · have HV : Hid (ruB f ev ct un ds da mo pl wk = false) := LV.out.trans (lv_no2 (by omega))
                                  have s1 : ¬ (0 : Int) < (n0 : Int) + (n1 : Int) + (n2 : Int) := by omega
                                  go_wp2
                                  go_ret
                                  exact ⟨ret_b (HV.out.trans (by first | rfl | exact (decide_eq_true (by omega)).symm | exact (decide_eq_false (by omega)).symm | (simp; omega))).symm, K.b⟩
                          · have h8' : (8 : Int) < (n0 : Int) := by omega
                            have HB : Hid (ruB f ev ct un ds da mo pl wk = false) := RU.trans (by rw [decide_eq_false h8]; simp)
                            go_wp2
                            go_ret
                            exact ⟨ret_b HB.out.symm, K.b⟩
                · skip
                  cases bw with
                  | false =>
                    have HB : Hid (ruB f ev ct un ds da mo pl wk = false) := BAD.out CZ.out
                    go_wp2_with (go_at_call 51; refine (specIn _ _ _ _).mono ?_; rintro e w' ⟨rfl, rfl⟩; first | rw [hf] | rw [he] | rw [hc] | rw [hu] | rw [hw])
                    go_ret
                    exact ⟨ret_b HB.out.symm, K.b⟩
                  | true =>
                    go_wp2_with (go_at_call 51; refine (specIn _ _ _ _).mono ?_; rintro e w' ⟨rfl, rfl⟩; first | rw [hf] | rw [he] | rw [hc] | rw [hu] | rw [hw])
                    have RU := GEN.out CZ.out
                    cases r1 with
                    | false =>
                      have HB : Hid (ruB f ev ct un ds da mo pl wk = false) := RU.trans (by simp)
                      refine (specInts _ _ _ da _ _ _ (QR.i1 K) l1 E1.out _ hn1).mono ?_
                      rintro e w1 ⟨rfl, b1⟩
                      replace K := QR.on K b1
                      clear b1 x0 x1 x2 x3 x4 x5 x6 x7 x8
                      have X := K
                      obtain ⟨x0, x1, x2, x3, x4, x5, x6, x7, x8, _⟩ := X
                      go_wp2
                      go_ret
                      exact ⟨ret_b HB.out.symm, K.b⟩
                    | true =>
                      refine (specInts _ _ _ da _ _ _ (QR.i1 K) l1 E1.out _ hn1).mono ?_
                      rintro e w1 ⟨rfl, b1⟩
                      replace K := QR.on K b1
                      clear b1 x0 x1 x2 x3 x4 x5 x6 x7 x8
                      have X := K
                      obtain ⟨x0, x1, x2, x3, x4, x5, x6, x7, x8, _⟩ := X
                      go_wp2_with fail
                      cases r2 with
                      | false =>
                        have HB : Hid (ruB f ev ct un ds da mo pl wk = false) := RU.trans (by simp)
                        refine (specInts _ _ _ mo _ _ _ (QR.i2 K) l2 E2.out _ hn2).mono ?_
                        rintro e w1 ⟨rfl, b1⟩
                        replace K := QR.on K b1
                        clear b1 x0 x1 x2 x3 x4 x5 x6 x7 x8
                        have X := K
                        obtain ⟨x0, x1, x2, x3, x4, x5, x6, x7, x8, _⟩ := X
                        go_wp2
                        go_ret
                        exact ⟨ret_b HB.out.symm, K.b⟩
                      | true =>
                        refine (specInts _ _ _ mo _ _ _ (QR.i2 K) l2 E2.out _ hn2).mono ?_
                        rintro e w1 ⟨rfl, b1⟩
                        replace K := QR.on K b1
                        clear b1 x0 x1 x2 x3 x4 x5 x6 x7 x8
                        have X := K
                        obtain ⟨x0, x1, x2, x3, x4, x5, x6, x7, x8, _⟩ := X
                        go_wp2_with fail
                        cases r3 with
                        | false =>
                          have HB : Hid (ruB f ev ct un ds da mo pl wk = false) := RU.trans (by simp)
                          refine (specInts _ _ _ pl _ _ _ (QR.i3 K) l3 E3.out _ hn3).mono ?_
                          rintro e w1 ⟨rfl, b1⟩
                          replace K := QR.on K b1
                          clear b1 x0 x1 x2 x3 x4 x5 x6 x7 x8
                          have X := K
                          obtain ⟨x0, x1, x2, x3, x4, x5, x6, x7, x8, _⟩ := X
                          go_wp2
                          go_ret
                          exact ⟨ret_b HB.out.symm, K.b⟩
                        | true =>
                          refine (specInts _ _ _ pl _ _ _ (QR.i3 K) l3 E3.out _ hn3).mono ?_
                          rintro e w1 ⟨rfl, b1⟩
                          replace K := QR.on K b1
                          clear b1 x0 x1 x2 x3 x4 x5 x6 x7 x8
                          have X := K
                          obtain ⟨x0, x1, x2, x3, x4, x5, x6, x7, x8, _⟩ := X
                          by_cases h8 : n0 ≤ 8
                          · have LV : Hid (ruB f ev ct un ds da mo pl wk = (decide (¬ (f = 2 ∧ 0 < n1)) && decide (¬ (0 < n3 ∧ n0 = 0 ∧ n1 = 0 ∧ n2 = 0)))) := RU.trans (by rw [decide_eq_true h8]; simp)
                            have h8' : ¬ (8 : Int) < (n0 : Int) := by omega
                            clear RU GEN BAD
                            by_cases g1 : f = 2
                            · subst g1
                              by_cases g0 : n1 = 0
                              · subst g0
                                by_cases p0 : n3 = 0
                                · subst p0
                                  have HV : Hid (ruB 2 ev ct un ds da mo pl wk = true) := LV.out.trans (lv_yes (by omega) (by omega))
                                  go_wp2
                                  go_ret
                                  exact ⟨ret_b HV.out.symm, K.b⟩
                                · have z3 : ((n3 : Int) == 0) = false := by simpa using p0
                                  by_cases s0 : 0 < n0 + 0 + n2
                                  · have HV : Hid (ruB 2 ev ct un ds da mo pl wk = true) := LV.out.trans (lv_yes (by omega) (by omega))
                                    have s1 : (0 : Int) < (n0 : Int) + (0 : Int) + (n2 : Int) := by omega
                                    go_wp2
                                    go_ret
                                    exact ⟨ret_b (HV.out.trans (by first | rfl | exact (decide_eq_true (by omega)).symm | exact (decide_eq_false (by omega)).symm | (simp; omega))).symm, K.b⟩
                                  · have HV : Hid (ruB 2 ev ct un ds da mo pl wk = false) := LV.out.trans (lv_no2 (by omega))
                                    have s1 : ¬ (0 : Int) < (n0 : Int) + (0 : Int) + (n2 : Int) := by omega
                                    go_wp2
                                    go_ret
                                    exact ⟨ret_b (HV.out.trans (by first | rfl | exact (decide_eq_true (by omega)).symm | exact (decide_eq_false (by omega)).symm | (simp; omega))).symm, K.b⟩
                              · have z1 : ((n1 : Int) == 0) = false := by simpa using g0
                                have HV : Hid (ruB 2 ev ct un ds da mo pl wk = false) := LV.out.trans (lv_no1 ⟨rfl, by omega⟩)
                                go_wp2
                                go_ret
                                exact ⟨ret_b HV.out.symm, K.b⟩
                            · have b2 : (f == 2) = false := by simpa using g1
                              by_cases p0 : n3 = 0
                              · subst p0
                                have HV : Hid (ruB f ev ct un ds da mo pl wk = true) := LV.out.trans (lv_yes (by omega) (by omega))
                                go_wp2
                                go_ret
                                exact ⟨ret_b HV.out.symm, K.b⟩
                              · have z3 : ((n3 : Int) == 0) = false := by simpa using p0
                                by_cases s0 : 0 < n0 + n1 + n2
                                · have HV : Hid (ruB f ev ct un ds da mo pl wk = true) := LV.out.trans (lv_yes (by omega) (by omega))
                                  have s1 : (0 : Int) < (n0 : Int) + (n1 : Int) + (n2 : Int) := by omega
                                  go_wp2
                                  go_ret
                                  exact ⟨ret_b (HV.out.trans (by first | rfl | exact (decide_eq_true (by omega)).symm | exact (decide_eq_false (by omega)).symm | (simp; omega))).symm, K.b⟩
                                · have HV : Hid (ruB f ev ct un ds da mo pl wk = false) := LV.out.trans (lv_no2 (by omega))
                                  have s1 : ¬ (0 : Int) < (n0 : Int) + (n1 : Int) + (n2 : Int) := by omega
                                  go_wp2
                                  go_ret
                                  exact ⟨ret_b (HV.out.trans (by first | rfl | exact (decide_eq_true (by omega)).symm | exact (decide_eq_false (by omega)).symm | (simp; omega))).symm, K.b⟩
                          · have h8' : (8 : Int) < (n0 : Int) := by omega
                            have HB : Hid (ruB f ev ct un ds da mo pl wk = false) := RU.trans (by rw [decide_eq_false h8]; simp)
                            go_wp2
                            go_ret
                            exact ⟨ret_b HB.out.symm, K.b⟩
theorem specRuleOk (f ev ct un : Int) (a0 : Option Addr) (c0 : Nat) (ds : List (Int × Int)) (a1 : Option Addr) (c1 : Nat) (da : List Int) (a2 : Option Addr) (c2 : Nat) (mo : List Int) (a3 : Option Addr) (c3 : Nat) (pl : List Int) (wk : Int) (w : World) (h0 : IsTurns w a0 ds) (h1 : IsInts w a1 da) (h2 : IsInts w a2 mo) (h3 : IsInts w a3 pl) (l0 : ds.length ≤ 2000000) (l1 : da.length ≤ 2000000) (l2 : mo.length ≤ 2000000) (l3 : pl.length ≤ 2000000) : Calls Tryd.prog 28 #[.agg #[.int .i64 f, .int .i64 ev, .int .i64 ct, .int .i64 un, .slice a0 ds.length c0, .slice a1 da.length c1, .slice a2 mo.length c2, .slice a3 pl.length c3, .int .i64 wk]] w fun z w' => z = .returned (.bool (ruB f ev ct un ds da mo pl wk)) ∧ Below w.heap.size w w' :=
  specRuleOkN f ev ct un a0 ds.length c0 ds a1 da.length c1 da a2 mo.length c2 mo a3 pl.length c3 pl wk w h0 h1 h2 h3 l0 l1 l2 l3 rfl rfl rfl rfl _ rfl _ _ _ rfl rfl rfl _ _ _ _ _ rfl rfl rfl rfl rfl
end Go.Proofs.YtlfglhpepoepcaaDoor
namespace Go.Proofs.YtlfglhpepoepcaaDoor
open Go.RowKit Go.Shelf
set_option linter.unusedVariables false

set_option maxHeartbeats 4000000 in
theorem specAsked (r : Rl) (m : Rm) (s d : Int) (w : World) (hr : RAny w r m) :
    Calls Tryd.prog 40 #[.agg #[.int .i64 r.f, .int .i64 r.ev, .int .i64 r.ct, .int .i64 r.un, .slice m.a0 r.ds.length m.c0, .slice m.a1 r.da.length m.c1, .slice m.a2 r.mo.length m.c2, .slice m.a3 r.pl.length m.c3, .int .i64 r.wk], .int .i64 s, .int .i64 d] w fun e w' => e = .returned (.bool (mayB r s d)) ∧ Below w.heap.size w w' := by
  obtain ⟨W0, hW0⟩ : ∃ W0, W0 = w.alloc (.cells #[.int .i64 r.f, .int .i64 r.ev, .int .i64 r.ct, .int .i64 r.un, .slice m.a0 r.ds.length m.c0, .slice m.a1 r.da.length m.c1, .slice m.a2 r.mo.length m.c2, .slice m.a3 r.pl.length m.c3, .int .i64 r.wk] 26) := ⟨_, rfl⟩
  have hb0 : Below w.heap.size w W0 := by rw [hW0]; exact (Below.refl _ w).alloc (Nat.le_refl _) _
  have HW0 : Hid (W0 = w.alloc (.cells #[.int .i64 r.f, .int .i64 r.ev, .int .i64 r.ct, .int .i64 r.un, .slice m.a0 r.ds.length m.c0, .slice m.a1 r.da.length m.c1, .slice m.a2 r.mo.length m.c2, .slice m.a3 r.pl.length m.c3, .int .i64 r.wk] 26)) := hW0
  have HB0 : Hid (Below w.heap.size w W0) := hb0
  have hr0 := hr.on hb0
  have HOK : Hid (Calls Tryd.prog 28 #[.agg #[.int .i64 r.f, .int .i64 r.ev, .int .i64 r.ct, .int .i64 r.un, .slice m.a0 r.ds.length m.c0, .slice m.a1 r.da.length m.c1, .slice m.a2 r.mo.length m.c2, .slice m.a3 r.pl.length m.c3, .int .i64 r.wk]] W0 fun z w' => z = .returned (.bool (ruOf r)) ∧ Below W0.heap.size W0 w') := specRuleOk _ _ _ _ _ _ _ _ _ _ _ _ _ _ _ _ _ W0 hr0.mem.t hr0.mem.d hr0.mem.o hr0.mem.p hr0.l0 hr0.l1 hr0.l2 hr0.l3
  clear hW0 hb0 hr0 hr
  cases h1 : ruOf r with
  | false =>
    have HV : Hid (mayB r s d = false) := by unfold Hid mayB; rw [h1]; rfl
    rw [h1] at HOK
    clear h1
    go_enter Tryd.func40, Tryd.ntmps40
    go_wp2_with fail
    rw [← HW0.out]
    refine HOK.out.mono ?_
    rintro e w1 ⟨rfl, b1⟩
    have HB1 : Hid (Below w.heap.size w w1) := bstep HB0.out b1
    clear b1
    go_wp2
    go_ret
    exact ⟨ret_b HV.out.symm, HB1.out⟩
  | true =>
    rw [h1] at HOK
    have HR : Hid (ruOf r = true) := h1
    clear h1
    cases hs : inB s 0 3652058 with
    | false =>
      have HV : Hid (mayB r s d = false) := by unfold Hid mayB; rw [HR.out, hs]; rfl
      have HS : Hid (inB s 0 3652058 = false) := hs
      clear hs
      go_enter Tryd.func40, Tryd.ntmps40
      go_wp2_with fail
      rw [← HW0.out]
      refine HOK.out.mono ?_
      rintro e w1 ⟨rfl, b1⟩
      have HB1 : Hid (Below w.heap.size w w1) := bstep HB0.out b1
      clear b1
      go_wp2_with fail
      refine (specInR _ _ _ _ false HS.out).mono ?_
      rintro e w2 ⟨rfl, rfl⟩
      go_wp2
      go_ret
      exact ⟨ret_b HV.out.symm, HB1.out⟩
    | true =>
      have hs' := (in_iff _ _ _).1 hs
      have HS : Hid (inB s 0 3652058 = true) := hs
      cases hd : inB d 0 3652058 with
      | false =>
        have HV : Hid (mayB r s d = false) := by unfold Hid mayB; rw [HR.out, hs, hd]; rfl
        have HD : Hid (inB d 0 3652058 = false) := hd
        clear hs hd
        go_enter Tryd.func40, Tryd.ntmps40
        go_wp2_with fail
        rw [← HW0.out]
        refine HOK.out.mono ?_
        rintro e w1 ⟨rfl, b1⟩
        have HB1 : Hid (Below w.heap.size w w1) := bstep HB0.out b1
        clear b1
        go_wp2_with fail
        refine (specInR _ _ _ _ true HS.out).mono ?_
        rintro e w2 ⟨rfl, rfl⟩
        go_wp2_with fail
        refine (specInR _ _ _ _ false HD.out).mono ?_
        rintro e w2 ⟨rfl, rfl⟩
        go_wp2
        go_ret
        exact ⟨ret_b HV.out.symm, HB1.out⟩
      | true =>
        have hd' := (in_iff _ _ _).1 hd
        have HV : Hid (mayB r s d = decide (d - s ≤ 11000)) := by unfold Hid mayB; rw [HR.out, hs, hd]; rfl
        have HD : Hid (inB d 0 3652058 = true) := hd
        clear hs hd
        go_enter Tryd.func40, Tryd.ntmps40
        go_wp2_with fail
        rw [← HW0.out]
        refine HOK.out.mono ?_
        rintro e w1 ⟨rfl, b1⟩
        have HB1 : Hid (Below w.heap.size w w1) := bstep HB0.out b1
        clear b1
        go_wp2_with fail
        refine (specInR _ _ _ _ true HS.out).mono ?_
        rintro e w2 ⟨rfl, rfl⟩
        go_wp2_with fail
        refine (specInR _ _ _ _ true HD.out).mono ?_
        rintro e w2 ⟨rfl, rfl⟩
        go_wp2
        go_ret
        exact ⟨ret_b HV.out.symm, HB1.out⟩
end Go.Proofs.YtlfglhpepoepcaaDoor
namespace Go.Proofs.YtlfglhpepoepcaaDoor
open Go.RowKit Go.Shelf
set_option linter.unusedVariables false

theorem by_bd {r : Rl} (h : ruOf r = true) : ∀ j, j < r.ds.length → -1000 ≤ tAt r.ds j ∧ tAt r.ds j ≤ 1000 := by
  intro j hj
  unfold ruOf ruB at h
  simp only [Bool.and_eq_true] at h
  have h2 := h.2.1
  unfold dsB at h2
  simp only [Bool.and_eq_true] at h2
  have h3 := (dsA_iff _ _).1 h2.2 j hj
  unfold dstB at h3
  simp only [Bool.and_eq_true] at h3
  have h4 := (in_iff _ _ _).1 h3.2.1
  have h5 := numM_in r.f r.mo.length
  omega
theorem lim_le (r : Rl) (d : Int) : limT r d ≤ d := by unfold limT; split <;> omega
theorem tk_most {r : Rl} (hr : ROk r) {s T : Int} (h0 : 0 ≤ s) (h1 : s ≤ 3652058) (hT : T ≤ s + 11500) : tk r.ct (comes r s T) = (comes r s T).take (mostT r 20000).toNat := by
  have hl := @comes_len r hr s T h0 h1
  have c0 := hr.c0; have c1 := hr.c1
  unfold tk mostT
  by_cases hc : r.ct = 0
  · rw [if_pos hc, if_neg (by omega), List.take_of_length_le (by omega)]
  · rw [if_neg hc, if_pos (by omega)]
theorem on_eq {r : Rl} {s d : Int} (h : mayB r s d = true) : decide (firstT (comingT r s d (limT r d)) = d) = hasI ((comes r s (limT r d)).take (mostT r 20000).toNat) d := by
  obtain ⟨hru, ⟨s0, s1⟩, ⟨d0, d1⟩, hds⟩ := may_ok h
  have hr := (ru_ok hru).1
  have hT := lim_le r d
  unfold comingT
  rw [tk_most hr s0 s1 (by omega)]
  obtain ⟨M, hM⟩ : ∃ M, M = (comes r s (limT r d)).take (mostT r 20000).toNat := ⟨_, rfl⟩
  rw [← hM]
  have hle : ∀ x ∈ M, x ≤ d := fun x hx => by
    rw [hM] at hx
    have := comes_mem (List.mem_of_mem_take hx); omega
  rw [Bool.eq_iff_iff]
  unfold hasI
  simp only [decide_eq_true_eq]
  constructor
  · intro e
    unfold firstT at e
    cases hf : M.filter (fun x => decide (d ≤ x)) with
    | nil => rw [hf] at e; simp at e; omega
    | cons y t =>
      rw [hf] at e
      have : y ∈ M.filter (fun x => decide (d ≤ x)) := by rw [hf]; exact List.mem_cons_self ..
      simp at e
      subst e
      exact (List.mem_filter.1 this).1
  · intro hm
    unfold firstT
    have hin : d ∈ M.filter (fun x => decide (d ≤ x)) := List.mem_filter.2 ⟨hm, by simp⟩
    cases hf : M.filter (fun x => decide (d ≤ x)) with
    | nil => rw [hf] at hin; simp at hin
    | cons y t =>
      have hy : y ∈ M.filter (fun x => decide (d ≤ x)) := by rw [hf]; exact List.mem_cons_self ..
      have h2 := List.mem_filter.1 hy
      have h3 := hle y h2.1
      have h4 : d ≤ y := by simpa using h2.2
      show y = d
      omega
set_option maxHeartbeats 4000000 in
theorem specRuleOn (r : Rl) (m : Rm) (s d : Int) (w : World) (hr : RAny w r m) :
    Calls Tryd.prog 23 #[.agg #[.int .i64 r.f, .int .i64 r.ev, .int .i64 r.ct, .int .i64 r.un, .slice m.a0 r.ds.length m.c0, .slice m.a1 r.da.length m.c1, .slice m.a2 r.mo.length m.c2, .slice m.a3 r.pl.length m.c3, .int .i64 r.wk], .int .i64 s, .int .i64 d] w fun e w' => e = .returned (.bool (onB r s d)) ∧ Below w.heap.size w w' := by
  obtain ⟨W0, hW0⟩ : ∃ W0, W0 = w.alloc (.cells #[.int .i64 r.f, .int .i64 r.ev, .int .i64 r.ct, .int .i64 r.un, .slice m.a0 r.ds.length m.c0, .slice m.a1 r.da.length m.c1, .slice m.a2 r.mo.length m.c2, .slice m.a3 r.pl.length m.c3, .int .i64 r.wk] 26) := ⟨_, rfl⟩
  have hb0 : Below w.heap.size w W0 := by rw [hW0]; exact (Below.refl _ w).alloc (Nat.le_refl _) _
  have HCB : Hid (CB W0 w.heap.size r m) := by unfold Hid; rw [hW0]; exact CB.new w r m _
  have HW0 : Hid (W0 = w.alloc (.cells #[.int .i64 r.f, .int .i64 r.ev, .int .i64 r.ct, .int .i64 r.un, .slice m.a0 r.ds.length m.c0, .slice m.a1 r.da.length m.c1, .slice m.a2 r.mo.length m.c2, .slice m.a3 r.pl.length m.c3, .int .i64 r.wk] 26)) := hW0
  have HB0 : Hid (Below w.heap.size w W0) := hb0
  have HR0 : Hid (RAny W0 r m) := hr.on hb0
  have HM := specAsked r m s d W0 HR0.out
  clear hW0 hb0 hr
  cases h1 : mayB r s d with
  | false =>
    have HV : Hid (onB r s d = false) := by unfold Hid onB; rw [h1]; rfl
    rw [h1] at HM
    clear h1
    go_enter Tryd.func23, Tryd.ntmps23
    go_wp2_with fail
    rw [← HW0.out]
    refine HM.mono ?_
    rintro e w1 ⟨rfl, b1⟩
    have HB1 : Hid (Below w.heap.size w w1) := bstep HB0.out b1
    clear b1 HM
    go_wp2
    go_ret
    exact ⟨ret_b HV.out.symm, HB1.out⟩
  | true =>
    have HV : Hid (onB r s d = hasI ((comes r s (limT r d)).take (mostT r 20000).toNat) d) := by unfold Hid onB; rw [h1, Bool.true_and]; exact on_eq h1
    obtain ⟨hru, ⟨s0, s1⟩, ⟨d0, d1⟩, hds⟩ := may_ok h1
    have HRU : Hid (ruOf r = true) := hru
    have hT := lim_le r d
    have hll : ((comes r s (limT r d)).take (mostT r 20000).toNat).length ≤ 4000000 := by
      have := @comes_len r (ru_ok hru).1 s (limT r d) s0 s1
      rw [List.length_take]; omega
    rw [h1] at HM
    clear h1 hru
    go_enter Tryd.func23, Tryd.ntmps23
    go_wp2_with fail
    rw [← HW0.out]
    refine HM.mono ?_
    rintro e w1 ⟨rfl, b1⟩
    have HB1 : Hid (Below w.heap.size w w1) := bstep HB0.out b1
    have HR1 : Hid (RIn w1 r m) := (HR0.out.on b1).ok HRU.out
    obtain ⟨q0, q1, q2, q3, q4, q5, q6, q7, q8⟩ := HCB.out.on (b1.block _ HCB.out.lt)
    clear b1 HM
    go_wp2_with fail
    refine (specDaysL r m s d 20000 w1 HR1.out.ok HR1.out.mem HR1.out.l0 HR1.out.l1 HR1.out.l2 HR1.out.l3 (by_bd HRU.out) s0 s1 (by omega) (by omega)).mono ?_
    rintro e w2 ⟨⟨v, rfl, ov⟩, b2⟩
    have HB2 : Hid (Below w.heap.size w w2) := bstep HB1.out b2
    obtain ⟨M, hM⟩ : ∃ M, M = (comes r s (limT r d)).take (mostT r 20000).toNat := ⟨_, rfl⟩
    rw [← hM] at ov HV hll
    obtain ⟨av, cv, rfl, iv, _, _⟩ := ov.val
    have HIV : Hid (IsInts w2 av M) := iv
    clear b2 q0 q1 q2 q3 q4 q5 q6 q7 q8 ov iv hM
    go_wp2_with fail
    refine (specHas _ _ _ _ _ HIV.out hll _ rfl).mono ?_
    rintro e w3 ⟨rfl, hw3⟩
    rw [hw3]
    clear hw3
    go_wp2
    go_ret
    exact ⟨ret_b HV.out.symm, HB2.out⟩
end Go.Proofs.YtlfglhpepoepcaaDoor
namespace Go.Proofs.YtlfglhpepoepcaaDoor
open Go.RowKit Go.Shelf
set_option linter.unusedVariables false

theorem perP_min (r : Rl) (s te : Int) : perP r s (min te 3652058) = perP r s te := by
  funext j
  unfold perP
  rw [decide_eq_decide]
  omega
theorem comes_min {r : Rl} (hr : ROk r) {s te : Int} (h0 : 0 ≤ s) (h1 : s ≤ 3652058) : comes r s (min te 3652058) = comes r s te := by
  unfold comes perN
  rw [perP_min]
  unfold XF
  refine List.filter_congr ?_
  intro x hx
  have := AL_mem hr h0 h1 hx
  rw [decide_eq_decide]
  omega
theorem lim_min (r : Rl) (x : Int) : limT r (min x 3652058) = min (limT r x) (min (limT r x) 3652058) ∨ (limT r (min x 3652058) ≤ 3652058 ∧ limT r (min x 3652058) = min (limT r x) 3652058) := by
  unfold limT
  split <;> split <;> omega
def nxT (s d : Int) : Int := min (min (d + 366) (s + 11000)) 3652058
/-- The first of some days that is at least so late. -/
def geL (d : Int) (l : List Int) : List Int := l.filter fun x => decide (d ≤ x)
def nxM (r : Rl) (s d : Int) : List Int := (comes r s (limT r (nxT s d))).take (mostT r 20000).toNat
theorem next_eq {r : Rl} {s d : Int} (h : mayB r s d = true) : nextV r s d = firstT (geL d (nxM r s d)) := by
  obtain ⟨hru, ⟨s0, s1⟩, ⟨d0, d1⟩, hds⟩ := may_ok h
  have hr := (ru_ok hru).1
  have u0 := hr.u0; have u1 := hr.u1
  unfold nextV nxM geL comingT
  rw [if_pos h]
  have hl := lim_le r (min (d + 366) (s + 11000))
  rw [tk_most hr s0 s1 (by omega)]
  have e : comes r s (limT r (nxT s d)) = comes r s (limT r (min (d + 366) (s + 11000))) := by
    rw [← comes_min hr (te := limT r (min (d + 366) (s + 11000))) s0 s1, ← comes_min hr (te := limT r (nxT s d)) s0 s1]
    congr 1
    unfold nxT limT
    split <;> split <;> omega
  rw [e]
theorem geL_none {d : Int} {l : List Int} (h : ∀ j, j < l.length → gi l j < d) : geL d l = [] := by
  unfold geL
  rw [List.filter_eq_nil_iff]
  intro x hx
  obtain ⟨i, hi, e⟩ := List.getElem_of_mem hx
  have := h i hi
  unfold gi at this
  rw [List.getD_eq_getElem?_getD, List.getElem?_eq_getElem hi] at this
  simp at this ⊢
  omega
theorem geL_at {d : Int} {l : List Int} {i : Nat} (hi : i < l.length) (h : ∀ j, j < i → gi l j < d) (hd : d ≤ gi l i) : firstT (geL d l) = gi l i := by
  have e : l = l.take i ++ l.drop i := (List.take_append_drop i l).symm
  have e1 : geL d (l.take i) = [] := geL_none (by
    intro j hj
    rw [List.length_take] at hj
    have := h j (by omega)
    unfold gi at this ⊢
    rw [List.getD_eq_getElem?_getD] at this ⊢
    rw [List.getElem?_take_of_lt (by omega)]
    exact this)
  have e2 : l.drop i = gi l i :: l.drop (i + 1) := by
    rw [List.drop_eq_getElem_cons hi]
    unfold gi
    rw [List.getD_eq_getElem?_getD, List.getElem?_eq_getElem hi]
    rfl
  have e3 : geL d l = geL d (l.take i) ++ geL d (l.drop i) := by
    unfold geL; rw [← List.filter_append, List.take_append_drop]
  rw [e3, e1, e2]
  unfold geL firstT
  simp [hd]
set_option maxHeartbeats 4000000 in
theorem specRuleNext (r : Rl) (m : Rm) (s d : Int) (w : World) (hr : RAny w r m) :
    Calls Tryd.prog 31 #[.agg #[.int .i64 r.f, .int .i64 r.ev, .int .i64 r.ct, .int .i64 r.un, .slice m.a0 r.ds.length m.c0, .slice m.a1 r.da.length m.c1, .slice m.a2 r.mo.length m.c2, .slice m.a3 r.pl.length m.c3, .int .i64 r.wk], .int .i64 s, .int .i64 d] w fun e w' => e = .returned (.int .i64 (nextV r s d)) ∧ Below w.heap.size w w' := by
  obtain ⟨W0, hW0⟩ : ∃ W0, W0 = w.alloc (.cells #[.int .i64 r.f, .int .i64 r.ev, .int .i64 r.ct, .int .i64 r.un, .slice m.a0 r.ds.length m.c0, .slice m.a1 r.da.length m.c1, .slice m.a2 r.mo.length m.c2, .slice m.a3 r.pl.length m.c3, .int .i64 r.wk] 26) := ⟨_, rfl⟩
  have hb0 : Below w.heap.size w W0 := by rw [hW0]; exact (Below.refl _ w).alloc (Nat.le_refl _) _
  have HCB : Hid (CB W0 w.heap.size r m) := by unfold Hid; rw [hW0]; exact CB.new w r m _
  have HW0 : Hid (W0 = w.alloc (.cells #[.int .i64 r.f, .int .i64 r.ev, .int .i64 r.ct, .int .i64 r.un, .slice m.a0 r.ds.length m.c0, .slice m.a1 r.da.length m.c1, .slice m.a2 r.mo.length m.c2, .slice m.a3 r.pl.length m.c3, .int .i64 r.wk] 26)) := hW0
  have HB0 : Hid (Below w.heap.size w W0) := hb0
  have HR0 : Hid (RAny W0 r m) := hr.on hb0
  have HM := specAsked r m s d W0 HR0.out
  clear hW0 hb0 hr
  cases h1 : mayB r s d with
  | false =>
    have HV : Hid (nextV r s d = -1) := by unfold Hid nextV; rw [h1]; rfl
    rw [h1] at HM
    clear h1
    go_enter Tryd.func31, Tryd.ntmps31
    go_wp2_with fail
    rw [← HW0.out]
    refine HM.mono ?_
    rintro e w1 ⟨rfl, b1⟩
    have HB1 : Hid (Below w.heap.size w w1) := bstep HB0.out b1
    clear b1 HM
    go_wp2
    go_ret
    exact ⟨ret_i HV.out.symm, HB1.out⟩
  | true =>
    have HV : Hid (nextV r s d = firstT (geL d (nxM r s d))) := next_eq h1
    obtain ⟨hru, ⟨s0, s1⟩, ⟨d0, d1⟩, hds⟩ := may_ok h1
    have HRU : Hid (ruOf r = true) := hru
    have hT := lim_le r (nxT s d)
    have hNT : nxT s d ≤ s + 11000 := by unfold nxT; omega
    have hll : (nxM r s d).length ≤ 4000000 := by
      have := @comes_len r (ru_ok hru).1 s (limT r (nxT s d)) s0 s1
      unfold nxM
      rw [List.length_take]; omega
    rw [h1] at HM
    clear h1 hru
    obtain ⟨T, hTT⟩ : ∃ T, T = nxT s d := ⟨_, rfl⟩
    have HT2 : Hid (T = min (min (d + 366) (s + 11000)) 3652058) := hTT
    have HNX : Hid (nxM r s d = (comes r s (limT r T)).take (mostT r 20000).toNat) := by unfold Hid; rw [hTT]; rfl
    clear hTT hT hNT
    go_enter Tryd.func31, Tryd.ntmps31
    go_wp2_with fail
    rw [← HW0.out]
    refine HM.mono ?_
    rintro e w1 ⟨rfl, b1⟩
    have HB1 : Hid (Below w.heap.size w w1) := bstep HB0.out b1
    have HR1 : Hid (RIn w1 r m) := (HR0.out.on b1).ok HRU.out
    obtain ⟨q0, q1, q2, q3, q4, q5, q6, q7, q8⟩ := HCB.out.on (b1.block _ HCB.out.lt)
    clear b1 HM
    by_cases c1 : s + 11000 < d + 366 <;> by_cases c2 : 3652058 < min (d + 366) (s + 11000)
    · have HTX : Hid (T = 3652058) := by unfold Hid; rw [HT2.out]; omega
      have HNY : Hid (nxM r s d = (comes r s (limT r (3652058))).take (mostT r 20000).toNat) := by unfold Hid; rw [HNX.out, HTX.out]
      clear HNX HTX HT2
      go_wp2_with fail
      refine (specDaysL r m s (3652058) 20000 w1 HR1.out.ok HR1.out.mem HR1.out.l0 HR1.out.l1 HR1.out.l2 HR1.out.l3 (by_bd HRU.out) s0 s1 (by omega) (by omega)).mono ?_
      rintro e w2 ⟨⟨v, rfl, ov⟩, b2⟩
      have HB2 : Hid (Below w.heap.size w w2) := bstep HB1.out b2
      obtain ⟨M, hM⟩ : ∃ M, M = nxM r s d := ⟨_, rfl⟩
      rw [← HNY.out, ← hM] at ov
      rw [← hM] at HV hll
      obtain ⟨av, cv, rfl, iv, _, _⟩ := ov.val
      have H1 : Hid (IsInts w2 av M) := iv
      clear b2 q0 q1 q2 q3 q4 q5 q6 q7 q8 ov iv hM HNY c1 c2 s0 s1 d0 d1 hds T
      go_wp2
      go_loopw [9] (fun i wr => ∃ k : Nat, k ≤ M.length ∧ i = .int .i64 k ∧ wr = w2 ∧ ∀ j, j < k → gi M j < d) (fun i _ => M.length - (intOf i).toNat)
      case atStart => exact ⟨0, by omega, rfl, rfl, fun j hj => by omega⟩
      case round =>
        obtain ⟨k, hk, rfl, rfl, hno⟩ := hrel
        have HN : Hid (∀ j, j < k → gi M j < d) := hno
        clear hno
        by_cases hlt : k < M.length
        · have G1 := H1.out
          rcases G1 with G1 | ⟨b, o, rfl, hbs, hc⟩
          · rw [G1] at hlt; simp at hlt
          have x0 : wr.cell? ⟨b, o + k, none⟩ = some (.int .i64 (gi M k)) := hc k hlt
          clear hc
          have hi1 : (k : Int) < (M.length : Int) := by omega
          have hi0 : (0 : Int) ≤ (k : Int) := by omega
          by_cases he : d ≤ gi M k
          · go_wp2
            go_ret
            exact ⟨ret_i ((geL_at hlt HN.out he).symm.trans HV.out.symm), HB2.out⟩
          · go_wp2
            go_roundw
            case rel => exact ⟨k + 1, by omega, by go_num, by trivial, fun j hj => by
              rcases Nat.lt_or_ge j k with h' | h'
              · exact HN.out j h'
              · have : j = k := by omega
                subst this; omega⟩
            case measure => simp [intOf]; omega
        · have : k = M.length := by omega
          subst this
          have HE : Hid (firstT (geL d M) = -1) := by unfold Hid; rw [geL_none HN.out]; rfl
          go_wp2
          go_ret
          exact ⟨ret_i (HE.out.symm.trans HV.out.symm), HB2.out⟩
    · have HTX : Hid (T = s + 11000) := by unfold Hid; rw [HT2.out]; omega
      have HNY : Hid (nxM r s d = (comes r s (limT r (s + 11000))).take (mostT r 20000).toNat) := by unfold Hid; rw [HNX.out, HTX.out]
      clear HNX HTX HT2
      go_wp2_with fail
      refine (specDaysL r m s (s + 11000) 20000 w1 HR1.out.ok HR1.out.mem HR1.out.l0 HR1.out.l1 HR1.out.l2 HR1.out.l3 (by_bd HRU.out) s0 s1 (by omega) (by omega)).mono ?_
      rintro e w2 ⟨⟨v, rfl, ov⟩, b2⟩
      have HB2 : Hid (Below w.heap.size w w2) := bstep HB1.out b2
      obtain ⟨M, hM⟩ : ∃ M, M = nxM r s d := ⟨_, rfl⟩
      rw [← HNY.out, ← hM] at ov
      rw [← hM] at HV hll
      obtain ⟨av, cv, rfl, iv, _, _⟩ := ov.val
      have H1 : Hid (IsInts w2 av M) := iv
      clear b2 q0 q1 q2 q3 q4 q5 q6 q7 q8 ov iv hM HNY c1 c2 s0 s1 d0 d1 hds T
      go_wp2
      go_loopw [9] (fun i wr => ∃ k : Nat, k ≤ M.length ∧ i = .int .i64 k ∧ wr = w2 ∧ ∀ j, j < k → gi M j < d) (fun i _ => M.length - (intOf i).toNat)
      case atStart => exact ⟨0, by omega, rfl, rfl, fun j hj => by omega⟩
      case round =>
        obtain ⟨k, hk, rfl, rfl, hno⟩ := hrel
        have HN : Hid (∀ j, j < k → gi M j < d) := hno
        clear hno
        by_cases hlt : k < M.length
        · have G1 := H1.out
          rcases G1 with G1 | ⟨b, o, rfl, hbs, hc⟩
          · rw [G1] at hlt; simp at hlt
          have x0 : wr.cell? ⟨b, o + k, none⟩ = some (.int .i64 (gi M k)) := hc k hlt
          clear hc
          have hi1 : (k : Int) < (M.length : Int) := by omega
          have hi0 : (0 : Int) ≤ (k : Int) := by omega
          by_cases he : d ≤ gi M k
          · go_wp2
            go_ret
            exact ⟨ret_i ((geL_at hlt HN.out he).symm.trans HV.out.symm), HB2.out⟩
          · go_wp2
            go_roundw
            case rel => exact ⟨k + 1, by omega, by go_num, by trivial, fun j hj => by
              rcases Nat.lt_or_ge j k with h' | h'
              · exact HN.out j h'
              · have : j = k := by omega
                subst this; omega⟩
            case measure => simp [intOf]; omega
        · have : k = M.length := by omega
          subst this
          have HE : Hid (firstT (geL d M) = -1) := by unfold Hid; rw [geL_none HN.out]; rfl
          go_wp2
          go_ret
          exact ⟨ret_i (HE.out.symm.trans HV.out.symm), HB2.out⟩
    · have HTX : Hid (T = 3652058) := by unfold Hid; rw [HT2.out]; omega
      have HNY : Hid (nxM r s d = (comes r s (limT r (3652058))).take (mostT r 20000).toNat) := by unfold Hid; rw [HNX.out, HTX.out]
      clear HNX HTX HT2
      go_wp2_with fail
      refine (specDaysL r m s (3652058) 20000 w1 HR1.out.ok HR1.out.mem HR1.out.l0 HR1.out.l1 HR1.out.l2 HR1.out.l3 (by_bd HRU.out) s0 s1 (by omega) (by omega)).mono ?_
      rintro e w2 ⟨⟨v, rfl, ov⟩, b2⟩
      have HB2 : Hid (Below w.heap.size w w2) := bstep HB1.out b2
      obtain ⟨M, hM⟩ : ∃ M, M = nxM r s d := ⟨_, rfl⟩
      rw [← HNY.out, ← hM] at ov
      rw [← hM] at HV hll
      obtain ⟨av, cv, rfl, iv, _, _⟩ := ov.val
      have H1 : Hid (IsInts w2 av M) := iv
      clear b2 q0 q1 q2 q3 q4 q5 q6 q7 q8 ov iv hM HNY c1 c2 s0 s1 d0 d1 hds T
      go_wp2
      go_loopw [9] (fun i wr => ∃ k : Nat, k ≤ M.length ∧ i = .int .i64 k ∧ wr = w2 ∧ ∀ j, j < k → gi M j < d) (fun i _ => M.length - (intOf i).toNat)
      case atStart => exact ⟨0, by omega, rfl, rfl, fun j hj => by omega⟩
      case round =>
        obtain ⟨k, hk, rfl, rfl, hno⟩ := hrel
        have HN : Hid (∀ j, j < k → gi M j < d) := hno
        clear hno
        by_cases hlt : k < M.length
        · have G1 := H1.out
          rcases G1 with G1 | ⟨b, o, rfl, hbs, hc⟩
          · rw [G1] at hlt; simp at hlt
          have x0 : wr.cell? ⟨b, o + k, none⟩ = some (.int .i64 (gi M k)) := hc k hlt
          clear hc
          have hi1 : (k : Int) < (M.length : Int) := by omega
          have hi0 : (0 : Int) ≤ (k : Int) := by omega
          by_cases he : d ≤ gi M k
          · go_wp2
            go_ret
            exact ⟨ret_i ((geL_at hlt HN.out he).symm.trans HV.out.symm), HB2.out⟩
          · go_wp2
            go_roundw
            case rel => exact ⟨k + 1, by omega, by go_num, by trivial, fun j hj => by
              rcases Nat.lt_or_ge j k with h' | h'
              · exact HN.out j h'
              · have : j = k := by omega
                subst this; omega⟩
            case measure => simp [intOf]; omega
        · have : k = M.length := by omega
          subst this
          have HE : Hid (firstT (geL d M) = -1) := by unfold Hid; rw [geL_none HN.out]; rfl
          go_wp2
          go_ret
          exact ⟨ret_i (HE.out.symm.trans HV.out.symm), HB2.out⟩
    · have HTX : Hid (T = d + 366) := by unfold Hid; rw [HT2.out]; omega
      have HNY : Hid (nxM r s d = (comes r s (limT r (d + 366))).take (mostT r 20000).toNat) := by unfold Hid; rw [HNX.out, HTX.out]
      clear HNX HTX HT2
      go_wp2_with fail
      refine (specDaysL r m s (d + 366) 20000 w1 HR1.out.ok HR1.out.mem HR1.out.l0 HR1.out.l1 HR1.out.l2 HR1.out.l3 (by_bd HRU.out) s0 s1 (by omega) (by omega)).mono ?_
      rintro e w2 ⟨⟨v, rfl, ov⟩, b2⟩
      have HB2 : Hid (Below w.heap.size w w2) := bstep HB1.out b2
      obtain ⟨M, hM⟩ : ∃ M, M = nxM r s d := ⟨_, rfl⟩
      rw [← HNY.out, ← hM] at ov
      rw [← hM] at HV hll
      obtain ⟨av, cv, rfl, iv, _, _⟩ := ov.val
      have H1 : Hid (IsInts w2 av M) := iv
      clear b2 q0 q1 q2 q3 q4 q5 q6 q7 q8 ov iv hM HNY c1 c2 s0 s1 d0 d1 hds T
      go_wp2
      go_loopw [9] (fun i wr => ∃ k : Nat, k ≤ M.length ∧ i = .int .i64 k ∧ wr = w2 ∧ ∀ j, j < k → gi M j < d) (fun i _ => M.length - (intOf i).toNat)
      case atStart => exact ⟨0, by omega, rfl, rfl, fun j hj => by omega⟩
      case round =>
        obtain ⟨k, hk, rfl, rfl, hno⟩ := hrel
        have HN : Hid (∀ j, j < k → gi M j < d) := hno
        clear hno
        by_cases hlt : k < M.length
        · have G1 := H1.out
          rcases G1 with G1 | ⟨b, o, rfl, hbs, hc⟩
          · rw [G1] at hlt; simp at hlt
          have x0 : wr.cell? ⟨b, o + k, none⟩ = some (.int .i64 (gi M k)) := hc k hlt
          clear hc
          have hi1 : (k : Int) < (M.length : Int) := by omega
          have hi0 : (0 : Int) ≤ (k : Int) := by omega
          by_cases he : d ≤ gi M k
          · go_wp2
            go_ret
            exact ⟨ret_i ((geL_at hlt HN.out he).symm.trans HV.out.symm), HB2.out⟩
          · go_wp2
            go_roundw
            case rel => exact ⟨k + 1, by omega, by go_num, by trivial, fun j hj => by
              rcases Nat.lt_or_ge j k with h' | h'
              · exact HN.out j h'
              · have : j = k := by omega
                subst this; omega⟩
            case measure => simp [intOf]; omega
        · have : k = M.length := by omega
          subst this
          have HE : Hid (firstT (geL d M) = -1) := by unfold Hid; rw [geL_none HN.out]; rfl
          go_wp2
          go_ret
          exact ⟨ret_i (HE.out.symm.trans HV.out.symm), HB2.out⟩
end Go.Proofs.YtlfglhpepoepcaaDoor
namespace Go.Proofs.YtlfglhpepoepcaaDoor
open Go.RowKit Go.Shelf
set_option linter.unusedVariables false
theorem OI.lit (w : World) (B : Nat) (hB : B ≤ w.heap.size) : OI (w.alloc (.cells #[] 3)) B (.slice (some ⟨w.heap.size, 0, none⟩) 0 0) [] :=
  ⟨rfl, .inr ⟨w.heap.size, 0, #[], rfl, hB, World.alloc_heap_new _ _, Nat.le_refl _, by decide, rfl, rfl⟩⟩
theorem coming_start (r : Rl) (s T : Int) : comingT r s s T = tk r.ct (comes r s T) := by
  unfold comingT
  rw [List.filter_eq_self]
  intro x hx
  have hm : x ∈ comes r s T := by
    unfold tk at hx
    split at hx
    · exact hx
    · exact List.mem_of_mem_take hx
  have := comes_mem hm
  simp; omega
theorem days_eq {r : Rl} {s d : Int} (h : mayB r s d = true) : daysL r s d = (comes r s (limT r d)).take (mostT r 200).toNat := by
  obtain ⟨hru, _, _, _⟩ := may_ok h
  have hr := (ru_ok hru).1
  have c0 := hr.c0
  unfold daysL
  rw [if_pos h, coming_start]
  unfold tk mostT
  by_cases hc : r.ct = 0
  · rw [if_pos hc, if_neg (by omega)]; rfl
  · rw [if_neg hc, List.take_take]
    congr 1
    split <;> omega
theorem days_len (r : Rl) (s d : Int) : (daysL r s d).length ≤ 200 := by
  unfold daysL
  split
  · rw [List.length_take]; omega
  · simp
set_option maxHeartbeats 4000000 in
theorem specRuleDays (r : Rl) (m : Rm) (s d : Int) (w : World) (hr : RAny w r m) :
    Calls Tryd.prog 20 #[.agg #[.int .i64 r.f, .int .i64 r.ev, .int .i64 r.ct, .int .i64 r.un, .slice m.a0 r.ds.length m.c0, .slice m.a1 r.da.length m.c1, .slice m.a2 r.mo.length m.c2, .slice m.a3 r.pl.length m.c3, .int .i64 r.wk], .int .i64 s, .int .i64 d] w fun e w' => (∃ v, e = .returned v ∧ OI w' w.heap.size v (daysL r s d)) ∧ Below w.heap.size w w' := by
  obtain ⟨W0, hW0⟩ : ∃ W0, W0 = w.alloc (.cells #[.int .i64 r.f, .int .i64 r.ev, .int .i64 r.ct, .int .i64 r.un, .slice m.a0 r.ds.length m.c0, .slice m.a1 r.da.length m.c1, .slice m.a2 r.mo.length m.c2, .slice m.a3 r.pl.length m.c3, .int .i64 r.wk] 26) := ⟨_, rfl⟩
  have hb0 : Below w.heap.size w W0 := by rw [hW0]; exact (Below.refl _ w).alloc (Nat.le_refl _) _
  have HCB : Hid (CB W0 w.heap.size r m) := by unfold Hid; rw [hW0]; exact CB.new w r m _
  have HW0 : Hid (W0 = w.alloc (.cells #[.int .i64 r.f, .int .i64 r.ev, .int .i64 r.ct, .int .i64 r.un, .slice m.a0 r.ds.length m.c0, .slice m.a1 r.da.length m.c1, .slice m.a2 r.mo.length m.c2, .slice m.a3 r.pl.length m.c3, .int .i64 r.wk] 26)) := hW0
  have HB0 : Hid (Below w.heap.size w W0) := hb0
  have HR0 : Hid (RAny W0 r m) := hr.on hb0
  have HM := specAsked r m s d W0 HR0.out
  clear hW0 hb0 hr
  cases h1 : mayB r s d with
  | false =>
    have HV : Hid (daysL r s d = []) := by unfold Hid daysL; rw [h1]; rfl
    rw [h1] at HM
    clear h1
    go_enter Tryd.func20, Tryd.ntmps20
    go_wp2_with fail
    rw [← HW0.out]
    refine HM.mono ?_
    rintro e w1 ⟨rfl, b1⟩
    have HB1 : Hid (Below w.heap.size w w1) := bstep HB0.out b1
    clear b1 HM
    go_wp2
    go_ret
    exact ⟨⟨_, rfl, by rw [HV.out]; exact OI.lit w1 _ HB1.out.size⟩, HB1.out.alloc HB1.out.size _⟩
  | true =>
    have HV : Hid (daysL r s d = (comes r s (limT r d)).take (mostT r 200).toNat) := days_eq h1
    obtain ⟨hru, ⟨s0, s1⟩, ⟨d0, d1⟩, hds⟩ := may_ok h1
    have HRU : Hid (ruOf r = true) := hru
    rw [h1] at HM
    clear h1 hru
    go_enter Tryd.func20, Tryd.ntmps20
    go_wp2_with fail
    rw [← HW0.out]
    refine HM.mono ?_
    rintro e w1 ⟨rfl, b1⟩
    have HB1 : Hid (Below w.heap.size w w1) := bstep HB0.out b1
    have HR1 : Hid (RIn w1 r m) := (HR0.out.on b1).ok HRU.out
    obtain ⟨q0, q1, q2, q3, q4, q5, q6, q7, q8⟩ := HCB.out.on (b1.block _ HCB.out.lt)
    clear b1 HM
    go_wp2_with fail
    refine (specDaysL r m s d 200 w1 HR1.out.ok HR1.out.mem HR1.out.l0 HR1.out.l1 HR1.out.l2 HR1.out.l3 (by_bd HRU.out) s0 s1 (by omega) (by omega)).mono ?_
    rintro e w2 ⟨⟨v, rfl, ov⟩, b2⟩
    have HB2 : Hid (Below w.heap.size w w2) := bstep HB1.out b2
    rw [← HV.out] at ov
    have HO : Hid (OI w2 w.heap.size v (daysL r s d)) := ov.base HB1.out.size
    clear b2 q0 q1 q2 q3 q4 q5 q6 q7 q8 ov
    go_wp2
    go_ret
    exact ⟨⟨_, rfl, HO.out⟩, HB2.out⟩
end Go.Proofs.YtlfglhpepoepcaaDoor
namespace Go.Proofs.YtlfglhpepoepcaaDoor
open Go.RowKit Go.Shelf
set_option linter.unusedVariables false

theorem asc_ext : ∀ {l m : List Int}, l.Pairwise (· < ·) → m.Pairwise (· < ·) → (∀ x, x ∈ l ↔ x ∈ m) → l = m
  | [], [], _, _, _ => rfl
  | [], b :: m, _, _, h => absurd ((h b).2 (List.mem_cons_self ..)) (by simp)
  | a :: l, [], _, _, h => absurd ((h a).1 (List.mem_cons_self ..)) (by simp)
  | a :: l, b :: m, hl, hm, h => by
    rw [List.pairwise_cons] at hl hm
    have e : a = b := by
      have h1 := (h a).1 (List.mem_cons_self ..)
      have h2 := (h b).2 (List.mem_cons_self ..)
      rcases List.mem_cons.1 h1 with e | h1
      · exact e
      · rcases List.mem_cons.1 h2 with e | h2
        · exact e.symm
        · have := hl.1 b h2; have := hm.1 a h1; omega
    subst e
    congr 1
    refine asc_ext hl.2 hm.2 fun x => ?_
    constructor
    · intro hx
      rcases List.mem_cons.1 ((h x).1 (List.mem_cons_of_mem _ hx)) with e | h'
      · have := hl.1 x hx; omega
      · exact h'
    · intro hx
      rcases List.mem_cons.1 ((h x).2 (List.mem_cons_of_mem _ hx)) with e | h'
      · have := hm.1 x hx; omega
      · exact h'
/-- What of an ascending list is not above a number stands at its beginning. -/
theorem asc_pre {t : Int} : ∀ {l : List Int}, l.Pairwise (· < ·) → l.filter (fun x => decide (x ≤ t)) <+: l
  | [], _ => List.prefix_refl _
  | a :: l, h => by
    rw [List.pairwise_cons] at h
    by_cases ha : a ≤ t
    · rw [List.filter_cons_of_pos (by simpa using ha)]
      obtain ⟨m, hm⟩ := asc_pre (t := t) h.2
      exact ⟨m, by rw [List.cons_append, hm]⟩
    · have e : (a :: l).filter (fun x => decide (x ≤ t)) = [] := by
        rw [List.filter_eq_nil_iff]
        intro x hx
        rcases List.mem_cons.1 hx with rfl | hx
        · simpa using ha
        · have := h.1 x hx; simp; omega
      rw [e]; exact List.nil_prefix
theorem pre_take {a b : List Int} (k : Nat) (h : a <+: b) : a.take k <+: b.take k := by
  obtain ⟨m, rfl⟩ := h
  rw [List.take_append]
  exact ⟨_, rfl⟩
theorem take_le {a : List Int} {j k : Nat} (h : j ≤ k) : a.take j <+: a.take k := by
  have : a.take j = (a.take k).take j := by rw [List.take_take]; congr 1; omega
  rw [this]; exact List.take_prefix _ _

section
variable {r : Rl} {s : Int}
theorem per_mono (hr : ROk r) (h0 : 0 ≤ s) (h1 : s ≤ 3652058) {j k : Nat} (h : j ≤ k) : spanF r s (j * r.ev) ≤ spanF r s (k * r.ev) := by
  have e0 := hr.e0
  rcases Nat.lt_or_eq_of_le h with h | rfl
  · have a := span_next hr h0 h1 (n := j * r.ev) (n' := k * r.ev) (Int.mul_nonneg (by omega) (by omega)) (Int.mul_lt_mul_of_pos_right (by omega) (by omega))
    have b := span_len hr h0 h1 (n := j * r.ev) (Int.mul_nonneg (by omega) (by omega))
    omega
  · exact Int.le_refl _
/-- A day on which something comes, at any time. -/
def dayP (r : Rl) (s x : Int) : Prop := s ≤ x ∧ ∃ k : Nat, x ∈ chJ r s k
theorem comes_iff (hr : ROk r) (h0 : 0 ≤ s) (h1 : s ≤ 3652058) {te x : Int} : x ∈ comes r s te ↔ dayP r s x ∧ x ≤ te := by
  unfold comes XF dayP
  rw [List.mem_filter]
  simp only [decide_eq_true_eq]
  constructor
  · rintro ⟨h, a, b⟩
    unfold AL at h
    rw [List.mem_flatMap] at h
    obtain ⟨j, _, hj⟩ := h
    exact ⟨⟨a, j, hj⟩, b⟩
  · rintro ⟨⟨a, k, hk⟩, b⟩
    refine ⟨?_, a, b⟩
    unfold AL
    rw [List.mem_flatMap]
    refine ⟨k, List.mem_range.2 ?_, hk⟩
    have hc := choice_mem hk
    rcases Nat.lt_or_ge k (perN r s te) with h | h
    · exact h
    · have := per_mono hr h0 h1 h
      have := @perN_out r hr s te h0 h1
      omega
theorem comes_cut (hr : ROk r) (h0 : 0 ≤ s) (h1 : s ≤ 3652058) {t t' : Int} (h : t' ≤ t) : comes r s t' = (comes r s t).filter fun x => decide (x ≤ t') := by
  refine asc_ext (comes_asc hr h0 h1) ((comes_asc hr h0 h1).filter _) fun x => ?_
  rw [List.mem_filter, comes_iff hr h0 h1, comes_iff hr h0 h1]
  simp only [decide_eq_true_eq]
  constructor
  · rintro ⟨a, b⟩; exact ⟨⟨a, by omega⟩, b⟩
  · rintro ⟨⟨a, _⟩, b⟩; exact ⟨a, b⟩
theorem comes_pre (hr : ROk r) (h0 : 0 ≤ s) (h1 : s ≤ 3652058) {t t' : Int} (h : t' ≤ t) : comes r s t' <+: comes r s t := by
  rw [comes_cut hr h0 h1 h]; exact asc_pre (comes_asc hr h0 h1)
theorem lim_mono {t t' : Int} (h : t' ≤ t) : limT r t' ≤ limT r t := by unfold limT; split <;> split <;> omega
theorem days_no {d : Int} (h : mayB r s d = false) : daysL r s d = [] := by unfold daysL; rw [h]; rfl
theorem days_mem {d x : Int} (h : x ∈ daysL r s d) : mayB r s d = true ∧ x ∈ comes r s (limT r d) := by
  cases hm : mayB r s d with
  | false => rw [days_no hm] at h; simp at h
  | true => rw [days_eq hm] at h; exact ⟨rfl, List.mem_of_mem_take h⟩
theorem days_bd {d x : Int} (h : x ∈ daysL r s d) : s ≤ x ∧ x ≤ d ∧ (0 < r.un → x ≤ r.un) ∧ 0 ≤ x ∧ x ≤ 3652058 := by
  obtain ⟨hm, hc⟩ := days_mem h
  obtain ⟨hru, ⟨s0, s1⟩, ⟨d0, d1⟩, _⟩ := may_ok hm
  have := comes_mem hc
  have l := lim_le r d
  refine ⟨this.1, by omega, fun hu => ?_, by omega, by omega⟩
  have h2 := this.2
  unfold limT at h2
  split at h2 <;> omega
theorem days_asc (d : Int) : (daysL r s d).Pairwise (· < ·) := by
  cases hm : mayB r s d with
  | false => rw [days_no hm]; exact List.Pairwise.nil
  | true =>
    obtain ⟨hru, ⟨s0, s1⟩, _⟩ := may_ok hm
    rw [days_eq hm]
    exact (comes_asc (ru_ok hru).1 s0 s1).sublist (List.take_sublist _ _)
theorem days_ct {d : Int} (h : 0 < r.ct) : ((daysL r s d).length : Int) ≤ r.ct := by
  cases hm : mayB r s d with
  | false => rw [days_no hm]; simp; omega
  | true =>
    rw [days_eq hm, List.length_take]
    unfold mostT
    split <;> omega
theorem days_pre {t t' : Int} (hm : mayB r s t = true ∨ mayB r s t' = false) (h : t' ≤ t) : daysL r s t' <+: daysL r s t := by
  cases hm' : mayB r s t' with
  | false => rw [days_no hm']; exact List.nil_prefix
  | true =>
    have hm : mayB r s t = true := by rcases hm with h | h; exact h; rw [hm'] at h; cases h
    obtain ⟨hru, ⟨s0, s1⟩, _⟩ := may_ok hm
    rw [days_eq hm, days_eq hm']
    exact pre_take _ (comes_pre (ru_ok hru).1 s0 s1 (lim_mono h))
theorem days_gi_lt {d : Int} {i : Nat} (h : i + 1 < (daysL r s d).length) : gi (daysL r s d) i < gi (daysL r s d) (i + 1) := by
  rw [gi_get (by omega), gi_get h]
  exact List.pairwise_iff_getElem.1 (days_asc d) i (i + 1) (by omega) h (by omega)
theorem on_iff {d : Int} : onB r s d = true ↔ mayB r s d = true ∧ d ∈ (comes r s (limT r d)).take (mostT r 20000).toNat := by
  unfold onB
  cases hm : mayB r s d with
  | false => simp
  | true => rw [Bool.true_and, on_eq hm]; unfold hasI; simp
theorem most_le : (mostT r 200).toNat ≤ (mostT r 20000).toNat := by unfold mostT; split <;> split <;> omega
theorem days_on {d : Int} (h : d ∈ daysL r s d) : onB r s d = true := by
  obtain ⟨hm, _⟩ := days_mem h
  rw [days_eq hm] at h
  exact on_iff.2 ⟨hm, (take_le most_le).subset h⟩
theorem on_days {d : Int} (h : onB r s d = true) : d ∈ daysL r s d ∨ (daysL r s d).length = 200 := by
  obtain ⟨hm, hc⟩ := on_iff.1 h
  have hru := (ru_ok (may_ok hm).1).1
  have c0 := hru.c0
  rw [days_eq hm]
  by_cases hl : ((comes r s (limT r d)).take (mostT r 200).toNat).length = 200
  · exact .inr hl
  · refine .inl ?_
    rw [List.length_take] at hl
    by_cases hct : 0 < r.ct ∧ r.ct < 200
    · have e : mostT r 200 = mostT r 20000 := by unfold mostT; rw [if_pos hct, if_pos (by omega)]
      rw [e]; exact hc
    · have e : mostT r 200 = 200 := by unfold mostT; rw [if_neg hct]
      rw [e] at hl ⊢
      rw [List.take_of_length_le (by omega)]
      exact List.mem_of_mem_take hc
theorem fit_of_ch {k : Nat} {x : Int} (h : x ∈ chJ r s k) : fitB r s x = true := by
  unfold chJ choice at h
  have : x ∈ fitL r s (spanF r s (k * r.ev)) (spanL r s (k * r.ev) + 1) := by
    split at h
    · exact h
    · exact plL_mem (Nat.le_refl _) h
  unfold fitL at this
  have := (List.mem_filter.1 this).2
  simp at this
  exact this.2
theorem fit_parts {x : Int} (h : fitB r s x = true) : (r.mo.length = 0 ∨ mOf x ∈ r.mo) ∧ (r.da.length = 0 ∨ dOf x ∈ r.da ∨ dOf x - dim (yOf x) (mOf x) - 1 ∈ r.da) ∧ (r.ds.length = 0 ∨ dfB r x = true) ∧ (0 < r.ds.length ∨ 0 < r.da.length ∨ ownB r s x = true) := by
  unfold fitB dtB hasI at h
  simp only [Bool.and_eq_true, Bool.or_eq_true, decide_eq_true_eq] at h
  obtain ⟨a, b, c, d⟩ := h
  exact ⟨a, b, c, by rcases d with (d | d) | d <;> simp [d]⟩
theorem on_fit {d : Int} (h : onB r s d = true) : mayB r s d = true ∧ s ≤ d ∧ fitB r s d = true := by
  obtain ⟨hm, hc⟩ := on_iff.1 h
  obtain ⟨hru, ⟨s0, s1⟩, _⟩ := may_ok hm
  obtain ⟨⟨a, k, hk⟩, _⟩ := (comes_iff (ru_ok hru).1 s0 s1).1 (List.mem_of_mem_take hc)
  exact ⟨hm, a, fit_of_ch hk⟩
/-- The next day is one of the rule's, and none between is. -/
theorem next_facts {d : Int} (h : 0 ≤ nextV r s d) : d ≤ nextV r s d ∧ s ≤ nextV r s d ∧ nextV r s d ≤ d + 366 ∧ onB r s (nextV r s d) = true ∧ ∀ k, d ≤ k → k < nextV r s d → onB r s k = false := by
  cases hm : mayB r s d with
  | false => unfold nextV at h; rw [hm] at h; simp at h
  | true =>
    obtain ⟨hru, ⟨s0, s1⟩, ⟨d0, d1⟩, hd⟩ := may_ok hm
    have hr := (ru_ok hru).1
    have u0 := hr.u0; have u1 := hr.u1
    have e := next_eq hm
    have hl := lim_le r (nxT s d)
    have hnx : nxT s d ≤ d + 366 ∧ nxT s d ≤ s + 11000 ∧ nxT s d ≤ 3652058 := by unfold nxT; omega
    obtain ⟨M, hM⟩ : ∃ M, M = nxM r s d := ⟨_, rfl⟩
    rw [← hM] at e
    have asc : M.Pairwise (· < ·) := by rw [hM]; exact (comes_asc hr s0 s1).sublist (List.take_sublist _ _)
    have gasc : (geL d M).Pairwise (· < ·) := asc.filter _
    cases hg : geL d M with
    | nil => rw [hg] at e; unfold firstT at e; simp at e; omega
    | cons y t =>
      have hy : y ∈ geL d M := by rw [hg]; exact List.mem_cons_self ..
      have e2 : nextV r s d = y := by rw [e, hg]; rfl
      have hy2 : y ∈ M ∧ d ≤ y := by unfold geL at hy; rw [List.mem_filter] at hy; simpa using hy
      have hy3 : y ∈ comes r s (limT r (nxT s d)) := by have := hy2.1; rw [hM] at this; exact List.mem_of_mem_take this
      have hy4 := comes_mem hy3
      rw [e2]
      refine ⟨hy2.2, hy4.1, by omega, ?_, ?_⟩
      · refine on_iff.2 ⟨?_, ?_⟩
        · unfold mayB; rw [hru, (in_iff _ _ _).2 ⟨s0, s1⟩, (in_iff _ _ _).2 (show 0 ≤ y ∧ y ≤ 3652058 by omega)]; simp; omega
        · have hly : y ≤ limT r y := by
            have := hy4.2
            unfold limT at this ⊢
            split <;> split at this <;> omega
          have pre : comes r s (limT r y) <+: comes r s (limT r (nxT s d)) := comes_pre hr s0 s1 (lim_mono (by omega))
          have hin : y ∈ comes r s (limT r y) := (comes_iff hr s0 s1).2 ⟨((comes_iff hr s0 s1).1 hy3).1, hly⟩
          have hMy := hy2.1
          rw [hM] at hMy
          unfold nxM at hMy
          obtain ⟨i, hi, ei⟩ := List.getElem_of_mem hMy
          have hiK : i < (mostT r 20000).toNat ∧ i < (comes r s (limT r (nxT s d))).length := by have q := hi; rw [List.length_take] at q; omega
          obtain ⟨j, hj, ej⟩ := List.getElem_of_mem hin
          obtain ⟨Z, hZ⟩ := pre
          have hcasc : (comes r s (limT r (nxT s d))).Pairwise (· < ·) := comes_asc hr s0 s1
          rw [List.getElem_take] at ei
          have hjl : j < (comes r s (limT r (nxT s d))).length := by rw [← hZ, List.length_append]; omega
          have ej2 : (comes r s (limT r (nxT s d)))[j] = y := by
            rw [← ej]; simp only [← hZ]; rw [List.getElem_append_left hj]
          have hij : i = j := by
            rcases Nat.lt_trichotomy i j with h' | h' | h'
            · have := List.pairwise_iff_getElem.1 hcasc i j (by omega) hjl h'; omega
            · exact h'
            · have := List.pairwise_iff_getElem.1 hcasc j i hjl (by omega) h'; omega
          subst hij
          have h7 := hiK.1
          have h8 : i < min (mostT r 20000).toNat (comes r s (limT r y)).length := by omega
          have h9 : (comes r s (limT r y))[i] ∈ (comes r s (limT r y)).take (mostT r 20000).toNat := List.mem_take_iff_getElem.2 ⟨i, h8, rfl⟩
          rw [ej] at h9
          exact h9
      · intro k hk1 hk2
        cases ho : onB r s k with
        | false => rfl
        | true =>
          exfalso
          obtain ⟨hmk, hck⟩ := on_iff.1 ho
          have hkM : k ∈ M := by
            rw [hM]
            exact (pre_take _ (comes_pre hr s0 s1 (lim_mono (r := r) (t := nxT s d) (t' := k) (by omega)))).subset hck
          have hkg : k ∈ geL d M := by unfold geL; rw [List.mem_filter]; exact ⟨hkM, by simpa using hk1⟩
          rw [hg] at hkg
          rw [hg, List.pairwise_cons] at gasc
          rcases List.mem_cons.1 hkg with rfl | h'
          · omega
          · have := gasc.1 k h'; omega
end
end Go.Proofs.YtlfglhpepoepcaaDoor
