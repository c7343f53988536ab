/- The specification's days of the week of a rule. -/
import Derived.Test.YtlnhagkipmcioaaDoorKw
namespace Go.Proofs.YtlnhagkipmcioaaDoor
open Go.RowKit Go.Shelf
set_option linter.unusedVariables false

def nthV (p q x : Int) : Bool := if 0 < x then decide (p / 7 + 1 = x) else decide (q / 7 + 1 = -x)
theorem specNthR (n fs ls x : Int) (w : World) (P Q : Int) (hp : n - fs = P) (hq : ls - n = Q) (p0 : 0 ≤ P) (p1 : P ≤ 366) (q0 : 0 ≤ Q) (q1 : Q ≤ 366) (n0 : 0 ≤ n) (n1 : n ≤ 3652058) (x0 : -1000 ≤ x) (x1 : x ≤ 1000) :
    Calls Tryd.prog 61 #[.int .i64 n, .int .i64 fs, .int .i64 ls, .int .i64 x] w fun e w' => e = .returned (.bool (nthV P Q x)) ∧ w' = w := by
  subst hp hq
  exact specNth n fs ls x w p0 (by omega) q0 (by omega) n0 n1 x0 x1
theorem nth_byV {n P Q x : Int} (h0 : 0 ≤ P) (h2 : 0 ≤ Q) (hx : x ≠ 0) : byC n (P / 7 + 1) (-(Q / 7 + 1)) x (n % 7) = nthV P Q x := by
  unfold byC nthV
  rw [Bool.eq_iff_iff]
  split <;> simp <;> omega
set_option maxRecDepth 100000 in
set_option maxHeartbeats 8000000 in
theorem specDayFits (r : Rl) (m : Rm) (n : Int) (w : World) (hi : IsTurns w m.a0 r.ds) (hl : r.ds.length ≤ 8) (hx : ∀ j, j < r.ds.length → -1000 ≤ tAt r.ds j ∧ tAt r.ds j ≤ 1000) (h0 : 0 ≤ n) (h1 : n ≤ 3652058) :
    Calls Tryd.prog 47 #[.agg #[.int .i64 r.f, .int .i64 r.ev, .int .i64 r.ct, .int .i64 r.un, .slice m.a0 r.ds.length m.c0, .slice m.a1 r.da.length m.c1, .slice m.a2 r.mo.length m.c2, .slice m.a3 r.pl.length m.c3, .int .i64 r.wk], .int .i64 n] w fun e w' => e = .returned (.bool (dfB r n)) ∧ Below w.heap.size w w' := by
  obtain ⟨W0, hW0⟩ : ∃ W0, W0 = w.alloc (.cells #[.int .i64 r.f, .int .i64 r.ev, .int .i64 r.ct, .int .i64 r.un, .slice m.a0 r.ds.length m.c0, .slice m.a1 r.da.length m.c1, .slice m.a2 r.mo.length m.c2, .slice m.a3 r.pl.length m.c3, .int .i64 r.wk] 30) := ⟨_, rfl⟩
  have hb0 : Below w.heap.size w W0 := by rw [hW0]; exact (Below.refl _ w).alloc (Nat.le_refl _) _
  have HW0 : Hid (W0 = w.alloc (.cells #[.int .i64 r.f, .int .i64 r.ev, .int .i64 r.ct, .int .i64 r.un, .slice m.a0 r.ds.length m.c0, .slice m.a1 r.da.length m.c1, .slice m.a2 r.mo.length m.c2, .slice m.a3 r.pl.length m.c3, .int .i64 r.wk] 30)) := hW0
  have HB0 : Hid (Below w.heap.size w W0) := hb0
  have HC0 : Hid (CB W0 w.heap.size r m) := by unfold Hid; rw [hW0]; exact CB.new w r m _
  have HI0 : Hid (IsTurns W0 m.a0 r.ds) := hi.below (B := 0) hb0
  have HXB : Hid (∀ j, j < r.ds.length → -1000 ≤ tAt r.ds j ∧ tAt r.ds j ≤ 1000) := hx
  obtain ⟨a0, a1, a2, a3, a4, a5, a6, a7, _⟩ := date_bd h0 h1
  have es := fst_succ (yOf n) a0
  have lp := lp_01 (yOf n)
  have db := dim_bd (yOf n) (mOf n)
  have fb := fst_bd2 (yOf n) a0 (by omega)
  have fb' := fst_bd2 (yOf n + 1) (by omega) (by omega)
  clear hi hb0 hW0 hx es lp
  go_enter Tryd.func47, Tryd.ntmps47
  go_wp2_with fail
  rw [← HW0.out]
  refine (specDateN n W0 h0 h1).mono ?_
  rintro e w1 ⟨rfl, b1⟩
  obtain ⟨W2, hW2⟩ : ∃ W2, W2 = w1.alloc (.cells #[.int .i64 (yOf n), .int .i64 (mOf n), .int .i64 (dOf n)] 59) := ⟨_, rfl⟩
  have hb2 : Below W0.heap.size W0 W2 := by rw [hW2]; exact b1.alloc b1.size _
  have HB2 : Hid (Below w.heap.size w W2) := bstep HB0.out hb2
  have HC2 : Hid (CB W2 w.heap.size r m) := HC0.out.on (hb2.block _ HC0.out.lt)
  have HI2 : Hid (IsTurns W2 m.a0 r.ds) := HI0.out.below (B := 0) hb2
  have HW2 : Hid (W2 = w1.alloc (.cells #[.int .i64 (yOf n), .int .i64 (mOf n), .int .i64 (dOf n)] 59)) := hW2
  obtain ⟨b0, _, _, _, b4, _, b6, _, _⟩ := HC0.out.on (b1.block _ HC0.out.lt)
  have hrl := cell_lt b0
  clear hb2 b1 hW2
  obtain ⟨P, hPe⟩ : ∃ P, P = pastB (inMo r) n := ⟨_, rfl⟩
  obtain ⟨Q, hQe⟩ : ∃ Q, Q = leftB (inMo r) n := ⟨_, rfl⟩
  have hPQ := left_bd (inMo r) h0 h1
  rw [← hPe, ← hQe] at hPQ
  have hP : 0 ≤ P ∧ P ≤ 366 := ⟨hPQ.1, hPQ.2.1⟩
  have hQ : 0 ≤ Q ∧ Q ≤ 366 := hPQ.2.2
  have HDF : Hid (dfB r n = anyBy n (P / 7 + 1) (-(Q / 7 + 1)) r.ds) := by unfold Hid; rw [dfB_any, hPe, hQe]
  have HPE : Hid (P = pastB (inMo r) n) := hPe
  have HQE : Hid (Q = leftB (inMo r) n) := hQe
  clear hPe hQe hPQ
  by_cases h3 : r.f = 3
  · have HPL : Hid (n - (n - dOf n + 1) = P ∧ (n - dOf n + 1 + dim (yOf n) (mOf n) - 1) - n = Q) := by unfold Hid; rw [HPE.out, HQE.out, show inMo r = true from decide_eq_true (.inl h3)]; unfold pastB leftB; simp; omega
    go_wp2_with (first | (go_at_call 36; refine (specFirst _ _ (by omega) (by omega)).mono ?_; rintro e w' ⟨rfl, rfl⟩) | (go_at_call 35; refine (specDays _ _ _ (by omega) (by omega) (by omega) (by omega)).mono ?_; rintro e w' ⟨rfl, rfl⟩))
    rw [← HW2.out]
    clear b0 b4 b6
    go_loopw [8] (fun i wr => ∃ k : Nat, k ≤ r.ds.length ∧ i = .int .i64 k ∧ Below W2.heap.size W2 wr ∧ ∀ j, j < k → byC n (P / 7 + 1) (-(Q / 7 + 1)) (tAt r.ds j) (tSh r.ds j) = false) (fun i _ => r.ds.length - (intOf i).toNat)
    case atStart => exact ⟨0, by omega, rfl, Below.refl _ _, fun j hj => by omega⟩
    case round =>
      obtain ⟨k, hk, rfl, hb, hno⟩ := hrel
      have HN : Hid (∀ j, j < k → byC n (P / 7 + 1) (-(Q / 7 + 1)) (tAt r.ds j) (tSh r.ds j) = false) := hno
      have HB : Hid (Below W2.heap.size W2 wr) := hb
      have HBw : Hid (Below w.heap.size w wr) := bstep HB2.out hb
      have c4 := (HC2.out.on (hb.block _ HC2.out.lt)).2.2.2.2.1
      have hcl := cell_lt c4
      clear hno
      by_cases hlt : k < r.ds.length
      · have G1 := HI2.out
        rcases G1 with G1 | ⟨b, o, he, hbs, hc⟩
        · rw [G1] at hlt; simp at hlt
        obtain ⟨d0, d1⟩ := hc k hlt
        rw [← hb.cell (p := ⟨b, o + k * 2, none⟩) hbs] at d0
        rw [← hb.cell (p := ⟨b, o + k * 2 + 1, none⟩) hbs] at d1
        rw [he] at c4
        obtain ⟨x, hx⟩ : ∃ x, x = tAt r.ds k := ⟨_, rfl⟩
        obtain ⟨y, hy⟩ : ∃ y, y = tSh r.ds k := ⟨_, rfl⟩
        rw [← hx] at d0
        rw [← hy] at d1
        have HX : Hid (x = tAt r.ds k) := hx
        have HY : Hid (y = tSh r.ds k) := hy
        have hxb := HXB.out k hlt
        rw [← hx] at hxb
        clear hc hx hy hb he
        have hi1 : (k : Int) < (r.ds.length : Int) := by omega
        have hi0 : (0 : Int) ≤ (k : Int) := by omega
        have FIN : Hid (∀ w3 q, w3 = (wr.alloc (.cells #[.int .i64 x, .int .i64 y] 48)).drewN q ∨ w3 = wr.alloc (.cells #[.int .i64 x, .int .i64 y] 48) → Below W2.heap.size W2 w3) := fun w3 q h => by
          rcases h with rfl | rfl
          · exact Below.drewN' (HB.out.alloc HB.out.size _) q
          · exact HB.out.alloc HB.out.size _
        by_cases e1 : y = n % 7
        · subst e1
          by_cases e2 : x = 0
          · subst e2
            go_wp2
            go_ret
            refine ⟨ret_b ?_, bstep HB2.out (FIN.out _ 0 (.inr rfl))⟩
            rw [HDF.out, any_yes hlt (by rw [← HX.out, ← HY.out]; unfold byC; simp)]
          · cases hv : nthV P Q x with
            | true =>
              have HV : Hid (nthV P Q x = true) := hv
              go_wp2_with (go_at_call 61; refine (specNthR n _ _ x _ P Q (by have := HPL.out; omega) (by have := HPL.out; omega) hP.1 hP.2 hQ.1 hQ.2 h0 h1 hxb.1 hxb.2).mono ?_; rintro e w' ⟨rfl, rfl⟩; rw [HV.out])
              go_ret
              refine ⟨ret_b ?_, bstep HB2.out (FIN.out _ 0 (.inr rfl))⟩
              rw [HDF.out, any_yes hlt (by rw [← HX.out, ← HY.out, nth_byV hP.1 hQ.1 e2]; exact HV.out)]
            | false =>
              have HV : Hid (nthV P Q x = false) := hv
              go_wp2_with (go_at_call 61; refine (specNthR n _ _ x _ P Q (by have := HPL.out; omega) (by have := HPL.out; omega) hP.1 hP.2 hQ.1 hQ.2 h0 h1 hxb.1 hxb.2).mono ?_; rintro e w' ⟨rfl, rfl⟩; rw [HV.out])
              go_roundw
              case rel => exact ⟨k + 1, by omega, by go_num, FIN.out _ 0 (.inr rfl), fun j hj => by
                rcases Nat.lt_or_ge j k with h' | h'
                · exact HN.out j h'
                · have : j = k := by omega
                  subst this; rw [← HX.out, ← HY.out, nth_byV hP.1 hQ.1 e2]; exact HV.out⟩
              case measure => simp [intOf]; omega
        · go_wp2
          go_roundw
          case rel => exact ⟨k + 1, by omega, by go_num, FIN.out _ 0 (.inr rfl), fun j hj => by
            rcases Nat.lt_or_ge j k with h' | h'
            · exact HN.out j h'
            · have : j = k := by omega
              subst this; rw [← HX.out, ← HY.out]; unfold byC; simp [e1]⟩
          case measure => simp [intOf]; omega
      · have : k = r.ds.length := by omega
        subst this
        clear hb
        go_wp2
        go_ret
        refine ⟨ret_b ?_, HBw.out⟩
        rw [HDF.out, any_no HN.out]
  · by_cases hmo : 0 < r.mo.length
    · have HPL : Hid (n - (n - dOf n + 1) = P ∧ (n - dOf n + 1 + dim (yOf n) (mOf n) - 1) - n = Q) := by unfold Hid; rw [HPE.out, HQE.out, show inMo r = true from decide_eq_true (.inr hmo)]; unfold pastB leftB; simp; omega
      have hmo' : 0 < (r.mo.length : Int) := by omega
      go_wp2_with (first | (go_at_call 36; refine (specFirst _ _ (by omega) (by omega)).mono ?_; rintro e w' ⟨rfl, rfl⟩) | (go_at_call 35; refine (specDays _ _ _ (by omega) (by omega) (by omega) (by omega)).mono ?_; rintro e w' ⟨rfl, rfl⟩))
      rw [← HW2.out]
      clear b0 b4 b6
      go_loopw [8] (fun i wr => ∃ k : Nat, k ≤ r.ds.length ∧ i = .int .i64 k ∧ Below W2.heap.size W2 wr ∧ ∀ j, j < k → byC n (P / 7 + 1) (-(Q / 7 + 1)) (tAt r.ds j) (tSh r.ds j) = false) (fun i _ => r.ds.length - (intOf i).toNat)
      case atStart => exact ⟨0, by omega, rfl, Below.refl _ _, fun j hj => by omega⟩
      case round =>
        obtain ⟨k, hk, rfl, hb, hno⟩ := hrel
        have HN : Hid (∀ j, j < k → byC n (P / 7 + 1) (-(Q / 7 + 1)) (tAt r.ds j) (tSh r.ds j) = false) := hno
        have HB : Hid (Below W2.heap.size W2 wr) := hb
        have HBw : Hid (Below w.heap.size w wr) := bstep HB2.out hb
        have c4 := (HC2.out.on (hb.block _ HC2.out.lt)).2.2.2.2.1
        have hcl := cell_lt c4
        clear hno
        by_cases hlt : k < r.ds.length
        · have G1 := HI2.out
          rcases G1 with G1 | ⟨b, o, he, hbs, hc⟩
          · rw [G1] at hlt; simp at hlt
          obtain ⟨d0, d1⟩ := hc k hlt
          rw [← hb.cell (p := ⟨b, o + k * 2, none⟩) hbs] at d0
          rw [← hb.cell (p := ⟨b, o + k * 2 + 1, none⟩) hbs] at d1
          rw [he] at c4
          obtain ⟨x, hx⟩ : ∃ x, x = tAt r.ds k := ⟨_, rfl⟩
          obtain ⟨y, hy⟩ : ∃ y, y = tSh r.ds k := ⟨_, rfl⟩
          rw [← hx] at d0
          rw [← hy] at d1
          have HX : Hid (x = tAt r.ds k) := hx
          have HY : Hid (y = tSh r.ds k) := hy
          have hxb := HXB.out k hlt
          rw [← hx] at hxb
          clear hc hx hy hb he
          have hi1 : (k : Int) < (r.ds.length : Int) := by omega
          have hi0 : (0 : Int) ≤ (k : Int) := by omega
          have FIN : Hid (∀ w3 q, w3 = (wr.alloc (.cells #[.int .i64 x, .int .i64 y] 48)).drewN q ∨ w3 = wr.alloc (.cells #[.int .i64 x, .int .i64 y] 48) → Below W2.heap.size W2 w3) := fun w3 q h => by
            rcases h with rfl | rfl
            · exact Below.drewN' (HB.out.alloc HB.out.size _) q
            · exact HB.out.alloc HB.out.size _
          by_cases e1 : y = n % 7
          · subst e1
            by_cases e2 : x = 0
            · subst e2
              go_wp2
              go_ret
              refine ⟨ret_b ?_, bstep HB2.out (FIN.out _ 0 (.inr rfl))⟩
              rw [HDF.out, any_yes hlt (by rw [← HX.out, ← HY.out]; unfold byC; simp)]
            · cases hv : nthV P Q x with
              | true =>
                have HV : Hid (nthV P Q x = true) := hv
                go_wp2_with (go_at_call 61; refine (specNthR n _ _ x _ P Q (by have := HPL.out; omega) (by have := HPL.out; omega) hP.1 hP.2 hQ.1 hQ.2 h0 h1 hxb.1 hxb.2).mono ?_; rintro e w' ⟨rfl, rfl⟩; rw [HV.out])
                go_ret
                refine ⟨ret_b ?_, bstep HB2.out (FIN.out _ 0 (.inr rfl))⟩
                rw [HDF.out, any_yes hlt (by rw [← HX.out, ← HY.out, nth_byV hP.1 hQ.1 e2]; exact HV.out)]
              | false =>
                have HV : Hid (nthV P Q x = false) := hv
                go_wp2_with (go_at_call 61; refine (specNthR n _ _ x _ P Q (by have := HPL.out; omega) (by have := HPL.out; omega) hP.1 hP.2 hQ.1 hQ.2 h0 h1 hxb.1 hxb.2).mono ?_; rintro e w' ⟨rfl, rfl⟩; rw [HV.out])
                go_roundw
                case rel => exact ⟨k + 1, by omega, by go_num, FIN.out _ 0 (.inr rfl), fun j hj => by
                  rcases Nat.lt_or_ge j k with h' | h'
                  · exact HN.out j h'
                  · have : j = k := by omega
                    subst this; rw [← HX.out, ← HY.out, nth_byV hP.1 hQ.1 e2]; exact HV.out⟩
                case measure => simp [intOf]; omega
          · go_wp2
            go_roundw
            case rel => exact ⟨k + 1, by omega, by go_num, FIN.out _ 0 (.inr rfl), fun j hj => by
              rcases Nat.lt_or_ge j k with h' | h'
              · exact HN.out j h'
              · have : j = k := by omega
                subst this; rw [← HX.out, ← HY.out]; unfold byC; simp [e1]⟩
            case measure => simp [intOf]; omega
        · have : k = r.ds.length := by omega
          subst this
          clear hb
          go_wp2
          go_ret
          refine ⟨ret_b ?_, HBw.out⟩
          rw [HDF.out, any_no HN.out]
    · have HPL : Hid (n - (fst (yOf n)) = P ∧ (fst (yOf n + 1) - 1) - n = Q) := by unfold Hid; rw [HPE.out, HQE.out, show inMo r = false from decide_eq_false (fun h => by rcases h with h | h; exact h3 h; exact hmo h)]; unfold pastB leftB; simp; omega
      have hmo' : ¬ 0 < (r.mo.length : Int) := by omega
      have hq : (r.f == 3) = false := by simpa using h3
      go_wp2_with (first | (go_at_call 36; refine (specFirst _ _ (by omega) (by omega)).mono ?_; rintro e w' ⟨rfl, rfl⟩) | (go_at_call 35; refine (specDays _ _ _ (by omega) (by omega) (by omega) (by omega)).mono ?_; rintro e w' ⟨rfl, rfl⟩))
      rw [← HW2.out]
      clear b0 b4 b6 h3 hmo hmo' hq
      go_loopw [8] (fun i wr => ∃ k : Nat, k ≤ r.ds.length ∧ i = .int .i64 k ∧ Below W2.heap.size W2 wr ∧ ∀ j, j < k → byC n (P / 7 + 1) (-(Q / 7 + 1)) (tAt r.ds j) (tSh r.ds j) = false) (fun i _ => r.ds.length - (intOf i).toNat)
      case atStart => exact ⟨0, by omega, rfl, Below.refl _ _, fun j hj => by omega⟩
      case round =>
        obtain ⟨k, hk, rfl, hb, hno⟩ := hrel
        have HN : Hid (∀ j, j < k → byC n (P / 7 + 1) (-(Q / 7 + 1)) (tAt r.ds j) (tSh r.ds j) = false) := hno
        have HB : Hid (Below W2.heap.size W2 wr) := hb
        have HBw : Hid (Below w.heap.size w wr) := bstep HB2.out hb
        have c4 := (HC2.out.on (hb.block _ HC2.out.lt)).2.2.2.2.1
        have hcl := cell_lt c4
        clear hno
        by_cases hlt : k < r.ds.length
        · have G1 := HI2.out
          rcases G1 with G1 | ⟨b, o, he, hbs, hc⟩
          · rw [G1] at hlt; simp at hlt
          obtain ⟨d0, d1⟩ := hc k hlt
          rw [← hb.cell (p := ⟨b, o + k * 2, none⟩) hbs] at d0
          rw [← hb.cell (p := ⟨b, o + k * 2 + 1, none⟩) hbs] at d1
          rw [he] at c4
          obtain ⟨x, hx⟩ : ∃ x, x = tAt r.ds k := ⟨_, rfl⟩
          obtain ⟨y, hy⟩ : ∃ y, y = tSh r.ds k := ⟨_, rfl⟩
          rw [← hx] at d0
          rw [← hy] at d1
          have HX : Hid (x = tAt r.ds k) := hx
          have HY : Hid (y = tSh r.ds k) := hy
          have hxb := HXB.out k hlt
          rw [← hx] at hxb
          clear hc hx hy hb he
          have hi1 : (k : Int) < (r.ds.length : Int) := by omega
          have hi0 : (0 : Int) ≤ (k : Int) := by omega
          have FIN : Hid (∀ w3 q, w3 = (wr.alloc (.cells #[.int .i64 x, .int .i64 y] 48)).drewN q ∨ w3 = wr.alloc (.cells #[.int .i64 x, .int .i64 y] 48) → Below W2.heap.size W2 w3) := fun w3 q h => by
            rcases h with rfl | rfl
            · exact Below.drewN' (HB.out.alloc HB.out.size _) q
            · exact HB.out.alloc HB.out.size _
          by_cases e1 : y = n % 7
          · subst e1
            by_cases e2 : x = 0
            · subst e2
              go_wp2
              go_ret
              refine ⟨ret_b ?_, bstep HB2.out (FIN.out _ 0 (.inr rfl))⟩
              rw [HDF.out, any_yes hlt (by rw [← HX.out, ← HY.out]; unfold byC; simp)]
            · cases hv : nthV P Q x with
              | true =>
                have HV : Hid (nthV P Q x = true) := hv
                go_wp2_with (go_at_call 61; refine (specNthR n _ _ x _ P Q (by have := HPL.out; omega) (by have := HPL.out; omega) hP.1 hP.2 hQ.1 hQ.2 h0 h1 hxb.1 hxb.2).mono ?_; rintro e w' ⟨rfl, rfl⟩; rw [HV.out])
                go_ret
                refine ⟨ret_b ?_, bstep HB2.out (FIN.out _ 0 (.inr rfl))⟩
                rw [HDF.out, any_yes hlt (by rw [← HX.out, ← HY.out, nth_byV hP.1 hQ.1 e2]; exact HV.out)]
              | false =>
                have HV : Hid (nthV P Q x = false) := hv
                go_wp2_with (go_at_call 61; refine (specNthR n _ _ x _ P Q (by have := HPL.out; omega) (by have := HPL.out; omega) hP.1 hP.2 hQ.1 hQ.2 h0 h1 hxb.1 hxb.2).mono ?_; rintro e w' ⟨rfl, rfl⟩; rw [HV.out])
                go_roundw
                case rel => exact ⟨k + 1, by omega, by go_num, FIN.out _ 0 (.inr rfl), fun j hj => by
                  rcases Nat.lt_or_ge j k with h' | h'
                  · exact HN.out j h'
                  · have : j = k := by omega
                    subst this; rw [← HX.out, ← HY.out, nth_byV hP.1 hQ.1 e2]; exact HV.out⟩
                case measure => simp [intOf]; omega
          · go_wp2
            go_roundw
            case rel => exact ⟨k + 1, by omega, by go_num, FIN.out _ 0 (.inr rfl), fun j hj => by
              rcases Nat.lt_or_ge j k with h' | h'
              · exact HN.out j h'
              · have : j = k := by omega
                subst this; rw [← HX.out, ← HY.out]; unfold byC; simp [e1]⟩
            case measure => simp [intOf]; omega
        · have : k = r.ds.length := by omega
          subst this
          clear hb
          go_wp2
          go_ret
          refine ⟨ret_b ?_, HBw.out⟩
          rw [HDF.out, any_no HN.out]
end Go.Proofs.YtlnhagkipmcioaaDoor
