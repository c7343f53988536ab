/- A rule as it lies in memory; the program's periods. -/
import Derived.Test.YtlfglhpepoepcaaDoorKc
import Derived.Test.YtlfglhpepoepcaaDoorZn
import Derived.Test.YtlfglhpepoepcaaDoorRf
import Derived.Test.YtlfglhpepoepcaaDoorRn
namespace Go.Proofs.YtlfglhpepoepcaaDoor
open Go.RowKit
set_option linter.unusedVariables false

theorem wd_num (n : Int) (h0 : 0 ≤ n) : n.tmod 7 = n % 7 := Int.tmod_eq_emod_of_nonneg h0
theorem implWd (n : Int) (w : World) (h0 : 0 ≤ n) (h1 : n ≤ 4000000) : Calls Tryd.prog 47 #[.int .i64 n] w fun e w' => e = .returned (.int .i64 (n % 7)) ∧ w' = w := by
  go_enter Tryd.func47, Tryd.ntmps47
  go_wp2
  go_ret
  exact ⟨ret_i (by first | rfl | omega), rfl⟩
theorem implYearN (n : Int) (w : World) (h0 : 0 ≤ n) (h1 : n ≤ 3652058) : Calls Tryd.prog 62 #[.int .i64 n] w fun e w' => e = .returned (.int .i64 (yOf n)) ∧ w' = w := by
  refine (implYear n w h0 (by omega)).mono ?_
  rintro e w' ⟨⟨y, rfl, a, b, c, d⟩, rfl⟩
  have hd := date_ex h0 h1
  have := num_year hd.1
  obtain ⟨a0, a1, _⟩ := (okD_iff _ _ _).1 hd.1
  rw [hd.2] at this
  exact ⟨ret_i (year_uniq a a0 c d this.1 this.2), rfl⟩
theorem implPartsN (n : Int) (w : World) (ht : Tab w) (h0 : 0 ≤ n) (h1 : n ≤ 3652058) : Calls Tryd.prog 45 #[.int .i64 n] w fun e w' => e = .returned (.agg #[.int .i64 (yOf n), .int .i64 (mOf n), .int .i64 (dOf n)]) ∧ Below w.heap.size w w' := by
  refine (implPartsOf n w ht h0 h1).mono ?_
  rintro e w' ⟨⟨y, m, d, rfl, a, b⟩, hb⟩
  obtain ⟨e1, e2, e3⟩ := date_is a b
  exact ⟨by rw [e1, e2, e3], hb⟩
theorem fst_bd2 (y : Int) (h0 : 1 ≤ y) (h1 : y ≤ 20001) : 0 ≤ fst y ∧ fst y ≤ 8000000 := by unfold fst; omega
set_option maxHeartbeats 1000000 in
theorem implNumber2 (y m : Int) (w : World) (ht : Tab w) (h0 : 1 ≤ y) (h1 : y ≤ 20000) (h2 : 1 ≤ m) (h3 : m ≤ 12) :
    Calls Tryd.prog 101 #[.agg #[.int .i64 y, .int .i64 m, .int .i64 1]] w fun e w' => e = .returned (.int .i64 (num y m 1)) ∧ Below w.heap.size w w' := by
  have hb : ∀ n, Below w.heap.size w ((w.alloc (.cells #[.int .i64 y, .int .i64 m, .int .i64 1] 56)).drewN n) := fun n => Below.drewN' ((Below.refl _ _).alloc (Nat.le_refl _) _) n
  have HT : Hid (∀ n, Tab ((w.alloc (.cells #[.int .i64 y, .int .i64 m, .int .i64 1] 56)).drewN n)) := fun n => ht.on (hb n)
  have HB : Hid (∀ n, Below w.heap.size w ((w.alloc (.cells #[.int .i64 y, .int .i64 m, .int .i64 1] 56)).drewN n)) := hb
  clear hb ht
  have hf := fst_bd2 y h0 (by omega)
  have k1 := IntWalk.i64_in (fst y + 1) (by omega)
  have k2 := IntWalk.i64_in (fst y + 1 - 1) (by omega)
  go_enter Tryd.func101, Tryd.ntmps101
  go_wp2
  go_quiet ((go_at_call 63; exact Calls.quiet_of_same (implStart _ _ (by omega) (by omega))))
  clear k1 k2
  go_wp2
  go_loop [3, 4] (fun n k => ∃ j : Int, 1 ≤ j ∧ j ≤ m ∧ k = .int .i64 j ∧ n = .int .i64 (fst y + cum y j)) (fun _ k => (m - intOf k).toNat)
  case atStart => exact ⟨1, by omega, by omega, rfl, by rw [cum_one, Int.add_zero]⟩
  case round =>
    obtain ⟨j, hj1, hj2, rfl, rfl⟩ := hrel
    have cb := cum_bd y j hj1 (by omega)
    have db := dim_bd y j
    by_cases hlt : j < m
    · have CS : Hid (cum y (j + 1) = cum y j + dim y j) := cum_succ y j hj1 (by omega)
      go_wp2_with (go_at_call 49; refine (implSize _ _ _ (HT.out _) (by omega) (by omega) (by omega) (by omega)).mono ?_; rintro e w' ⟨rfl, rfl⟩)
      go_round
      case rel => exact ⟨j + 1, by omega, by omega, rfl, by rw [CS.out]; go_num⟩
      case measure => simp [intOf]; omega
    · have hm : j = m := by omega
      subst hm
      go_wp2
      go_ret
      exact ⟨ret_i (by unfold num; omega), HB.out _⟩
set_option maxHeartbeats 1000000 in
theorem implMonthPer (y m d n : Int) (w : World) (ht : Tab w) (h0 : 1 ≤ y) (h1 : y ≤ 9999) (h2 : 1 ≤ m) (h3 : m ≤ 12) (n0 : 0 ≤ n) (n1 : y + (m - 1 + n) / 12 ≤ 20000) :
    Calls Tryd.prog 96 #[.agg #[.int .i64 y, .int .i64 m, .int .i64 d], .int .i64 n] w fun e w' => e = .returned (.agg #[.int .i64 (num (y + (m - 1 + n) / 12) ((m - 1 + n) % 12 + 1) 1), .int .i64 (num (y + (m - 1 + n) / 12) ((m - 1 + n) % 12 + 1) 1 + dim (y + (m - 1 + n) / 12) ((m - 1 + n) % 12 + 1) - 1)]) ∧ Below w.heap.size w w' := by
  have HT : Hid (Tab w) := ht
  clear ht
  obtain ⟨Y, hY⟩ : ∃ Y, Y = y + (m - 1 + n) / 12 := ⟨_, rfl⟩
  obtain ⟨M, hM⟩ : ∃ M, M = (m - 1 + n) % 12 + 1 := ⟨_, rfl⟩
  have q1 : (m - 1 + n).tdiv 12 = (m - 1 + n) / 12 := Int.tdiv_eq_ediv_of_nonneg (by omega)
  have q2 : (m - 1 + n).tmod 12 = (m - 1 + n) % 12 := Int.tmod_eq_emod_of_nonneg (by omega)
  have fb := fst_bd2 Y (by omega) (by omega)
  have cb := cum_bd Y M (by omega) (by omega)
  have db := dim_bd Y M
  have nb : 0 ≤ num Y M 1 ∧ num Y M 1 ≤ 9000000 := by unfold num; omega
  have HY : Hid (Y = y + (m - 1 + n) / 12) := hY
  have HM : Hid (M = (m - 1 + n) % 12 + 1) := hM
  have HQ1 : Hid ((m - 1 + n).tdiv 12 = (m - 1 + n) / 12) := q1
  have HQ2 : Hid ((m - 1 + n).tmod 12 = (m - 1 + n) % 12) := q2
  clear q1 q2 cb fb
  go_enter Tryd.func96, Tryd.ntmps96
  go_wp2_with fail
  rw [← HY.out, ← HM.out]
  have hb0 : Below w.heap.size w ((w.alloc (.cells #[.int .i64 y, .int .i64 m, .int .i64 d] 56)).alloc (.cells #[.int .i64 0, .int .i64 0] 73)) := ((Below.refl _ w).alloc (Nat.le_refl _) _).alloc (by simp) _
  have hc0 : CF ((w.alloc (.cells #[.int .i64 y, .int .i64 m, .int .i64 d] 56)).alloc (.cells #[.int .i64 0, .int .i64 0] 73)) (w.heap.size + 1) #[.int .i64 0, .int .i64 0] := by
    have := CF.new (w.alloc (.cells #[.int .i64 y, .int .i64 m, .int .i64 d] 56)) #[.int .i64 0, .int .i64 0] 73
    rwa [World.size_alloc] at this
  refine (implNumber2 _ _ _ (HT.out.on hb0) (by omega) (by omega) (by omega) (by omega)).mono ?_
  rintro e w1 ⟨rfl, b1⟩
  have hb1 := hb0.trans (b1.mono hb0.size)
  have hc1 := hc0.below b1
  clear hb0 hc0 b1
  have HT1 : Hid (Tab w1) := HT.out.on hb1
  have e0 := hc1.2 0 _ rfl
  have e1 := hc1.2 1 _ rfl
  obtain ⟨e00, e01⟩ := e0
  obtain ⟨e10, e11⟩ := e1
  have HB : Hid (Below w.heap.size w w1) := hb1
  clear hc1 hb1
  have hY' : 1 ≤ Y := by omega
  have hY2 : Y ≤ 20000 := by omega
  have hM1 : 1 ≤ M := by omega
  have hM2 : M ≤ 12 := by omega
  clear hY hM
  go_wp2_with (go_at_call 49; refine (implSize _ _ _ HT1.out (by omega) (by omega) (by omega) (by omega)).mono ?_; rintro e w' ⟨rfl, rfl⟩)
  refine bodyPost_ret (v := .agg #[.int .i64 (num Y M 1), .int .i64 (num Y M 1 + dim Y M - 1)]) (by simp [results, Tryd.results96, go_sem, *]) rfl ⟨by rw [HY.out, HM.out], ?_⟩
  exact (HB.out.setCell (p := ⟨w.heap.size + 1, 0, none⟩) (by simp) _).setCell (p := ⟨w.heap.size + 1, 1, none⟩) (by simp) _
theorem four {f : Int} (h0 : 1 ≤ f) (h1 : f ≤ 4) : f = 1 ∨ f = 2 ∨ f = 3 ∨ f = 4 := by omega
set_option maxHeartbeats 4000000 in
theorem implPeriodF (f : Int) (r : Rl) (hf : r.f = f) (m : Rm) (s n : Int) (w : World) (ht : Tab w) (hr : ROk r) (h0 : 0 ≤ s) (h1 : s ≤ 3652058) (n0 : 0 ≤ n) (n1 : n ≤ 400000000) (hm : f = 3 → yOf s + (mOf s - 1 + n) / 12 ≤ 20000) (hy : f = 4 → yOf s + n + 1 ≤ 20000) :
    Calls Tryd.prog 75 #[.agg #[.int .i64 f, .int .i64 r.ev, .int .i64 r.ct, .int .i64 r.un, .slice m.a0 r.ds.length m.c0, .slice m.a1 r.da.length m.c1, .slice m.a2 r.mo.length m.c2, .slice m.a3 r.pl.length m.c3, .int .i64 r.wk], .int .i64 s, .int .i64 n] w fun e w' => e = .returned (.agg #[.int .i64 (spanF r s n), .int .i64 (spanL r s n)]) ∧ Below w.heap.size w w' := by
  obtain ⟨W0, hW0⟩ : ∃ W0, W0 = ((w.alloc (.cells #[.int .i64 f, .int .i64 r.ev, .int .i64 r.ct, .int .i64 r.un, .slice m.a0 r.ds.length m.c0, .slice m.a1 r.da.length m.c1, .slice m.a2 r.mo.length m.c2, .slice m.a3 r.pl.length m.c3, .int .i64 r.wk] 26)).alloc (.cells #[.int .i64 0, .int .i64 0] 73)) := ⟨_, rfl⟩
  have hb0 : Below w.heap.size w W0 := by rw [hW0]; exact ((Below.refl _ w).alloc (Nat.le_refl _) _).alloc (by simp) _
  have hc0 : CF W0 (w.heap.size + 1) #[.int .i64 0, .int .i64 0] := by
    rw [hW0]
    have := CF.new (w.alloc (.cells #[.int .i64 f, .int .i64 r.ev, .int .i64 r.ct, .int .i64 r.un, .slice m.a0 r.ds.length m.c0, .slice m.a1 r.da.length m.c1, .slice m.a2 r.mo.length m.c2, .slice m.a3 r.pl.length m.c3, .int .i64 r.wk] 26)) #[.int .i64 0, .int .i64 0] 73
    rwa [World.size_alloc] at this
  have hd := date_ex h0 h1
  obtain ⟨a0, a1, a2, a3, a4, a5⟩ := (okD_iff _ _ _).1 hd.1
  have HT : Hid (Tab W0) := ht.on hb0
  have HC : Hid (CF W0 (w.heap.size + 1) #[.int .i64 0, .int .i64 0]) := hc0
  have HB : Hid (Below w.heap.size w W0) := hb0
  have HW : Hid (W0 = ((w.alloc (.cells #[.int .i64 f, .int .i64 r.ev, .int .i64 r.ct, .int .i64 r.un, .slice m.a0 r.ds.length m.c0, .slice m.a1 r.da.length m.c1, .slice m.a2 r.mo.length m.c2, .slice m.a3 r.pl.length m.c3, .int .i64 r.wk] 26)).alloc (.cells #[.int .i64 0, .int .i64 0] 73))) := hW0
  clear ht hc0 hb0 hW0 hd a4 a5
  have f0 := hr.f0; have f1 := hr.f1; have w0 := hr.w0; have w1 := hr.w1
  clear hr
  have fin : ∀ (x y : Int) (w1 : World), Below W0.heap.size W0 w1 → Below w.heap.size w ((w1.setCell ⟨w.heap.size + 1, 0, none⟩ (.int .i64 x)).setCell ⟨w.heap.size + 1, 1, none⟩ (.int .i64 y)) := fun x y w1 h => by
    exact ((HB.out.trans (h.mono HB.out.size)).setCell (p := ⟨w.heap.size + 1, 0, none⟩) (by simp) _).setCell (p := ⟨w.heap.size + 1, 1, none⟩) (by simp) _
  have FIN : Hid (∀ (x y : Int) (w1 : World), Below W0.heap.size W0 w1 → Below w.heap.size w ((w1.setCell ⟨w.heap.size + 1, 0, none⟩ (.int .i64 x)).setCell ⟨w.heap.size + 1, 1, none⟩ (.int .i64 y))) := fin
  clear fin
  have HF : Hid (r.f = f) := hf
  rw [hf] at f0 f1
  clear hf
  rcases four f0 f1 with rfl | rfl | rfl | rfl
  · have HS : Hid (spanF r s n = s + n ∧ spanL r s n = s + n) := by unfold Hid spanF spanL; rw [HF.out]; exact ⟨rfl, rfl⟩
    clear hm hy
    go_enter Tryd.func75, Tryd.ntmps75
    go_wp2
    refine bodyPost_ret (v := .agg #[.int .i64 (s + n), .int .i64 (s + n)]) (by simp [results, Tryd.results75, go_sem, *]) rfl ⟨by rw [HS.out.1, HS.out.2], ?_⟩
    exact ((Below.refl _ w).alloc (Nat.le_refl _) _).alloc (by simp) _
  · have HS : Hid (spanF r s n = s - (s % 7 - r.wk + 7) % 7 + n * 7 ∧ spanL r s n = s - (s % 7 - r.wk + 7) % 7 + n * 7 + 7 - 1) := by
      unfold Hid spanF spanL; rw [HF.out]
      rw [if_neg (show ¬ (2 : Int) = 1 by decide), if_pos rfl, if_neg (show ¬ (2 : Int) = 1 by decide), if_pos rfl]; constructor <;> omega
    have k1 := IntWalk.i64_in (s % 7 - r.wk) (by omega)
    have k2 := IntWalk.i64_in (s % 7 - r.wk + 7) (by omega)
    clear hm hy
    go_enter Tryd.func75, Tryd.ntmps75
    go_wp2
    go_quiet ((go_at_call 47; exact Calls.quiet_of_same (implWd _ _ (by omega) (by omega))))
    clear k1 k2
    obtain ⟨W2, hW2⟩ : ∃ W2, W2 = W0.drewN nq := ⟨_, rfl⟩
    rw [← HW.out, ← hW2]
    have hb2 : Below W0.heap.size W0 W2 := by rw [hW2]; exact Below.drewN' (Below.refl _ _) nq
    have hc2 := HC.out.below hb2
    obtain ⟨e00, e01⟩ := hc2.2 0 _ rfl
    obtain ⟨e10, e11⟩ := hc2.2 1 _ rfl
    have HB2 : Hid (Below W0.heap.size W0 W2) := hb2
    clear hc2 hb2 hW2
    obtain ⟨q, hq⟩ : ∃ q, q = (s % 7 - r.wk + 7) % 7 := ⟨_, rfl⟩
    have hq1 : 0 ≤ q ∧ q < 7 := by omega
    have HQ : Hid (q = (s % 7 - r.wk + 7) % 7) := hq
    rw [← hq]
    clear hq
    go_wp2
    refine bodyPost_ret (v := .agg #[.int .i64 (s - q + n * 7), .int .i64 (s - q + n * 7 + 7 - 1)]) (by simp [results, Tryd.results75, go_sem, *]) rfl ⟨by rw [HS.out.1, HS.out.2, HQ.out], ?_⟩
    exact FIN.out _ _ W2 HB2.out
  · have HS : Hid (spanF r s n = num (yOf s + (mOf s - 1 + n) / 12) ((mOf s - 1 + n) % 12 + 1) 1 ∧ spanL r s n = num (yOf s + (mOf s - 1 + n) / 12) ((mOf s - 1 + n) % 12 + 1) 1 + dim (yOf s + (mOf s - 1 + n) / 12) ((mOf s - 1 + n) % 12 + 1) - 1) := by
      unfold Hid spanF spanL; rw [HF.out]; exact ⟨rfl, rfl⟩
    have hm' := hm rfl
    clear hm hy
    go_enter Tryd.func75, Tryd.ntmps75
    go_wp2_with fail
    rw [← HW.out]
    refine (implPartsN _ _ HT.out h0 h1).mono ?_
    rintro e w1 ⟨rfl, b1⟩
    have HT1 : Hid (Tab w1) := HT.out.on b1
    have HB1 : Hid (Below W0.heap.size W0 w1) := b1
    clear b1
    go_wp2_with fail
    refine (implMonthPer _ _ _ _ _ HT1.out a0 a1 a2 a3 n0 hm').mono ?_
    rintro e w2 ⟨rfl, b2⟩
    have hb2 : Below W0.heap.size W0 w2 := HB1.out.trans (b2.mono HB1.out.size)
    have hc2 := HC.out.below hb2
    obtain ⟨e00, e01⟩ := hc2.2 0 _ rfl
    obtain ⟨e10, e11⟩ := hc2.2 1 _ rfl
    have HB2 : Hid (Below W0.heap.size W0 w2) := hb2
    clear hc2 hb2 b2
    rw [← HS.out.2, ← HS.out.1]
    go_wp2
    refine bodyPost_ret (v := .agg #[.int .i64 (spanF r s n), .int .i64 (spanL r s n)]) (by simp [results, Tryd.results75, go_sem, *]) rfl ⟨rfl, ?_⟩
    exact FIN.out _ _ w2 HB2.out
  · have HS : Hid (spanF r s n = fst (yOf s + n) ∧ spanL r s n = fst (yOf s + n + 1) - 1) := by
      unfold Hid spanF spanL; rw [HF.out]; exact ⟨rfl, rfl⟩
    have hy' := hy rfl
    have fb := fst_bd2 (yOf s + n) (by omega) (by omega)
    have fb' := fst_bd2 (yOf s + n + 1) (by omega) (by omega)
    clear hm hy
    obtain ⟨e00, e01⟩ := HC.out.2 0 _ rfl
    obtain ⟨e10, e11⟩ := HC.out.2 1 _ rfl
    go_enter Tryd.func75, Tryd.ntmps75
    go_wp2_with fail
    rw [← HW.out]
    refine (implYearN _ _ h0 h1).mono ?_
    rintro e w1 ⟨rfl, rfl⟩
    go_wp2_with (go_at_call 63; refine (implStart _ _ (by omega) (by omega)).mono ?_; rintro e w' ⟨rfl, rfl⟩)
    refine bodyPost_ret (v := .agg #[.int .i64 (fst (yOf s + n)), .int .i64 (fst (yOf s + n + 1) - 1)]) (by simp [results, Tryd.results75, go_sem, *]) rfl ⟨by rw [HS.out.1, HS.out.2], ?_⟩
    exact FIN.out _ _ _ (Below.refl _ _)
theorem implPeriodAt (r : Rl) (m : Rm) (s n : Int) (w : World) (ht : Tab w) (hr : ROk r) (h0 : 0 ≤ s) (h1 : s ≤ 3652058) (n0 : 0 ≤ n) (n1 : n ≤ 400000000) (hm : r.f = 3 → yOf s + (mOf s - 1 + n) / 12 ≤ 20000) (hy : r.f = 4 → yOf s + n + 1 ≤ 20000) :
    Calls Tryd.prog 75 #[.agg #[.int .i64 r.f, .int .i64 r.ev, .int .i64 r.ct, .int .i64 r.un, .slice m.a0 r.ds.length m.c0, .slice m.a1 r.da.length m.c1, .slice m.a2 r.mo.length m.c2, .slice m.a3 r.pl.length m.c3, .int .i64 r.wk], .int .i64 s, .int .i64 n] w fun e w' => e = .returned (.agg #[.int .i64 (spanF r s n), .int .i64 (spanL r s n)]) ∧ Below w.heap.size w w' :=
  implPeriodF r.f r rfl m s n w ht hr h0 h1 n0 n1 hm hy
end Go.Proofs.YtlfglhpepoepcaaDoor
