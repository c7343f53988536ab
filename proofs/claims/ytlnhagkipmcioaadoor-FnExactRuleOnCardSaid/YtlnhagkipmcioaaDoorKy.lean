/- The specification's periods. -/
import Derived.Test.YtlnhagkipmcioaaDoorKw
import Derived.Test.YtlnhagkipmcioaaDoorKd
namespace Go.Proofs.YtlnhagkipmcioaaDoor
open Go.RowKit Go.Shelf
set_option linter.unusedVariables false

set_option maxHeartbeats 1000000 in
theorem specMonth (y m n : Int) (w : World) (h0 : 1 ≤ y) (h1 : y ≤ 9999) (h2 : 1 ≤ m) (h3 : m ≤ 12) (n0 : 0 ≤ n) (n1 : n ≤ 400000000) :
    Calls Tryd.prog 33 #[.int .i64 y, .int .i64 m, .int .i64 n] w fun e w' => e = .returned (.tuple #[.int .i64 (y + (m - 1 + n) / 12), .int .i64 ((m - 1 + n) % 12 + 1)]) ∧ w' = w := by
  have e1 : (y * 12 + m - 1 + n) / 12 = y + (m - 1 + n) / 12 := by omega
  have e2 : (y * 12 + m - 1 + n) % 12 = (m - 1 + n) % 12 := by omega
  have E1 : Hid ((y * 12 + m - 1 + n) / 12 = y + (m - 1 + n) / 12) := e1
  have E2 : Hid ((y * 12 + m - 1 + n) % 12 = (m - 1 + n) % 12) := e2
  clear e1 e2
  go_enter Tryd.func33, Tryd.ntmps33
  go_wp2
  refine bodyPost_ret (v := .tuple #[.int .i64 ((y * 12 + m - 1 + n) / 12), .int .i64 ((y * 12 + m - 1 + n) % 12 + 1)]) (by simp [results, Tryd.results33, go_sem]) rfl ⟨by rw [E1.out, E2.out], rfl⟩
set_option maxRecDepth 100000 in
set_option maxHeartbeats 4000000 in
/-- Its two ends, and whether it is there. -/
theorem specSpanF (f : Int) (nm : Nat) (r : Rl) (hf : r.f = f) (hnm : r.mo.length = nm) (m : Rm) (s n : Int) (w : World) (hr : ROk r) (h0 : 0 ≤ s) (h1 : s ≤ 3652058) (n0 : 0 ≤ n) (n1 : n ≤ 400000000) :
    Calls Tryd.prog 22 #[.agg #[.int .i64 f, .int .i64 r.ev, .int .i64 r.ct, .int .i64 r.un, .slice m.a0 r.ds.length m.c0, .slice m.a1 r.da.length m.c1, .slice m.a2 nm m.c2, .slice m.a3 r.pl.length m.c3, .int .i64 r.wk], .int .i64 s, .int .i64 n] w fun e w' => (∃ x y : Int, e = .returned (.tuple #[.int .i64 x, .int .i64 y, .bool (decide (spanF r s n ≤ 3652058))]) ∧ (spanF r s n ≤ 3652058 → x = spanF r s n ∧ y = spanL r s n)) ∧ Below w.heap.size w w' := by
  obtain ⟨W0, hW0⟩ : ∃ W0, W0 = w.alloc (.cells #[.int .i64 f, .int .i64 r.ev, .int .i64 r.ct, .int .i64 r.un, .slice m.a0 r.ds.length m.c0, .slice m.a1 r.da.length m.c1, .slice m.a2 nm m.c2, .slice m.a3 r.pl.length m.c3, .int .i64 r.wk] 30) := ⟨_, rfl⟩
  have hb0 : Below w.heap.size w W0 := by rw [hW0]; exact (Below.refl _ w).alloc (Nat.le_refl _) _
  have HC0 : Hid (CF W0 w.heap.size #[.int .i64 f, .int .i64 r.ev, .int .i64 r.ct, .int .i64 r.un, .slice m.a0 r.ds.length m.c0, .slice m.a1 r.da.length m.c1, .slice m.a2 nm m.c2, .slice m.a3 r.pl.length m.c3, .int .i64 r.wk]) := by unfold Hid; rw [hW0]; exact CF.new _ _ _
  have HW0 : Hid (W0 = w.alloc (.cells #[.int .i64 f, .int .i64 r.ev, .int .i64 r.ct, .int .i64 r.un, .slice m.a0 r.ds.length m.c0, .slice m.a1 r.da.length m.c1, .slice m.a2 nm m.c2, .slice m.a3 r.pl.length m.c3, .int .i64 r.wk] 30)) := hW0
  have HB0 : Hid (Below w.heap.size w W0) := hb0
  obtain ⟨a0, a1, a2, a3, a4, a5, a6, a7, _⟩ := date_bd h0 h1
  have f0 := hr.f0; have f1 := hr.f1; have w0 := hr.w0; have w1 := hr.w1
  have HF : Hid (r.f = f) := hf
  rw [hf] at f0 f1
  clear hW0 hb0 hf hr hnm
  go_enter Tryd.func22, Tryd.ntmps22
  go_wp2_with fail
  rw [← HW0.out]
  refine (specDateN s W0 h0 h1).mono ?_
  rintro e w1 ⟨rfl, b1⟩
  obtain ⟨W2, hW2⟩ : ∃ W2, W2 = w1.alloc (.cells #[.int .i64 (yOf s), .int .i64 (mOf s), .int .i64 (dOf s)] 59) := ⟨_, rfl⟩
  have hb2 : Below W0.heap.size W0 W2 := by rw [hW2]; exact b1.alloc b1.size _
  have HB2 : Hid (Below w.heap.size w W2) := bstep HB0.out hb2
  have HW2 : Hid (W2 = w1.alloc (.cells #[.int .i64 (yOf s), .int .i64 (mOf s), .int .i64 (dOf s)] 59)) := hW2
  have hc1 := HC0.out.below b1
  obtain ⟨q0, _⟩ := hc1.2 0 _ rfl
  obtain ⟨q8, _⟩ := hc1.2 8 _ rfl
  have hrl := cell_lt q0
  have ret : ∀ (x y : Int) (b : Bool) (W3 : World), Below w.heap.size w W3 → b = decide (spanF r s n ≤ 3652058) → (spanF r s n ≤ 3652058 → x = spanF r s n ∧ y = spanL r s n) →
      (∃ x' y' : Int, Ending.returned (.tuple #[.int .i64 x, .int .i64 y, .bool b]) = .returned (.tuple #[.int .i64 x', .int .i64 y', .bool (decide (spanF r s n ≤ 3652058))]) ∧ (spanF r s n ≤ 3652058 → x' = spanF r s n ∧ y' = spanL r s n)) ∧ Below w.heap.size w W3 := fun x y b W3 hb hbb hxy => ⟨⟨x, y, by rw [hbb], hxy⟩, hb⟩
  have RET : Hid (∀ (x y : Int) (b : Bool) (W3 : World), Below w.heap.size w W3 → b = decide (spanF r s n ≤ 3652058) → (spanF r s n ≤ 3652058 → x = spanF r s n ∧ y = spanL r s n) →
      (∃ x' y' : Int, Ending.returned (.tuple #[.int .i64 x, .int .i64 y, .bool b]) = .returned (.tuple #[.int .i64 x', .int .i64 y', .bool (decide (spanF r s n ≤ 3652058))]) ∧ (spanF r s n ≤ 3652058 → x' = spanF r s n ∧ y' = spanL r s n)) ∧ Below w.heap.size w W3) := ret
  clear ret hb2 hW2 b1 hc1
  rcases four f0 f1 with rfl | rfl | rfl | rfl
  · have HS : Hid (spanF r s n = s + n ∧ spanL r s n = s + n) := by unfold Hid spanF spanL; rw [HF.out]; exact ⟨rfl, rfl⟩
    go_wp2
    rw [← HW2.out]
    exact bodyPost_ret (v := .tuple #[.int .i64 (s + n), .int .i64 (s + n), .bool (decide (s + n ≤ 3652058))]) (by simp [results, Tryd.results22, go_sem]) rfl (RET.out _ _ _ _ HB2.out (by rw [HS.out.1]) (fun _ => ⟨HS.out.1.symm, HS.out.2.symm⟩))
  · have HS : Hid (spanF r s n = s - (s % 7 - r.wk + 7) % 7 + 7 * n ∧ spanL r s n = s - (s % 7 - r.wk + 7) % 7 + 7 * n + 6) := by
      unfold Hid spanF spanL; rw [HF.out]; exact ⟨rfl, rfl⟩
    have k1 := IntWalk.i64_in (s % 7 - r.wk) (by omega)
    have k2 := IntWalk.i64_in (s % 7 - r.wk + 7) (by omega)
    go_wp2
    rw [← HW2.out]
    exact bodyPost_ret (v := .tuple #[.int .i64 (s - (s % 7 - r.wk + 7) % 7 + 7 * n), .int .i64 (s - (s % 7 - r.wk + 7) % 7 + 7 * n + 6), .bool (decide (s - (s % 7 - r.wk + 7) % 7 + 7 * n ≤ 3652058))]) (by simp [results, Tryd.results22, go_sem]) rfl (RET.out _ _ _ _ HB2.out (by rw [HS.out.1]) (fun _ => ⟨HS.out.1.symm, HS.out.2.symm⟩))
  · obtain ⟨Y, hY⟩ : ∃ Y, Y = yOf s + (mOf s - 1 + n) / 12 := ⟨_, rfl⟩
    obtain ⟨M, hM⟩ : ∃ M, M = (mOf s - 1 + n) % 12 + 1 := ⟨_, rfl⟩
    have HS : Hid (spanF r s n = num Y M 1 ∧ spanL r s n = num Y M 1 + dim Y M - 1) := by
      unfold Hid spanF spanL; rw [HF.out, hY, hM]; exact ⟨rfl, rfl⟩
    have hY1 : 1 ≤ Y := by omega
    have hM1 : 1 ≤ M := by omega
    have hM2 : M ≤ 12 := by omega
    have hY2 : Y ≤ 40000000 := by omega
    have cb := cum_bd Y M hM1 (by omega)
    have db := dim_bd Y M
    have HY : Hid (yOf s + (mOf s - 1 + n) / 12 = Y) := hY.symm
    have HM : Hid ((mOf s - 1 + n) % 12 + 1 = M) := hM.symm
    clear hY hM
    go_wp2_with fail
    rw [← HW2.out]
    refine (specMonth _ _ _ _ a0 a1 a2 a3 n0 n1).mono ?_
    rintro e w' ⟨rfl, rfl⟩
    rw [HY.out, HM.out]
    by_cases hy : Y ≤ 9999
    · have hn : 0 ≤ num Y M 1 ∧ num Y M 1 ≤ 3652058 := num_bd ((okD_iff _ _ _).2 ⟨hY1, hy, hM1, hM2, by omega, by omega⟩)
      go_wp2_with fail
      refine (specDay Y M 1 _ hY1 hy hM1 hM2 (by omega) (by omega)).mono ?_
      rintro e w3 ⟨rfl, rfl⟩
      have HB3 : Hid (Below w.heap.size w (w'.alloc (.cells #[.int .i64 Y, .int .i64 M, .int .i64 1] 59))) := HB2.out.alloc HB2.out.size _
      go_wp2_with (go_at_call 35; refine (specDays _ _ _ (by omega) (by omega) (by omega) (by omega)).mono ?_; rintro e w' ⟨rfl, rfl⟩)
      exact bodyPost_ret (v := .tuple #[.int .i64 (num Y M 1), .int .i64 (num Y M 1 + dim Y M - 1), .bool (decide (num Y M 1 ≤ 3652058))]) (by simp [results, Tryd.results22, go_sem]; exact hn.2) rfl (RET.out _ _ _ _ HB3.out (by rw [HS.out.1]) (fun _ => ⟨HS.out.1.symm, HS.out.2.symm⟩))
    · have hbig : 3652058 < num Y M 1 := by
        have := fst_mono 10000 Y (by omega) (by omega); have := fst_max; unfold num; omega
      go_wp2
      exact bodyPost_ret (v := .tuple #[.int .i64 0, .int .i64 0, .bool false]) (by simp [results, Tryd.results22, go_sem]) rfl (RET.out _ _ _ _ HB2.out (by rw [HS.out.1]; exact (decide_eq_false (by omega)).symm) (fun h => by rw [HS.out.1] at h; omega))
  · have HS : Hid (spanF r s n = fst (yOf s + n) ∧ spanL r s n = fst (yOf s + n + 1) - 1) := by unfold Hid spanF spanL; rw [HF.out]; exact ⟨rfl, rfl⟩
    by_cases hy : yOf s + n ≤ 9999
    · have fb := fst_bd2 (yOf s + n) (by omega) (by omega)
      have fb' := fst_bd2 (yOf s + n + 1) (by omega) (by omega)
      go_wp2_with (go_at_call 36; refine (specFirst _ _ (by omega) (by omega)).mono ?_; rintro e w' ⟨rfl, rfl⟩)
      rw [← HW2.out]
      exact bodyPost_ret (v := .tuple #[.int .i64 (fst (yOf s + n)), .int .i64 (fst (yOf s + n + 1) - 1), .bool (decide (fst (yOf s + n) ≤ 3652058))]) (by simp [results, Tryd.results22, go_sem]) rfl (RET.out _ _ _ _ HB2.out (by rw [HS.out.1]) (fun _ => ⟨HS.out.1.symm, HS.out.2.symm⟩))
    · have hbig : 3652058 < fst (yOf s + n) := by have := fst_mono 10000 (yOf s + n) (by omega) (by omega); have := fst_max; omega
      go_wp2
      rw [← HW2.out]
      exact bodyPost_ret (v := .tuple #[.int .i64 0, .int .i64 0, .bool false]) (by simp [results, Tryd.results22, go_sem]) rfl (RET.out _ _ _ _ HB2.out (by rw [HS.out.1]; exact (decide_eq_false (by omega)).symm) (fun h => by rw [HS.out.1] at h; omega))
theorem specSpan (r : Rl) (m : Rm) (s n : Int) (w : World) (hr : ROk r) (h0 : 0 ≤ s) (h1 : s ≤ 3652058) (n0 : 0 ≤ n) (n1 : n ≤ 400000000) :
    Calls Tryd.prog 22 #[.agg #[.int .i64 r.f, .int .i64 r.ev, .int .i64 r.ct, .int .i64 r.un, .slice m.a0 r.ds.length m.c0, .slice m.a1 r.da.length m.c1, .slice m.a2 r.mo.length m.c2, .slice m.a3 r.pl.length m.c3, .int .i64 r.wk], .int .i64 s, .int .i64 n] w fun e w' => (∃ x y : Int, e = .returned (.tuple #[.int .i64 x, .int .i64 y, .bool (decide (spanF r s n ≤ 3652058))]) ∧ (spanF r s n ≤ 3652058 → x = spanF r s n ∧ y = spanL r s n)) ∧ Below w.heap.size w w' :=
  specSpanF r.f r.mo.length r rfl rfl m s n w hr h0 h1 n0 n1
end Go.Proofs.YtlnhagkipmcioaaDoor
