/- The specification's choice of a day: l3Fits. -/
import Derived.Test.YtlnhagkipmcioaaDoorKx
namespace Go.Proofs.YtlnhagkipmcioaaDoor
open Go.RowKit Go.Shelf
set_option linter.unusedVariables false

theorem fit_no1 {r : Rl} {s n : Int} (h : 0 < r.mo.length) (hb : hasI r.mo (mOf n) = false) : fitB r s n = false := by
  unfold fitB; rw [decide_eq_false (show ¬ r.mo.length = 0 by omega), hb]; rfl
theorem fit_no2 {r : Rl} {s n : Int} (h : 0 < r.da.length) (hb : dtB r n = false) : fitB r s n = false := by
  unfold fitB; rw [decide_eq_false (show ¬ r.da.length = 0 by omega), hb]; simp
theorem fit_no3 {r : Rl} {s n : Int} (h : 0 < r.ds.length) (hb : dfB r n = false) : fitB r s n = false := by
  unfold fitB; rw [decide_eq_false (show ¬ r.ds.length = 0 by omega), hb]; simp
theorem fit_yes {r : Rl} {s n : Int} (h1 : r.mo.length = 0 ∨ hasI r.mo (mOf n) = true) (h2 : r.da.length = 0 ∨ dtB r n = true) (h3 : r.ds.length = 0 ∨ dfB r n = true) :
    fitB r s n = (decide (0 < r.ds.length ∨ 0 < r.da.length) || ownB r s n) := by
  have e1 : (decide (r.mo.length = 0) || hasI r.mo (mOf n)) = true := by rcases h1 with h | h <;> simp [h]
  have e2 : (decide (r.da.length = 0) || dtB r n) = true := by rcases h2 with h | h <;> simp [h]
  have e3 : (decide (r.ds.length = 0) || dfB r n) = true := by rcases h3 with h | h <;> simp [h]
  unfold fitB; rw [e1, e2, e3]; simp
set_option maxRecDepth 100000 in
set_option maxHeartbeats 16000000 in
theorem specFitsF (f : Int) (r : Rl) (hf : r.f = f) (f0 : 1 ≤ f) (f1 : f ≤ 4) (m : Rm) (s n : Int) (w : World) (hm : RMem w r m) (hl0 : r.ds.length ≤ 8) (hl1 : r.da.length ≤ 8) (hl2 : r.mo.length ≤ 8) (hx : ∀ j, j < r.ds.length → -1000 ≤ tAt r.ds j ∧ tAt r.ds j ≤ 1000)
    (s0 : 0 ≤ s) (s1 : s ≤ 3652058) (h0 : 0 ≤ n) (h1 : n ≤ 3652058) :
    Calls Tryd.prog 37 #[.agg #[.int .i64 f, .int .i64 r.ev, .int .i64 r.ct, .int .i64 r.un, .slice m.a0 r.ds.length m.c0, .slice m.a1 r.da.length m.c1, .slice m.a2 r.mo.length m.c2, .slice m.a3 r.pl.length m.c3, .int .i64 r.wk], .int .i64 s, .int .i64 n] w fun e w' => e = .returned (.bool (fitB r s n)) ∧ Below w.heap.size w w' := by
  obtain ⟨W0, hW0⟩ : ∃ W0, W0 = w.alloc (.cells #[.int .i64 r.f, .int .i64 r.ev, .int .i64 r.ct, .int .i64 r.un, .slice m.a0 r.ds.length m.c0, .slice m.a1 r.da.length m.c1, .slice m.a2 r.mo.length m.c2, .slice m.a3 r.pl.length m.c3, .int .i64 r.wk] 30) := ⟨_, rfl⟩
  have hb0 : Below w.heap.size w W0 := by rw [hW0]; exact (Below.refl _ w).alloc (Nat.le_refl _) _
  have HC0 : Hid (CB W0 w.heap.size r m) := by unfold Hid; rw [hW0]; exact CB.new w r m _
  have HW0 : Hid (W0 = w.alloc (.cells #[.int .i64 r.f, .int .i64 r.ev, .int .i64 r.ct, .int .i64 r.un, .slice m.a0 r.ds.length m.c0, .slice m.a1 r.da.length m.c1, .slice m.a2 r.mo.length m.c2, .slice m.a3 r.pl.length m.c3, .int .i64 r.wk] 30)) := hW0
  have HB0 : Hid (Below w.heap.size w W0) := hb0
  have HM0 : Hid (RMem W0 r m) := hm.below hb0
  have HX : Hid (∀ j, j < r.ds.length → -1000 ≤ tAt r.ds j ∧ tAt r.ds j ≤ 1000) := hx
  have HF : Hid (r.f = f) := hf
  clear hW0 hb0 hm hx
  rw [← hf]
  clear hf
  go_enter Tryd.func37, Tryd.ntmps37
  go_wp2_with fail
  rw [← HW0.out]
  refine (specDateN n W0 h0 h1).mono ?_
  rintro e w1 ⟨rfl, b1⟩
  go_wp2_with fail
  obtain ⟨W2, hW2⟩ : ∃ W2, W2 = w1.alloc (.cells #[.int .i64 (yOf n), .int .i64 (mOf n), .int .i64 (dOf n)] 59) := ⟨_, rfl⟩
  have hb2 : Below W0.heap.size W0 W2 := by rw [hW2]; exact b1.alloc b1.size _
  have hc2 : CF W2 w1.heap.size #[.int .i64 (yOf n), .int .i64 (mOf n), .int .i64 (dOf n)] := by rw [hW2]; exact CF.new _ _ _
  rw [← hW2]
  refine (specDateN s W2 s0 s1).mono ?_
  rintro e w3 ⟨rfl, b3⟩
  obtain ⟨W4, hW4⟩ : ∃ W4, W4 = w3.alloc (.cells #[.int .i64 (yOf s), .int .i64 (mOf s), .int .i64 (dOf s)] 59) := ⟨_, rfl⟩
  have hb4 : Below W2.heap.size W2 W4 := by rw [hW4]; exact b3.alloc b3.size _
  have hc4 : CF W4 w3.heap.size #[.int .i64 (yOf s), .int .i64 (mOf s), .int .i64 (dOf s)] := by rw [hW4]; exact CF.new _ _ _
  have hb04 := bstep hb2 hb4
  have HB4 : Hid (Below w.heap.size w W4) := bstep HB0.out hb04
  have HM4 : Hid (RMem W4 r m) := HM0.out.below hb04
  have hcn := hc2.below hb4
  have HCN : Hid (CF W4 w1.heap.size #[.int .i64 (yOf n), .int .i64 (mOf n), .int .i64 (dOf n)]) := hcn
  have HCS : Hid (CF W4 w3.heap.size #[.int .i64 (yOf s), .int .i64 (mOf s), .int .i64 (dOf s)]) := hc4
  have HCB : Hid (CB W4 w.heap.size r m) := HC0.out.on (hb04.block _ HC0.out.lt)
  -- up to the big condition: the date's box is laid
  have HW4 : Hid (W4 = w3.alloc (.cells #[.int .i64 (yOf s), .int .i64 (mOf s), .int .i64 (dOf s)] 59)) := hW4
  have hcb3 : CB w3 w.heap.size r m := HC0.out.on ((bstep hb2 b3).block _ HC0.out.lt)
  have hcn3 := hc2.below b3
  obtain ⟨y0, y1, y2, y3, y4, y5, y6, y7, y8⟩ := hcb3
  obtain ⟨d0, _⟩ := hcn3.2 0 _ rfl
  obtain ⟨d1, _⟩ := hcn3.2 1 _ rfl
  obtain ⟨d2, _⟩ := hcn3.2 2 _ rfl
  have yl := cell_lt y0
  have dl := cell_lt d0
  clear hb2 hb4 hc2 hc4 hcn hb04 hW2 hW4 b1 b3 hcn3
  by_cases hmo : 0 < r.mo.length
  · cases hb1 : hasI r.mo (mOf n) with
    | true =>
      go_wp2_with fail
      rw [← HW4.out]
      refine ((specHas _ _ _ _ W4 HM4.out.o (by omega) _ hb1).mono (fun e w' h => (⟨h.1, by rw [h.2]; exact Below.refl _ _⟩ : e = .returned (.bool true) ∧ Below W4.heap.size W4 w'))).mono ?_
      rintro e w5 ⟨rfl, bb5⟩
      have HBX : Hid (Below W4.heap.size W4 w5) := bb5
      clear bb5
      clear y0 y1 y2 y3 y4 y5 y6 y7 y8 d0 d1 d2
      obtain ⟨y0, y1, y2, y3, y4, y5, y6, y7, y8⟩ := HCB.out.on (HBX.out.block _ HCB.out.lt)
      obtain ⟨d0, _⟩ := (HCN.out.below HBX.out).2 0 _ rfl
      obtain ⟨d1, _⟩ := (HCN.out.below HBX.out).2 1 _ rfl
      obtain ⟨d2, _⟩ := (HCN.out.below HBX.out).2 2 _ rfl
      obtain ⟨e0, _⟩ := (HCS.out.below HBX.out).2 0 _ rfl
      obtain ⟨e1, _⟩ := (HCS.out.below HBX.out).2 1 _ rfl
      obtain ⟨e2, _⟩ := (HCS.out.below HBX.out).2 2 _ rfl
      by_cases hda : 0 < r.da.length
      · cases hb2 : dtB r n with
        | true =>
          go_wp2_with fail
          refine (specDateFits r m n w5 ((HM4.out.below HBX.out).d) hl1 h0 h1).mono ?_
          rintro e w6 ⟨rfl, bb6⟩
          rw [hb2]
          replace HBX : Hid (Below W4.heap.size W4 w6) := bstep HBX.out bb6
          clear bb6
          clear y0 y1 y2 y3 y4 y5 y6 y7 y8 d0 d1 d2 e0 e1 e2
          obtain ⟨y0, y1, y2, y3, y4, y5, y6, y7, y8⟩ := HCB.out.on (HBX.out.block _ HCB.out.lt)
          obtain ⟨d0, _⟩ := (HCN.out.below HBX.out).2 0 _ rfl
          obtain ⟨d1, _⟩ := (HCN.out.below HBX.out).2 1 _ rfl
          obtain ⟨d2, _⟩ := (HCN.out.below HBX.out).2 2 _ rfl
          obtain ⟨e0, _⟩ := (HCS.out.below HBX.out).2 0 _ rfl
          obtain ⟨e1, _⟩ := (HCS.out.below HBX.out).2 1 _ rfl
          obtain ⟨e2, _⟩ := (HCS.out.below HBX.out).2 2 _ rfl
          by_cases hds : 0 < r.ds.length
          · cases hb3 : dfB r n with
            | true =>
              go_wp2_with fail
              refine (specDayFits r m n w6 ((HM4.out.below HBX.out).t) hl0 HX.out h0 h1).mono ?_
              rintro e w7 ⟨rfl, bb7⟩
              rw [hb3]
              replace HBX : Hid (Below W4.heap.size W4 w7) := bstep HBX.out bb7
              clear bb7
              clear y0 y1 y2 y3 y4 y5 y6 y7 y8 d0 d1 d2 e0 e1 e2
              obtain ⟨y0, y1, y2, y3, y4, y5, y6, y7, y8⟩ := HCB.out.on (HBX.out.block _ HCB.out.lt)
              obtain ⟨d0, _⟩ := (HCN.out.below HBX.out).2 0 _ rfl
              obtain ⟨d1, _⟩ := (HCN.out.below HBX.out).2 1 _ rfl
              obtain ⟨d2, _⟩ := (HCN.out.below HBX.out).2 2 _ rfl
              obtain ⟨e0, _⟩ := (HCS.out.below HBX.out).2 0 _ rfl
              obtain ⟨e1, _⟩ := (HCS.out.below HBX.out).2 1 _ rfl
              obtain ⟨e2, _⟩ := (HCS.out.below HBX.out).2 2 _ rfl
              go_wp2
              go_ret
              exact ⟨ret_b (by rw [fit_yes (.inr hb1) (.inr hb2) (.inr hb3), decide_eq_true (.inl hds)]; rfl), bstep HB4.out HBX.out⟩
            | false =>
              go_wp2_with fail
              refine (specDayFits r m n w6 ((HM4.out.below HBX.out).t) hl0 HX.out h0 h1).mono ?_
              rintro e w7 ⟨rfl, bb7⟩
              rw [hb3]
              replace HBX : Hid (Below W4.heap.size W4 w7) := bstep HBX.out bb7
              clear bb7
              clear y0 y1 y2 y3 y4 y5 y6 y7 y8 d0 d1 d2 e0 e1 e2
              obtain ⟨y0, y1, y2, y3, y4, y5, y6, y7, y8⟩ := HCB.out.on (HBX.out.block _ HCB.out.lt)
              obtain ⟨d0, _⟩ := (HCN.out.below HBX.out).2 0 _ rfl
              obtain ⟨d1, _⟩ := (HCN.out.below HBX.out).2 1 _ rfl
              obtain ⟨d2, _⟩ := (HCN.out.below HBX.out).2 2 _ rfl
              obtain ⟨e0, _⟩ := (HCS.out.below HBX.out).2 0 _ rfl
              obtain ⟨e1, _⟩ := (HCS.out.below HBX.out).2 1 _ rfl
              obtain ⟨e2, _⟩ := (HCS.out.below HBX.out).2 2 _ rfl
              go_wp2
              go_ret
              exact ⟨ret_b (by rw [fit_no3 hds hb3]), bstep HB4.out HBX.out⟩
          · skip
            go_wp2
            go_ret
            exact ⟨ret_b (by rw [fit_yes (.inr hb1) (.inr hb2) (.inl (by omega)), decide_eq_true (.inr hda)]; rfl), bstep HB4.out HBX.out⟩
        | false =>
          go_wp2_with fail
          refine (specDateFits r m n w5 ((HM4.out.below HBX.out).d) hl1 h0 h1).mono ?_
          rintro e w6 ⟨rfl, bb6⟩
          rw [hb2]
          replace HBX : Hid (Below W4.heap.size W4 w6) := bstep HBX.out bb6
          clear bb6
          clear y0 y1 y2 y3 y4 y5 y6 y7 y8 d0 d1 d2 e0 e1 e2
          obtain ⟨y0, y1, y2, y3, y4, y5, y6, y7, y8⟩ := HCB.out.on (HBX.out.block _ HCB.out.lt)
          obtain ⟨d0, _⟩ := (HCN.out.below HBX.out).2 0 _ rfl
          obtain ⟨d1, _⟩ := (HCN.out.below HBX.out).2 1 _ rfl
          obtain ⟨d2, _⟩ := (HCN.out.below HBX.out).2 2 _ rfl
          obtain ⟨e0, _⟩ := (HCS.out.below HBX.out).2 0 _ rfl
          obtain ⟨e1, _⟩ := (HCS.out.below HBX.out).2 1 _ rfl
          obtain ⟨e2, _⟩ := (HCS.out.below HBX.out).2 2 _ rfl
          go_wp2
          go_ret
          exact ⟨ret_b (by rw [fit_no2 hda hb2]), bstep HB4.out HBX.out⟩
      · skip
        by_cases hds : 0 < r.ds.length
        · cases hb3 : dfB r n with
          | true =>
            go_wp2_with fail
            refine (specDayFits r m n w5 ((HM4.out.below HBX.out).t) hl0 HX.out h0 h1).mono ?_
            rintro e w6 ⟨rfl, bb6⟩
            rw [hb3]
            replace HBX : Hid (Below W4.heap.size W4 w6) := bstep HBX.out bb6
            clear bb6
            clear y0 y1 y2 y3 y4 y5 y6 y7 y8 d0 d1 d2 e0 e1 e2
            obtain ⟨y0, y1, y2, y3, y4, y5, y6, y7, y8⟩ := HCB.out.on (HBX.out.block _ HCB.out.lt)
            obtain ⟨d0, _⟩ := (HCN.out.below HBX.out).2 0 _ rfl
            obtain ⟨d1, _⟩ := (HCN.out.below HBX.out).2 1 _ rfl
            obtain ⟨d2, _⟩ := (HCN.out.below HBX.out).2 2 _ rfl
            obtain ⟨e0, _⟩ := (HCS.out.below HBX.out).2 0 _ rfl
            obtain ⟨e1, _⟩ := (HCS.out.below HBX.out).2 1 _ rfl
            obtain ⟨e2, _⟩ := (HCS.out.below HBX.out).2 2 _ rfl
            go_wp2
            go_ret
            exact ⟨ret_b (by rw [fit_yes (.inr hb1) (.inl (by omega)) (.inr hb3), decide_eq_true (.inl hds)]; rfl), bstep HB4.out HBX.out⟩
          | false =>
            go_wp2_with fail
            refine (specDayFits r m n w5 ((HM4.out.below HBX.out).t) hl0 HX.out h0 h1).mono ?_
            rintro e w6 ⟨rfl, bb6⟩
            rw [hb3]
            replace HBX : Hid (Below W4.heap.size W4 w6) := bstep HBX.out bb6
            clear bb6
            clear y0 y1 y2 y3 y4 y5 y6 y7 y8 d0 d1 d2 e0 e1 e2
            obtain ⟨y0, y1, y2, y3, y4, y5, y6, y7, y8⟩ := HCB.out.on (HBX.out.block _ HCB.out.lt)
            obtain ⟨d0, _⟩ := (HCN.out.below HBX.out).2 0 _ rfl
            obtain ⟨d1, _⟩ := (HCN.out.below HBX.out).2 1 _ rfl
            obtain ⟨d2, _⟩ := (HCN.out.below HBX.out).2 2 _ rfl
            obtain ⟨e0, _⟩ := (HCS.out.below HBX.out).2 0 _ rfl
            obtain ⟨e1, _⟩ := (HCS.out.below HBX.out).2 1 _ rfl
            obtain ⟨e2, _⟩ := (HCS.out.below HBX.out).2 2 _ rfl
            go_wp2
            go_ret
            exact ⟨ret_b (by rw [fit_no3 hds hb3]), bstep HB4.out HBX.out⟩
        · skip
          have HE : Hid (fitB r s n = ownB r s n) := by unfold Hid; rw [fit_yes (.inr hb1) (.inl (by omega)) (.inl (by omega)), decide_eq_false (by omega)]; rfl
          have hds' : ¬ 0 < r.ds.length := hds
          have hda' : ¬ 0 < r.da.length := hda
          rcases four f0 f1 with rfl | rfl | rfl | rfl
          · have hf' : r.f = 1 := HF.out
            have HO : Hid (ownB r s n = true) := by unfold Hid ownB; rw [hf']; rfl
            go_wp2
            go_ret
            exact ⟨ret_b (by rw [HE.out, HO.out]; try rfl), bstep HB4.out HBX.out⟩
          · have hf' : r.f = 2 := HF.out
            have HO : Hid (ownB r s n = decide (n % 7 = s % 7)) := by unfold Hid ownB; rw [hf']; rfl
            go_wp2
            go_ret
            exact ⟨ret_b (by rw [HE.out, HO.out]; try rfl), bstep HB4.out HBX.out⟩
          · have hf' : r.f = 3 := HF.out
            have HO : Hid (ownB r s n = decide (dOf n = dOf s)) := by unfold Hid ownB; rw [hf']; rfl
            go_wp2
            go_ret
            exact ⟨ret_b (by rw [HE.out, HO.out]; try rfl), bstep HB4.out HBX.out⟩
          · have hf' : r.f = 4 := HF.out
            have HO : Hid (ownB r s n = decide (dOf n = dOf s ∧ (0 < r.mo.length ∨ mOf n = mOf s))) := by unfold Hid ownB; rw [hf']; rfl
            by_cases hdd : dOf n = dOf s
            · have HD : Hid (decide (dOf n = dOf s ∧ (0 < r.mo.length ∨ mOf n = mOf s)) = true) := by unfold Hid; simp [hdd, hmo]
              go_wp2
              go_ret
              exact ⟨ret_b (by rw [HE.out, HO.out, HD.out]; try rfl), bstep HB4.out HBX.out⟩
            · have HD : Hid (decide (dOf n = dOf s ∧ (0 < r.mo.length ∨ mOf n = mOf s)) = false) := by unfold Hid; simp [hdd]
              go_wp2
              go_ret
              exact ⟨ret_b (by rw [HE.out, HO.out, HD.out]; try rfl), bstep HB4.out HBX.out⟩
    | false =>
      go_wp2_with fail
      rw [← HW4.out]
      refine ((specHas _ _ _ _ W4 HM4.out.o (by omega) _ hb1).mono (fun e w' h => (⟨h.1, by rw [h.2]; exact Below.refl _ _⟩ : e = .returned (.bool false) ∧ Below W4.heap.size W4 w'))).mono ?_
      rintro e w5 ⟨rfl, bb5⟩
      have HBX : Hid (Below W4.heap.size W4 w5) := bb5
      clear bb5
      clear y0 y1 y2 y3 y4 y5 y6 y7 y8 d0 d1 d2
      obtain ⟨y0, y1, y2, y3, y4, y5, y6, y7, y8⟩ := HCB.out.on (HBX.out.block _ HCB.out.lt)
      obtain ⟨d0, _⟩ := (HCN.out.below HBX.out).2 0 _ rfl
      obtain ⟨d1, _⟩ := (HCN.out.below HBX.out).2 1 _ rfl
      obtain ⟨d2, _⟩ := (HCN.out.below HBX.out).2 2 _ rfl
      obtain ⟨e0, _⟩ := (HCS.out.below HBX.out).2 0 _ rfl
      obtain ⟨e1, _⟩ := (HCS.out.below HBX.out).2 1 _ rfl
      obtain ⟨e2, _⟩ := (HCS.out.below HBX.out).2 2 _ rfl
      go_wp2
      go_ret
      exact ⟨ret_b (by rw [fit_no1 hmo hb1]), bstep HB4.out HBX.out⟩
  · skip
    by_cases hda : 0 < r.da.length
    · cases hb2 : dtB r n with
      | true =>
        go_wp2_with fail
        rw [← HW4.out]
        refine (specDateFits r m n W4 (HM4.out.d) hl1 h0 h1).mono ?_
        rintro e w5 ⟨rfl, bb5⟩
        rw [hb2]
        have HBX : Hid (Below W4.heap.size W4 w5) := bb5
        clear bb5
        clear y0 y1 y2 y3 y4 y5 y6 y7 y8 d0 d1 d2
        obtain ⟨y0, y1, y2, y3, y4, y5, y6, y7, y8⟩ := HCB.out.on (HBX.out.block _ HCB.out.lt)
        obtain ⟨d0, _⟩ := (HCN.out.below HBX.out).2 0 _ rfl
        obtain ⟨d1, _⟩ := (HCN.out.below HBX.out).2 1 _ rfl
        obtain ⟨d2, _⟩ := (HCN.out.below HBX.out).2 2 _ rfl
        obtain ⟨e0, _⟩ := (HCS.out.below HBX.out).2 0 _ rfl
        obtain ⟨e1, _⟩ := (HCS.out.below HBX.out).2 1 _ rfl
        obtain ⟨e2, _⟩ := (HCS.out.below HBX.out).2 2 _ rfl
        by_cases hds : 0 < r.ds.length
        · cases hb3 : dfB r n with
          | true =>
            go_wp2_with fail
            refine (specDayFits r m n w5 ((HM4.out.below HBX.out).t) hl0 HX.out h0 h1).mono ?_
            rintro e w6 ⟨rfl, bb6⟩
            rw [hb3]
            replace HBX : Hid (Below W4.heap.size W4 w6) := bstep HBX.out bb6
            clear bb6
            clear y0 y1 y2 y3 y4 y5 y6 y7 y8 d0 d1 d2 e0 e1 e2
            obtain ⟨y0, y1, y2, y3, y4, y5, y6, y7, y8⟩ := HCB.out.on (HBX.out.block _ HCB.out.lt)
            obtain ⟨d0, _⟩ := (HCN.out.below HBX.out).2 0 _ rfl
            obtain ⟨d1, _⟩ := (HCN.out.below HBX.out).2 1 _ rfl
            obtain ⟨d2, _⟩ := (HCN.out.below HBX.out).2 2 _ rfl
            obtain ⟨e0, _⟩ := (HCS.out.below HBX.out).2 0 _ rfl
            obtain ⟨e1, _⟩ := (HCS.out.below HBX.out).2 1 _ rfl
            obtain ⟨e2, _⟩ := (HCS.out.below HBX.out).2 2 _ rfl
            go_wp2
            go_ret
            exact ⟨ret_b (by rw [fit_yes (.inl (by omega)) (.inr hb2) (.inr hb3), decide_eq_true (.inl hds)]; rfl), bstep HB4.out HBX.out⟩
          | false =>
            go_wp2_with fail
            refine (specDayFits r m n w5 ((HM4.out.below HBX.out).t) hl0 HX.out h0 h1).mono ?_
            rintro e w6 ⟨rfl, bb6⟩
            rw [hb3]
            replace HBX : Hid (Below W4.heap.size W4 w6) := bstep HBX.out bb6
            clear bb6
            clear y0 y1 y2 y3 y4 y5 y6 y7 y8 d0 d1 d2 e0 e1 e2
            obtain ⟨y0, y1, y2, y3, y4, y5, y6, y7, y8⟩ := HCB.out.on (HBX.out.block _ HCB.out.lt)
            obtain ⟨d0, _⟩ := (HCN.out.below HBX.out).2 0 _ rfl
            obtain ⟨d1, _⟩ := (HCN.out.below HBX.out).2 1 _ rfl
            obtain ⟨d2, _⟩ := (HCN.out.below HBX.out).2 2 _ rfl
            obtain ⟨e0, _⟩ := (HCS.out.below HBX.out).2 0 _ rfl
            obtain ⟨e1, _⟩ := (HCS.out.below HBX.out).2 1 _ rfl
            obtain ⟨e2, _⟩ := (HCS.out.below HBX.out).2 2 _ rfl
            go_wp2
            go_ret
            exact ⟨ret_b (by rw [fit_no3 hds hb3]), bstep HB4.out HBX.out⟩
        · skip
          go_wp2
          go_ret
          exact ⟨ret_b (by rw [fit_yes (.inl (by omega)) (.inr hb2) (.inl (by omega)), decide_eq_true (.inr hda)]; rfl), bstep HB4.out HBX.out⟩
      | false =>
        go_wp2_with fail
        rw [← HW4.out]
        refine (specDateFits r m n W4 (HM4.out.d) hl1 h0 h1).mono ?_
        rintro e w5 ⟨rfl, bb5⟩
        rw [hb2]
        have HBX : Hid (Below W4.heap.size W4 w5) := bb5
        clear bb5
        clear y0 y1 y2 y3 y4 y5 y6 y7 y8 d0 d1 d2
        obtain ⟨y0, y1, y2, y3, y4, y5, y6, y7, y8⟩ := HCB.out.on (HBX.out.block _ HCB.out.lt)
        obtain ⟨d0, _⟩ := (HCN.out.below HBX.out).2 0 _ rfl
        obtain ⟨d1, _⟩ := (HCN.out.below HBX.out).2 1 _ rfl
        obtain ⟨d2, _⟩ := (HCN.out.below HBX.out).2 2 _ rfl
        obtain ⟨e0, _⟩ := (HCS.out.below HBX.out).2 0 _ rfl
        obtain ⟨e1, _⟩ := (HCS.out.below HBX.out).2 1 _ rfl
        obtain ⟨e2, _⟩ := (HCS.out.below HBX.out).2 2 _ rfl
        go_wp2
        go_ret
        exact ⟨ret_b (by rw [fit_no2 hda hb2]), bstep HB4.out HBX.out⟩
    · skip
      by_cases hds : 0 < r.ds.length
      · cases hb3 : dfB r n with
        | true =>
          go_wp2_with fail
          rw [← HW4.out]
          refine (specDayFits r m n W4 (HM4.out.t) hl0 HX.out h0 h1).mono ?_
          rintro e w5 ⟨rfl, bb5⟩
          rw [hb3]
          have HBX : Hid (Below W4.heap.size W4 w5) := bb5
          clear bb5
          clear y0 y1 y2 y3 y4 y5 y6 y7 y8 d0 d1 d2
          obtain ⟨y0, y1, y2, y3, y4, y5, y6, y7, y8⟩ := HCB.out.on (HBX.out.block _ HCB.out.lt)
          obtain ⟨d0, _⟩ := (HCN.out.below HBX.out).2 0 _ rfl
          obtain ⟨d1, _⟩ := (HCN.out.below HBX.out).2 1 _ rfl
          obtain ⟨d2, _⟩ := (HCN.out.below HBX.out).2 2 _ rfl
          obtain ⟨e0, _⟩ := (HCS.out.below HBX.out).2 0 _ rfl
          obtain ⟨e1, _⟩ := (HCS.out.below HBX.out).2 1 _ rfl
          obtain ⟨e2, _⟩ := (HCS.out.below HBX.out).2 2 _ rfl
          go_wp2
          go_ret
          exact ⟨ret_b (by rw [fit_yes (.inl (by omega)) (.inl (by omega)) (.inr hb3), decide_eq_true (.inl hds)]; rfl), bstep HB4.out HBX.out⟩
        | false =>
          go_wp2_with fail
          rw [← HW4.out]
          refine (specDayFits r m n W4 (HM4.out.t) hl0 HX.out h0 h1).mono ?_
          rintro e w5 ⟨rfl, bb5⟩
          rw [hb3]
          have HBX : Hid (Below W4.heap.size W4 w5) := bb5
          clear bb5
          clear y0 y1 y2 y3 y4 y5 y6 y7 y8 d0 d1 d2
          obtain ⟨y0, y1, y2, y3, y4, y5, y6, y7, y8⟩ := HCB.out.on (HBX.out.block _ HCB.out.lt)
          obtain ⟨d0, _⟩ := (HCN.out.below HBX.out).2 0 _ rfl
          obtain ⟨d1, _⟩ := (HCN.out.below HBX.out).2 1 _ rfl
          obtain ⟨d2, _⟩ := (HCN.out.below HBX.out).2 2 _ rfl
          obtain ⟨e0, _⟩ := (HCS.out.below HBX.out).2 0 _ rfl
          obtain ⟨e1, _⟩ := (HCS.out.below HBX.out).2 1 _ rfl
          obtain ⟨e2, _⟩ := (HCS.out.below HBX.out).2 2 _ rfl
          go_wp2
          go_ret
          exact ⟨ret_b (by rw [fit_no3 hds hb3]), bstep HB4.out HBX.out⟩
      · skip
        have HE : Hid (fitB r s n = ownB r s n) := by unfold Hid; rw [fit_yes (.inl (by omega)) (.inl (by omega)) (.inl (by omega)), decide_eq_false (by omega)]; rfl
        have hds' : ¬ 0 < r.ds.length := hds
        have hda' : ¬ 0 < r.da.length := hda
        rcases four f0 f1 with rfl | rfl | rfl | rfl
        · have hf' : r.f = 1 := HF.out
          have HO : Hid (ownB r s n = true) := by unfold Hid ownB; rw [hf']; rfl
          go_wp2
          rw [← HW4.out]
          go_ret
          exact ⟨ret_b (by rw [HE.out, HO.out]; try rfl), HB4.out⟩
        · have hf' : r.f = 2 := HF.out
          have HO : Hid (ownB r s n = decide (n % 7 = s % 7)) := by unfold Hid ownB; rw [hf']; rfl
          go_wp2
          rw [← HW4.out]
          go_ret
          exact ⟨ret_b (by rw [HE.out, HO.out]; try rfl), HB4.out⟩
        · have hf' : r.f = 3 := HF.out
          have HO : Hid (ownB r s n = decide (dOf n = dOf s)) := by unfold Hid ownB; rw [hf']; rfl
          go_wp2
          rw [← HW4.out]
          go_ret
          exact ⟨ret_b (by rw [HE.out, HO.out]; try rfl), HB4.out⟩
        · have hf' : r.f = 4 := HF.out
          have HO : Hid (ownB r s n = decide (dOf n = dOf s ∧ (0 < r.mo.length ∨ mOf n = mOf s))) := by unfold Hid ownB; rw [hf']; rfl
          by_cases hdd : dOf n = dOf s
          · have HD : Hid (decide (dOf n = dOf s ∧ (0 < r.mo.length ∨ mOf n = mOf s)) = decide (mOf n = mOf s)) := by unfold Hid; simp [hdd, hmo]
            go_wp2
            rw [← HW4.out]
            go_ret
            exact ⟨ret_b (by rw [HE.out, HO.out, HD.out]; try rfl), HB4.out⟩
          · have HD : Hid (decide (dOf n = dOf s ∧ (0 < r.mo.length ∨ mOf n = mOf s)) = false) := by unfold Hid; simp [hdd]
            go_wp2
            rw [← HW4.out]
            go_ret
            exact ⟨ret_b (by rw [HE.out, HO.out, HD.out]; try rfl), HB4.out⟩
theorem specFits (r : Rl) (m : Rm) (s n : Int) (w : World) (hr : ROk r) (hm : RMem w r m) (hl0 : r.ds.length ≤ 8) (hl1 : r.da.length ≤ 8) (hl2 : r.mo.length ≤ 8) (hx : ∀ j, j < r.ds.length → -1000 ≤ tAt r.ds j ∧ tAt r.ds j ≤ 1000)
    (s0 : 0 ≤ s) (s1 : s ≤ 3652058) (h0 : 0 ≤ n) (h1 : n ≤ 3652058) :
    Calls Tryd.prog 37 #[.agg #[.int .i64 r.f, .int .i64 r.ev, .int .i64 r.ct, .int .i64 r.un, .slice m.a0 r.ds.length m.c0, .slice m.a1 r.da.length m.c1, .slice m.a2 r.mo.length m.c2, .slice m.a3 r.pl.length m.c3, .int .i64 r.wk], .int .i64 s, .int .i64 n] w fun e w' => e = .returned (.bool (fitB r s n)) ∧ Below w.heap.size w w' :=
  specFitsF r.f r rfl hr.f0 hr.f1 m s n w hm hl0 hl1 hl2 hx s0 s1 h0 h1
end Go.Proofs.YtlnhagkipmcioaaDoor
