/- The specification's days of a period: l3Period. -/
import Derived.Test.YtlnhagkipmcioaaDoorKz
import Derived.Test.YtlnhagkipmcioaaDoorKo
namespace Go.Proofs.YtlnhagkipmcioaaDoor
open Go.RowKit Go.Shelf
set_option linter.unusedVariables false

theorem IL.lit0 (w : World) : IL w (.slice (some ⟨w.heap.size, 0, none⟩) 0 0) [] (w.alloc (.cells #[] 3)) :=
  ⟨⟨by simp, .inr ⟨w.heap.size, 0, #[], rfl, Nat.le_refl _, World.alloc_heap_new w _, Nat.le_refl _, by unfold maxLen; omega, by simp, by simp⟩⟩, (Below.refl _ w).alloc (Nat.le_refl _) _⟩
set_option maxRecDepth 100000 in
set_option maxHeartbeats 8000000 in
theorem specPeriod (r : Rl) (m : Rm) (s a b : Int) (w : World) (hr : ROk r) (hm : RMem w r m) (hl0 : r.ds.length ≤ 8) (hl1 : r.da.length ≤ 8) (hl2 : r.mo.length ≤ 8) (hl3 : r.pl.length ≤ 8) (hx : ∀ j, j < r.ds.length → -1000 ≤ tAt r.ds j ∧ tAt r.ds j ≤ 1000)
    (s0 : 0 ≤ s) (s1 : s ≤ 3652058) (a0 : -10 ≤ a) (a1 : a ≤ 4000000) (hab : b ≤ a + 365) (hba : a ≤ b + 1) :
    Calls Tryd.prog 23 #[.agg #[.int .i64 r.f, .int .i64 r.ev, .int .i64 r.ct, .int .i64 r.un, .slice m.a0 r.ds.length m.c0, .slice m.a1 r.da.length m.c1, .slice m.a2 r.mo.length m.c2, .slice m.a3 r.pl.length m.c3, .int .i64 r.wk], .int .i64 s, .int .i64 a, .int .i64 b] w fun e w' => (∃ v, e = .returned v ∧ OI w' w.heap.size v (choice r s a b)) ∧ Below w.heap.size w w' := by
  obtain ⟨i0, hi, hz0, hz1, hz2⟩ := info_parts intInfo
  obtain ⟨W0, hW0⟩ : ∃ W0, W0 = w.alloc (.cells #[.int .i64 r.f, .int .i64 r.ev, .int .i64 r.ct, .int .i64 r.un, .slice m.a0 r.ds.length m.c0, .slice m.a1 r.da.length m.c1, .slice m.a2 r.mo.length m.c2, .slice m.a3 r.pl.length m.c3, .int .i64 r.wk] 30) := ⟨_, rfl⟩
  have hb0 : Below w.heap.size w W0 := by rw [hW0]; exact (Below.refl _ w).alloc (Nat.le_refl _) _
  have HCR : Hid (CB W0 w.heap.size r m) := by unfold Hid; rw [hW0]; exact CB.new w r m _
  have HW0 : Hid (W0 = w.alloc (.cells #[.int .i64 r.f, .int .i64 r.ev, .int .i64 r.ct, .int .i64 r.un, .slice m.a0 r.ds.length m.c0, .slice m.a1 r.da.length m.c1, .slice m.a2 r.mo.length m.c2, .slice m.a3 r.pl.length m.c3, .int .i64 r.wk] 30)) := hW0
  have HB0 : Hid (Below w.heap.size w W0) := hb0
  have HM : Hid (RMem W0 r m) := hm.below hb0
  have HX : Hid (∀ j, j < r.ds.length → -1000 ≤ tAt r.ds j ∧ tAt r.ds j ≤ 1000) := hx
  have K0 : Hid (IL W0 (.slice (some ⟨W0.heap.size, 0, none⟩) 0 0) [] (W0.alloc (.cells #[] 3))) := IL.lit0 W0
  have HZ0 : Hid (W0.heap.size = w.heap.size + 1) := by unfold Hid; rw [hW0]; simp
  clear hm hb0 hW0 hx
  go_enter Tryd.func23, Tryd.ntmps23
  go_wp2
  rw [← HW0.out]
  go_loopw [9, 10] (fun v i wr => ∃ d : Int, a ≤ d ∧ d ≤ b + 1 ∧ i = .int .i64 d ∧ IL W0 v (fitL r s a d) wr) (fun _ i _ => (b + 1 - intOf i).toNat)
  case atStart => exact ⟨a, by omega, by omega, rfl, by unfold fitL; rw [ira_nil (Int.le_refl _)]; have := K0.out; rw [HZ0.out] at this; exact this⟩
  case round =>
    obtain ⟨d, hd0, hd1, rfl, K1⟩ := hrel
    have hb : Below W0.heap.size W0 wr := K1.2
    obtain ⟨q0, q1, q2, q3, q4, q5, q6, q7, q8⟩ := HCR.out.on (hb.block _ HCR.out.lt)
    by_cases hle : d ≤ b
    · have hlen : (fitL r s a d).length ≤ 400 := by
        have := asc_len (fitL r s a d) a (d - 1) (fitL_asc r s a d) (fun z hz => by have := fitL_mem hz; omega)
        omega
      by_cases hdy : 0 ≤ d ∧ d ≤ 3652058
      · have HIC : Hid (Calls Tryd.prog 37 #[.agg #[.int .i64 r.f, .int .i64 r.ev, .int .i64 r.ct, .int .i64 r.un, .slice m.a0 r.ds.length m.c0, .slice m.a1 r.da.length m.c1, .slice m.a2 r.mo.length m.c2, .slice m.a3 r.pl.length m.c3, .int .i64 r.wk], .int .i64 s, .int .i64 d] wr fun e w' => e = .returned (.bool (fitB r s d)) ∧ Below wr.heap.size wr w') := specFits r m s d wr hr (HM.out.below hb) hl0 hl1 hl2 HX.out s0 s1 hdy.1 hdy.2
        have HIN : Hid (inB d 0 3652058 = true) := (in_iff _ _ _).2 hdy
        have HSY : Hid (fitB r s d = true → fitL r s a (d + 1) = fitL r s a d ++ [d]) := fun h => fitL_snoc_yes hd0 hdy h
        have HSN : Hid (fitB r s d = false → fitL r s a (d + 1) = fitL r s a d) := fun h => fitL_snoc_no hd0 (fun h' => by rw [h] at h'; exact absurd h'.2 (by simp))
        clear hb
        generalize fitL r s a d = L at K1 hlen HSY HSN
        go_wp2_with fail
        refine (specInR _ _ _ _ true HIN.out).mono ?_
        rintro e w1 ⟨rfl, hw1⟩
        rw [hw1]
        clear hw1
        go_wp2_with fail
        refine HIC.out.mono ?_
        rintro e w2 ⟨rfl, b2⟩
        have KK := IL.on K1 b2
        clear K1 b2 q0 q1 q2 q3 q4 q5 q6 q7 q8
        cases hf : fitB r s d with
        | true =>
          have HF : Hid (fitB r s d = true) := hf
          clear hf
          go_wp2_with (first
        | (at_builtin; refine wpList_append_own _ rfl _ _ 23 rfl W0.heap.size 3 i0 (.int .i64 0) 1 8 Tryd.underlying23 hi hz0 hz1 hz2 rfl (by decide) _ _ _ rfl (World.ownsRow.alloc KK.1 _) ⟨_, 0, none⟩ 1 1 [.int .i64 d] rfl rfl (cell_one_new _ _ _) (by simp [Value.oneCell']) (by unfold maxLen; omega) (by omega) (by have := KK.2.size; simp; omega) ?_; intro v' w4 hown hgrow _; have K4 := IL.app KK hown hgrow; clear hown hgrow))
          go_roundw
          case rel => exact ⟨d + 1, by omega, by omega, by go_num, by rw [HSY.out HF.out]; exact K4⟩
          case measure => simp [intOf]; omega
        | false =>
          have HF : Hid (fitB r s d = false) := hf
          have HKK : Hid (IL W0 u9 L w2) := KK
          clear hf KK
          go_wp2
          go_roundw
          case rel => exact ⟨d + 1, by omega, by omega, by go_num, by rw [HSN.out HF.out]; exact HKK.out⟩
          case measure => simp [intOf]; omega
      · have HIN : Hid (inB d 0 3652058 = false) := (in_not _ _ _).2 hdy
        have HSN : Hid (fitL r s a (d + 1) = fitL r s a d) := fitL_snoc_no hd0 (fun h' => hdy h'.1)
        have HKK : Hid (IL W0 u9 (fitL r s a d) wr) := K1
        clear hb K1
        go_wp2_with fail
        refine (specInR _ _ _ _ false HIN.out).mono ?_
        rintro e w1 ⟨rfl, hw1⟩
        rw [hw1]
        clear hw1
        go_wp2
        go_roundw
        case rel => exact ⟨d + 1, by omega, by omega, by go_num, by rw [HSN.out]; exact HKK.out⟩
        case measure => simp [intOf]; omega
    · have hde : d = b + 1 := by omega
      subst hde
      have hlen : (fitL r s a (b + 1)).length ≤ 400 := by
        have := asc_len (fitL r s a (b + 1)) a b (fitL_asc r s a (b + 1)) (fun z hz => by have := fitL_mem hz; omega)
        omega
      obtain ⟨L, hL⟩ : ∃ L, L = fitL r s a (b + 1) := ⟨_, rfl⟩
      rw [← hL] at K1 hlen
      obtain ⟨av, cv, rfl, iv, _, _⟩ := K1.1.val
      have HK1 : Hid (IL W0 (.slice av L.length cv) L wr) := K1
      have HL : Hid (L = fitL r s a (b + 1)) := hL
      have HIV : Hid (IsInts wr av L) := iv
      have HPL : Hid (IsInts wr m.a3 r.pl) := HM.out.p.below hb
      have HCR1 : Hid (CB wr w.heap.size r m) := HCR.out.on (hb.block _ HCR.out.lt)
      clear K1 hL iv hb q0 q1 q2 q3 q4 q5 q6 q8
      by_cases hp : r.pl.length = 0
      · have HC : Hid (choice r s a b = L) := by unfold Hid choice; rw [if_pos hp, HL.out]
        go_wp2
        go_ret
        refine ⟨⟨_, rfl, ?_⟩, bstep HB0.out HK1.out.2⟩
        rw [HC.out]
        exact HK1.out.1.base HB0.out.size
      · have HC : Hid (choice r s a b = plL r.pl L L.length) := by unfold Hid choice; rw [if_neg hp, HL.out]
        have hp' : ¬ (r.pl.length : Int) = 0 := by omega
        obtain ⟨wo, hwo⟩ : ∃ wo, wo = wr := ⟨_, rfl⟩
        subst hwo
        have K9 : Hid (IL wo (.slice (some ⟨wo.heap.size, 0, none⟩) 0 0) [] (wo.alloc (.cells #[] 3))) := IL.lit0 wo
        go_wp2
        go_loopw [11, 12] (fun v i wr => ∃ q : Nat, q ≤ L.length ∧ i = .int .i64 q ∧ IL wo v (plL r.pl L q) wr) (fun _ i _ => L.length - (intOf i).toNat)
        case atStart => exact ⟨0, by omega, rfl, by rw [plL_zero]; exact K9.out⟩
        case round =>
          obtain ⟨q, hq, rfl, K2⟩ := hrel
          have hb2 : Below wo.heap.size wo wr := K2.2
          by_cases hlt : q < L.length
          · have G1 := HIV.out
            rcases G1 with G1 | ⟨bb, o, rfl, hbs, hc⟩
            · rw [G1] at hlt; simp at hlt
            have c0 : wr.cell? ⟨bb, o + q, none⟩ = some (.int .i64 (gi L q)) := by rw [hb2.cell (p := ⟨bb, o + q, none⟩) hbs]; exact hc q hlt
            have c7 : wr.cell? ⟨w.heap.size, 7, none⟩ = some (.slice m.a3 r.pl.length m.c3) := (HCR1.out.on (hb2.block _ HCR1.out.lt)).2.2.2.2.2.2.2.1
            have HPL2 : Hid (IsInts wr m.a3 r.pl) := HPL.out.below hb2
            have hi1 : (q : Int) < (L.length : Int) := by omega
            have hi0 : (0 : Int) ≤ (q : Int) := by omega
            have hbl : bb < wr.heap.size := by have := hb2.size; omega
            have hpl : (plL r.pl L q).length ≤ 400 := by
              unfold plL; rw [List.length_map]
              have := List.length_filter_le (plB r.pl L.length) (List.range q)
              rw [List.length_range] at this; omega
            have HPY : Hid (plB r.pl L.length q = true → plL r.pl L (q + 1) = plL r.pl L q ++ [gi L q]) := fun h => plL_yes h
            have HPN : Hid (plB r.pl L.length q = false → plL r.pl L (q + 1) = plL r.pl L q) := fun h => plL_no h
            clear hc hb2
            generalize plL r.pl L q = PL at K2 hpl HPY HPN
            have KK := K2
            clear K2
            cases h1 : hasI r.pl ((q : Int) + 1) with
            | true =>
              have HF : Hid (plB r.pl L.length q = true) := by unfold Hid plB; rw [h1]; rfl
              have H1 : Hid (hasI r.pl ((q : Int) + 1) = true) := h1
              clear h1
              go_wp2_with fail
              refine (specHas _ _ _ _ _ HPL2.out (by omega) _ H1.out).mono ?_
              rintro e w' ⟨rfl, hw'⟩
              rw [hw']
              clear hw'
              go_wp2_with (first
                | (at_builtin; refine wpList_append_own _ rfl _ _ 23 rfl wo.heap.size 3 i0 (.int .i64 0) 1 8 Tryd.underlying23 hi hz0 hz1 hz2 rfl (by decide) _ _ _ rfl (World.ownsRow.alloc KK.1 _) ⟨_, 0, none⟩ 1 1 [.int .i64 (gi L q)] rfl rfl (cell_one_new _ _ _) (by simp [Value.oneCell']) (by unfold maxLen; omega) (by omega) (by have := KK.2.size; simp; omega) ?_; intro v' w4 hown hgrow _; have K4 := IL.app KK hown hgrow; clear hown hgrow))
              go_roundw
              case rel => exact ⟨q + 1, by omega, by go_num, by rw [HPY.out HF.out]; exact K4⟩
              case measure => simp [intOf]; omega
            | false =>
              have H1 : Hid (hasI r.pl ((q : Int) + 1) = false) := h1
              cases h2 : hasI r.pl ((q : Int) - (L.length : Int)) with
              | true =>
                have HF : Hid (plB r.pl L.length q = true) := by unfold Hid plB; rw [h1, h2]; rfl
                have H2 : Hid (hasI r.pl ((q : Int) - (L.length : Int)) = true) := h2
                clear h1 h2
                go_wp2_with fail
                refine (specHas _ _ _ _ _ HPL2.out (by omega) _ H1.out).mono ?_
                rintro e w' ⟨rfl, hw'⟩
                rw [hw']
                clear hw'
                go_wp2_with fail
                refine (specHas _ _ _ _ _ HPL2.out (by omega) _ H2.out).mono ?_
                rintro e w' ⟨rfl, hw'⟩
                rw [hw']
                clear hw'
                go_wp2_with (first
                | (at_builtin; refine wpList_append_own _ rfl _ _ 23 rfl wo.heap.size 3 i0 (.int .i64 0) 1 8 Tryd.underlying23 hi hz0 hz1 hz2 rfl (by decide) _ _ _ rfl (World.ownsRow.alloc KK.1 _) ⟨_, 0, none⟩ 1 1 [.int .i64 (gi L q)] rfl rfl (cell_one_new _ _ _) (by simp [Value.oneCell']) (by unfold maxLen; omega) (by omega) (by have := KK.2.size; simp; omega) ?_; intro v' w4 hown hgrow _; have K4 := IL.app KK hown hgrow; clear hown hgrow))
                go_roundw
                case rel => exact ⟨q + 1, by omega, by go_num, by rw [HPY.out HF.out]; exact K4⟩
                case measure => simp [intOf]; omega
              | false =>
                have HF : Hid (plB r.pl L.length q = false) := by unfold Hid plB; rw [h1, h2]; rfl
                have H2 : Hid (hasI r.pl ((q : Int) - (L.length : Int)) = false) := h2
                have HKK : Hid (IL wo u11 PL wr) := KK
                clear h1 h2 KK
                go_wp2_with fail
                refine (specHas _ _ _ _ _ HPL2.out (by omega) _ H1.out).mono ?_
                rintro e w' ⟨rfl, hw'⟩
                rw [hw']
                clear hw'
                go_wp2_with fail
                refine (specHas _ _ _ _ _ HPL2.out (by omega) _ H2.out).mono ?_
                rintro e w' ⟨rfl, hw'⟩
                rw [hw']
                clear hw'
                go_wp2
                go_roundw
                case rel => exact ⟨q + 1, by omega, by go_num, by rw [HPN.out HF.out]; exact HKK.out⟩
                case measure => simp [intOf]; omega
          · have hqe : q = L.length := by omega
            subst hqe
            have HK2 : Hid (IL wo u11 (plL r.pl L L.length) wr) := K2
            clear K2 hb2
            go_wp2
            go_ret
            refine ⟨⟨_, rfl, ?_⟩, bstep (bstep HB0.out HK1.out.2) HK2.out.2⟩
            rw [HC.out]
            exact HK2.out.1.base (by have := HB0.out.size; have := HK1.out.2.size; omega)
end Go.Proofs.YtlnhagkipmcioaaDoor
