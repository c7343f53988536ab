/- The specification's days of a rule: l3Days. -/
import Derived.Test.YtlnhagkipmcioaaDoorLa
import Derived.Test.YtlnhagkipmcioaaDoorLb
import Derived.Test.YtlnhagkipmcioaaDoorKy
import Derived.Test.YtlnhagkipmcioaaDoorKg
namespace Go.Proofs.YtlnhagkipmcioaaDoor
open Go.RowKit Go.Shelf
set_option linter.unusedVariables false

theorem sp_stop {r : Rl} {s T : Int} (hr : ROk r) (h0 : 0 ≤ s) (h1 : s ≤ 3652058) {k i : Nat} (hk : k < perN r s T) (hi : i < (chJ r s k).length) (hd : T < gi (chJ r s k) i) : comes r s T = XF s T (AL r s k ++ (chJ r s k).take i) := by
  obtain ⟨Y, hY⟩ := AL_at hk hi
  exact XF_stop hY (AL_asc hr h0 h1 _) hd
theorem sp_split {r : Rl} {s T : Int} {k i : Nat} (hk : k < perN r s T) (hi : i < (chJ r s k).length) : ∃ Z, comes r s T = XF s T (AL r s k ++ (chJ r s k).take i) ++ Z := by
  obtain ⟨Y, hY⟩ := AL_at hk hi
  exact ⟨XF s T (gi (chJ r s k) i :: Y), by unfold comes; rw [hY, XF_append]⟩
def mostT (r : Rl) (most : Int) : Int := if 0 < r.ct ∧ r.ct < most then r.ct else most
set_option maxRecDepth 100000 in
set_option maxHeartbeats 16000000 in
theorem specDaysL (r : Rl) (m : Rm) (s te most : Int) (w : World) (hr : ROk r) (hm : RMem w r m) (hl0 : r.ds.length ≤ 8) (hl1 : r.da.length ≤ 8) (hl2 : r.mo.length ≤ 8) (hl3 : r.pl.length ≤ 8) (hx : ∀ j, j < r.ds.length → -1000 ≤ tAt r.ds j ∧ tAt r.ds j ≤ 1000)
    (s0 : 0 ≤ s) (s1 : s ≤ 3652058) (m0 : 1 ≤ most) (m1 : most ≤ 20000) :
    Calls Tryd.prog 13 #[.agg #[.int .i64 r.f, .int .i64 r.ev, .int .i64 r.ct, .int .i64 r.un, .slice m.a0 r.ds.length m.c0, .slice m.a1 r.da.length m.c1, .slice m.a2 r.mo.length m.c2, .slice m.a3 r.pl.length m.c3, .int .i64 r.wk], .int .i64 s, .int .i64 te, .int .i64 most] w fun e w' => (∃ v, e = .returned v ∧ OI w' w.heap.size v ((comes r s (limT r te)).take (mostT r most).toNat)) ∧ Below w.heap.size w w' := by
  obtain ⟨i0, hi, hz0, hz1, hz2⟩ := info_parts intInfo
  obtain ⟨W0, hW0⟩ : ∃ W0, W0 = w.alloc (.cells #[.int .i64 r.f, .int .i64 r.ev, .int .i64 r.ct, .int .i64 r.un, .slice m.a0 r.ds.length m.c0, .slice m.a1 r.da.length m.c1, .slice m.a2 r.mo.length m.c2, .slice m.a3 r.pl.length m.c3, .int .i64 r.wk] 30) := ⟨_, rfl⟩
  have hb0 : Below w.heap.size w W0 := by rw [hW0]; exact (Below.refl _ w).alloc (Nat.le_refl _) _
  have HCR : Hid (CB W0 w.heap.size r m) := by unfold Hid; rw [hW0]; exact CB.new w r m _
  have HW0 : Hid (W0 = w.alloc (.cells #[.int .i64 r.f, .int .i64 r.ev, .int .i64 r.ct, .int .i64 r.un, .slice m.a0 r.ds.length m.c0, .slice m.a1 r.da.length m.c1, .slice m.a2 r.mo.length m.c2, .slice m.a3 r.pl.length m.c3, .int .i64 r.wk] 30)) := hW0
  have HB0 : Hid (Below w.heap.size w W0) := hb0
  have HM : Hid (RMem W0 r m) := hm.below hb0
  have HX : Hid (∀ j, j < r.ds.length → -1000 ≤ tAt r.ds j ∧ tAt r.ds j ≤ 1000) := hx
  have K0 : Hid (IL W0 (.slice (some ⟨W0.heap.size, 0, none⟩) 0 0) [] (W0.alloc (.cells #[] 3))) := IL.lit0 W0
  have HZ0 : Hid (W0.heap.size = w.heap.size + 1) := by unfold Hid; rw [hW0]; simp
  have c0 := hr.c0; have c1 := hr.c1
  obtain ⟨T, hT⟩ : ∃ T, T = limT r te := ⟨_, rfl⟩
  obtain ⟨Mo, hMo⟩ : ∃ Mo, Mo = mostT r most := ⟨_, rfl⟩
  have hMb : 1 ≤ Mo ∧ Mo ≤ 20000 := by rw [hMo]; unfold mostT; split <;> omega
  rw [← hT, ← hMo]
  have FIN : Hid (∀ (v : Value) (X : List Int) (W : World), IL W0 v X W → (comes r s T).take Mo.toNat = X → (∃ v', Ending.returned v = .returned v' ∧ OI W w.heap.size v' ((comes r s T).take Mo.toNat)) ∧ Below w.heap.size w W) := fun v X W h e =>
    ⟨⟨v, rfl, by rw [e]; exact h.1.base HB0.out.size⟩, bstep HB0.out h.2⟩
  clear hm hb0 hW0 hx
  by_cases hu1 : 0 < r.un
  · by_cases hu2 : r.un < te
    · skip
      by_cases hc1 : 0 < r.ct
      · by_cases hc2 : r.ct < most
        · skip
          have hT' : T = r.un := by rw [hT]; unfold limT; rw [if_pos ⟨hu1, hu2⟩]
          have hM' : Mo = r.ct := by rw [hMo]; unfold mostT; rw [if_pos ⟨hc1, hc2⟩]
          rw [hT', hM'] at FIN ⊢
          rw [hM'] at hMb
          clear hT' hM' hT hMo T Mo
          go_enter Tryd.func13, Tryd.ntmps13
          go_wp2
          rw [← HW0.out]
          go_loopw [9, 10] (fun v i wr => ∃ j : Nat, j ≤ perN r s (r.un) ∧ i = .int .i64 (j * r.ev) ∧ IL W0 v (XF s (r.un) (AL r s j)) wr ∧ ((XF s (r.un) (AL r s j)).length : Int) ≤ (r.ct)) (fun _ i _ => perN r s (r.un) * 100 + 1 - (intOf i).toNat)
          case atStart => exact ⟨0, Nat.zero_le _, by simp, by have := K0.out; rw [HZ0.out] at this; exact this, by show (0 : Int) ≤ (r.ct); omega⟩
          case round =>
            obtain ⟨j, hj, rfl, K1, hlm⟩ := hrel
            have hb : Below W0.heap.size W0 wr := K1.2
            obtain ⟨q0, q1, q2, q3, q4, q5, q6, q7, q8⟩ := HCR.out.on (hb.block _ HCR.out.lt)
            have hn := per_n hr hj
            have HM1 : Hid (RMem wr r m) := HM.out.below hb
            have HCR1 : Hid (CB wr w.heap.size r m) := HCR.out.on (hb.block _ HCR.out.lt)
            clear hb
            go_wp2_with fail
            refine (specSpan r m s _ wr hr s0 s1 hn.1 (by omega)).mono ?_
            rintro e w1 ⟨⟨x, y, rfl, hxy⟩, b1⟩
            have KK1 := IL.on K1 b1
            have HM2 : Hid (RMem w1 r m) := HM1.out.below b1
            have HCR2 : Hid (CB w1 w.heap.size r m) := HCR1.out.on (b1.block _ HCR1.out.lt)
            clear K1 b1 q0 q1 q2 q3 q4 q5 q6 q7 q8
            by_cases hj2 : j < perN r s (r.un)
            · have hin := perN_in hj2
              obtain ⟨rfl, rfl⟩ := hxy hin.2
              have hlen := span_len hr s0 s1 (n := j * r.ev) hn.1
              have hgr := span_grow hr s0 s1 (j * r.ev).toNat
              rw [show (((j * r.ev).toNat : Nat) : Int) = j * r.ev by omega] at hgr
              rw [decide_eq_true hin.2]
              obtain ⟨q0, q1, q2, q3, q4, q5, q6, q7, q8⟩ := HCR2.out
              have hin1 := hin.1
              go_wp2_with fail
              refine (specPeriod r m s _ _ w1 hr HM2.out hl0 hl1 hl2 hl3 HX.out s0 s1 (by omega) (by omega) (by omega) (by omega)).mono ?_
              rintro e w2 ⟨⟨v2, rfl, ov⟩, b2⟩
              have ov : OI w2 w1.heap.size v2 (chJ r s j) := ov
              have ovl := ov.lt
              have kol := KK1.1.lt
              obtain ⟨av, cv, rfl, iv, _, _⟩ := ov.val
              have KK2 := IL.on KK1 b2
              have HI2 : Hid (IsInts w2 av (chJ r s j)) := iv
              have HNE : Hid (∀ bl, av = some bl → bl.block < w2.heap.size ∧ ∀ k, u9.ownBlock = some k → k ≠ bl.block) := fun bl hbl => by
                subst hbl
                have h1 := ovl bl.block rfl
                exact ⟨h1.2, fun k hk => by have := (kol k hk).2; omega⟩
              have hll := chJ_len hr s0 s1 j
              have HK2 : Hid (IL W0 u9 (XF s (r.un) (AL r s j)) w2) := KK2
              have HCR3 : Hid (CB w2 w.heap.size r m) := HCR2.out.on (b2.block _ HCR2.out.lt)
              clear ov ovl kol iv KK1 KK2 b2 q0 q1 q2 q3 q4 q5 q6 q7 q8
              obtain ⟨wo, hwo⟩ : ∃ wo, wo = wr := ⟨_, rfl⟩
              subst hwo
              go_wp2
              go_loopw [9, 15] (fun v i wr => ∃ q : Nat, q ≤ (chJ r s j).length ∧ i = .int .i64 q ∧ IL W0 v (XF s (r.un) (AL r s j ++ (chJ r s j).take q)) wr ∧ ((XF s (r.un) (AL r s j ++ (chJ r s j).take q)).length : Int) ≤ (r.ct) ∧ IsInts wr av (chJ r s j) ∧ ∀ bl, av = some bl → bl.block < wr.heap.size ∧ ∀ k, v.ownBlock = some k → k ≠ bl.block) (fun _ i _ => (chJ r s j).length - (intOf i).toNat)
              case atStart => exact ⟨0, Nat.zero_le _, rfl, by rw [List.take_zero, List.append_nil]; exact HK2.out, by rw [List.take_zero, List.append_nil]; exact hlm, HI2.out, HNE.out⟩
              case round =>
                obtain ⟨q, hq, rfl, K3, hlm3, iv3, ne3⟩ := hrel
                have HCR4 : Hid (CB wr w.heap.size r m) := HCR.out.on (K3.2.block _ HCR.out.lt)
                obtain ⟨ao, co, hvo⟩ := K3.1.shape0
                subst hvo
                obtain ⟨X, hX⟩ : ∃ X, X = XF s (r.un) (AL r s j ++ (chJ r s j).take q) := ⟨_, rfl⟩
                rw [← hX] at K3 hlm3
                have HXX : Hid (X = XF s (r.un) (AL r s j ++ (chJ r s j).take q)) := hX
                by_cases hlt : q < (chJ r s j).length
                · obtain ⟨d, hd⟩ : ∃ d, d = gi (chJ r s j) q := ⟨_, rfl⟩
                  have HD : Hid (d = gi (chJ r s j) q) := hd
                  have hdm := choice_mem (show d ∈ chJ r s j by rw [hd]; exact gi_mem hlt)
                  have e0 : ∃ bL oL, av = some ⟨bL, oL, none⟩ ∧ bL < wr.heap.size ∧ wr.cell? ⟨bL, oL + q, none⟩ = some (.int .i64 d) := by
                    rcases iv3 with h | ⟨bL, oL, h1, h2, h3⟩
                    · rw [h] at hlt; simp at hlt
                    · exact ⟨bL, oL, h1, h2, by rw [hd]; exact h3 q hlt⟩
                  obtain ⟨bL, oL, hav, hbl, cL⟩ := e0
                  have HIV : Hid (IsInts wr av (chJ r s j)) := iv3
                  have HN3 : Hid (∀ bl, av = some bl → bl.block < wr.heap.size ∧ ∀ k, (Value.slice ao (XF s (r.un) (AL r s j ++ (chJ r s j).take q)).length co).ownBlock = some k → k ≠ bl.block) := ne3
                  rw [← hX] at HN3
                  rw [← hX]
                  subst hav
                  have hi1 : (q : Int) < ((chJ r s j).length : Int) := by omega
                  have hi0 : (0 : Int) ≤ (q : Int) := by omega
                  have HXN : Hid (XF s (r.un) (AL r s j ++ (chJ r s j).take (q + 1)) = XF s (r.un) ((AL r s j ++ (chJ r s j).take q) ++ [d])) := by unfold Hid; rw [take_snoc hlt, ← List.append_assoc, hd]
                  clear iv3 ne3 hd hX
                  by_cases hdt : (r.un) < d
                  · have HK3 : Hid (IL W0 (.slice ao X.length co) X wr) := K3
                    clear K3
                    go_wp2
                    go_ret
                    exact FIN.out _ X wr HK3.out (by rw [sp_stop hr s0 s1 hj2 hlt (by rw [← HD.out]; exact hdt), ← HXX.out, List.take_of_length_le (by omega)])
                  · by_cases hfull : (r.ct) ≤ (X.length : Int)
                    · have HK3 : Hid (IL W0 (.slice ao X.length co) X wr) := K3
                      clear K3
                      go_wp2
                      go_ret
                      exact FIN.out _ X wr HK3.out (by obtain ⟨Z, hZ⟩ := sp_split (T := r.un) hj2 hlt; rw [hZ, ← HXX.out, List.take_append, List.take_of_length_le (by omega), show (r.ct).toNat - X.length = 0 by omega, List.take_zero, List.append_nil])
                    · by_cases hds : s ≤ d
                      · have KK := K3
                        clear K3
                        go_wp2_with (first
                          | (at_builtin; refine wpList_append_at rfl _ _ 23 rfl W0.heap.size 3 i0 (.int .i64 0) 1 8 Tryd.underlying23 hi hz0 hz1 hz2 rfl (by decide) _ _ _ rfl (World.ownsRow.alloc KK.1 _) ⟨_, 0, none⟩ 1 1 [.int .i64 d] rfl rfl (cell_one_new _ _ _) (by simp [Value.oneCell']) (by decide) (by unfold maxLen; omega) (by omega) (by have := KK.2.size; simp; omega) ?_; intro v' w4 hown hgrow hat; have K4 := IL.app KK hown hgrow; clear hown))
                        go_roundw
                        case rel =>
                          refine ⟨q + 1, by omega, by go_num, by rw [HXN.out, XF_yes hds (by omega), ← HXX.out]; exact K4, by rw [HXN.out, XF_yes hds (by omega), ← HXX.out]; simp; omega, ?_, fun bl hbl => ?_⟩
                          · refine IsInts.same (HIV.out.below ((Below.refl _ wr).alloc (Nat.le_refl _) (.cells #[.int .i64 d] 3))) hgrow.size (fun _ x hx' => ?_)
                            exact hgrow.block _ (by have := (HN3.out x hx').1; simp; omega) (fun e => (HN3.out x hx').2 _ e.symm rfl)
                          · have h1 := HN3.out bl hbl
                            refine ⟨by have := hgrow.size; simp at this; omega, fun k hk => ?_⟩
                            rcases hat with h | h
                            · exact h1.2 k (by rw [show v'.ownBlock = (Value.slice ao X.length co).ownBlock from h] at hk; exact hk)
                            · rw [h] at hk; simp at hk; omega
                        case measure => simp [intOf]; omega
                      · have HK3 : Hid (IL W0 (.slice ao X.length co) X wr) := K3
                        clear K3
                        go_wp2
                        go_roundw
                        case rel => exact ⟨q + 1, by omega, by go_num, by rw [HXN.out, XF_no (by omega), ← HXX.out]; exact HK3.out, by rw [HXN.out, XF_no (by omega), ← HXX.out]; exact hlm3, HIV.out, HN3.out⟩
                        case measure => simp [intOf]; omega
                · have hqe : q = (chJ r s j).length := by omega
                  subst hqe
                  have HK3 : Hid (IL W0 (.slice ao X.length co) X wr) := K3
                  obtain ⟨b0, b1', b2', b3', b4', b5', b6', b7', b8'⟩ := HCR4.out
                  rw [← hX]
                  clear K3 iv3 ne3 hX
                  have e0' := hr.e0; have e1' := hr.e1
                  have STEP : Hid (Value.int .i64 ((j : Int) * r.ev + r.ev) = .int .i64 (((j + 1 : Nat) : Int) * r.ev)) := by
                    unfold Hid; rw [show (((j + 1 : Nat)) : Int) = (j : Int) + 1 by omega, Int.add_mul, Int.one_mul]
                  have MEAS : Hid (perN r s (r.un) * 100 + 1 - (intOf (.int .i64 ((j : Int) * r.ev + r.ev))).toNat < perN r s (r.un) * 100 + 1 - (intOf (.int .i64 ((j : Int) * r.ev))).toNat) := by
                    unfold Hid
                    have h5 : (j : Int) * r.ev ≤ (j : Int) * 100 := Int.mul_le_mul_of_nonneg_left e1' (by omega)
                    simp only [intOf]
                    omega
                  go_wp2
                  go_roundw
                  case rel => exact ⟨j + 1, by omega, STEP.out, by rw [AL_succ, ← List.take_length (l := chJ r s j), ← HXX.out]; exact HK3.out, by rw [AL_succ, ← List.take_length (l := chJ r s j), ← HXX.out]; exact hlm3⟩
                  case measure => exact MEAS.out
            · have hje : j = perN r s (r.un) := by omega
              have HK1 : Hid (IL W0 u9 (XF s (r.un) (AL r s j)) w1) := KK1
              have hout := perN_out hr (to := r.un) s0 s1
              rw [← hje] at hout
              have HFN : Hid ((comes r s (r.un)).take (r.ct).toNat = XF s (r.un) (AL r s j)) := by unfold Hid comes; rw [← hje, List.take_of_length_le (by omega)]
              clear hje
              by_cases hmx : spanF r s (j * r.ev) ≤ 3652058
              · obtain ⟨rfl, rfl⟩ := hxy hmx
                rw [decide_eq_true hmx]
                have hto : (r.un) < spanF r s (j * r.ev) := by omega
                clear hout hxy KK1
                go_wp2
                go_ret
                exact FIN.out _ _ w1 HK1.out HFN.out
              · rw [decide_eq_false hmx]
                clear hout hxy KK1
                go_wp2
                go_ret
                exact FIN.out _ _ w1 HK1.out HFN.out
        · skip
          have hT' : T = r.un := by rw [hT]; unfold limT; rw [if_pos ⟨hu1, hu2⟩]
          have hM' : Mo = most := by rw [hMo]; unfold mostT; rw [if_neg (fun h => hc2 h.2)]
          rw [hT', hM'] at FIN ⊢
          rw [hM'] at hMb
          clear hT' hM' hT hMo T Mo
          go_enter Tryd.func13, Tryd.ntmps13
          go_wp2
          rw [← HW0.out]
          go_loopw [9, 10] (fun v i wr => ∃ j : Nat, j ≤ perN r s (r.un) ∧ i = .int .i64 (j * r.ev) ∧ IL W0 v (XF s (r.un) (AL r s j)) wr ∧ ((XF s (r.un) (AL r s j)).length : Int) ≤ most) (fun _ i _ => perN r s (r.un) * 100 + 1 - (intOf i).toNat)
          case atStart => exact ⟨0, Nat.zero_le _, by simp, by have := K0.out; rw [HZ0.out] at this; exact this, by show (0 : Int) ≤ most; omega⟩
          case round =>
            obtain ⟨j, hj, rfl, K1, hlm⟩ := hrel
            have hb : Below W0.heap.size W0 wr := K1.2
            obtain ⟨q0, q1, q2, q3, q4, q5, q6, q7, q8⟩ := HCR.out.on (hb.block _ HCR.out.lt)
            have hn := per_n hr hj
            have HM1 : Hid (RMem wr r m) := HM.out.below hb
            have HCR1 : Hid (CB wr w.heap.size r m) := HCR.out.on (hb.block _ HCR.out.lt)
            clear hb
            go_wp2_with fail
            refine (specSpan r m s _ wr hr s0 s1 hn.1 (by omega)).mono ?_
            rintro e w1 ⟨⟨x, y, rfl, hxy⟩, b1⟩
            have KK1 := IL.on K1 b1
            have HM2 : Hid (RMem w1 r m) := HM1.out.below b1
            have HCR2 : Hid (CB w1 w.heap.size r m) := HCR1.out.on (b1.block _ HCR1.out.lt)
            clear K1 b1 q0 q1 q2 q3 q4 q5 q6 q7 q8
            by_cases hj2 : j < perN r s (r.un)
            · have hin := perN_in hj2
              obtain ⟨rfl, rfl⟩ := hxy hin.2
              have hlen := span_len hr s0 s1 (n := j * r.ev) hn.1
              have hgr := span_grow hr s0 s1 (j * r.ev).toNat
              rw [show (((j * r.ev).toNat : Nat) : Int) = j * r.ev by omega] at hgr
              rw [decide_eq_true hin.2]
              obtain ⟨q0, q1, q2, q3, q4, q5, q6, q7, q8⟩ := HCR2.out
              have hin1 := hin.1
              go_wp2_with fail
              refine (specPeriod r m s _ _ w1 hr HM2.out hl0 hl1 hl2 hl3 HX.out s0 s1 (by omega) (by omega) (by omega) (by omega)).mono ?_
              rintro e w2 ⟨⟨v2, rfl, ov⟩, b2⟩
              have ov : OI w2 w1.heap.size v2 (chJ r s j) := ov
              have ovl := ov.lt
              have kol := KK1.1.lt
              obtain ⟨av, cv, rfl, iv, _, _⟩ := ov.val
              have KK2 := IL.on KK1 b2
              have HI2 : Hid (IsInts w2 av (chJ r s j)) := iv
              have HNE : Hid (∀ bl, av = some bl → bl.block < w2.heap.size ∧ ∀ k, u9.ownBlock = some k → k ≠ bl.block) := fun bl hbl => by
                subst hbl
                have h1 := ovl bl.block rfl
                exact ⟨h1.2, fun k hk => by have := (kol k hk).2; omega⟩
              have hll := chJ_len hr s0 s1 j
              have HK2 : Hid (IL W0 u9 (XF s (r.un) (AL r s j)) w2) := KK2
              have HCR3 : Hid (CB w2 w.heap.size r m) := HCR2.out.on (b2.block _ HCR2.out.lt)
              clear ov ovl kol iv KK1 KK2 b2 q0 q1 q2 q3 q4 q5 q6 q7 q8
              obtain ⟨wo, hwo⟩ : ∃ wo, wo = wr := ⟨_, rfl⟩
              subst hwo
              go_wp2
              go_loopw [9, 15] (fun v i wr => ∃ q : Nat, q ≤ (chJ r s j).length ∧ i = .int .i64 q ∧ IL W0 v (XF s (r.un) (AL r s j ++ (chJ r s j).take q)) wr ∧ ((XF s (r.un) (AL r s j ++ (chJ r s j).take q)).length : Int) ≤ most ∧ IsInts wr av (chJ r s j) ∧ ∀ bl, av = some bl → bl.block < wr.heap.size ∧ ∀ k, v.ownBlock = some k → k ≠ bl.block) (fun _ i _ => (chJ r s j).length - (intOf i).toNat)
              case atStart => exact ⟨0, Nat.zero_le _, rfl, by rw [List.take_zero, List.append_nil]; exact HK2.out, by rw [List.take_zero, List.append_nil]; exact hlm, HI2.out, HNE.out⟩
              case round =>
                obtain ⟨q, hq, rfl, K3, hlm3, iv3, ne3⟩ := hrel
                have HCR4 : Hid (CB wr w.heap.size r m) := HCR.out.on (K3.2.block _ HCR.out.lt)
                obtain ⟨ao, co, hvo⟩ := K3.1.shape0
                subst hvo
                obtain ⟨X, hX⟩ : ∃ X, X = XF s (r.un) (AL r s j ++ (chJ r s j).take q) := ⟨_, rfl⟩
                rw [← hX] at K3 hlm3
                have HXX : Hid (X = XF s (r.un) (AL r s j ++ (chJ r s j).take q)) := hX
                by_cases hlt : q < (chJ r s j).length
                · obtain ⟨d, hd⟩ : ∃ d, d = gi (chJ r s j) q := ⟨_, rfl⟩
                  have HD : Hid (d = gi (chJ r s j) q) := hd
                  have hdm := choice_mem (show d ∈ chJ r s j by rw [hd]; exact gi_mem hlt)
                  have e0 : ∃ bL oL, av = some ⟨bL, oL, none⟩ ∧ bL < wr.heap.size ∧ wr.cell? ⟨bL, oL + q, none⟩ = some (.int .i64 d) := by
                    rcases iv3 with h | ⟨bL, oL, h1, h2, h3⟩
                    · rw [h] at hlt; simp at hlt
                    · exact ⟨bL, oL, h1, h2, by rw [hd]; exact h3 q hlt⟩
                  obtain ⟨bL, oL, hav, hbl, cL⟩ := e0
                  have HIV : Hid (IsInts wr av (chJ r s j)) := iv3
                  have HN3 : Hid (∀ bl, av = some bl → bl.block < wr.heap.size ∧ ∀ k, (Value.slice ao (XF s (r.un) (AL r s j ++ (chJ r s j).take q)).length co).ownBlock = some k → k ≠ bl.block) := ne3
                  rw [← hX] at HN3
                  rw [← hX]
                  subst hav
                  have hi1 : (q : Int) < ((chJ r s j).length : Int) := by omega
                  have hi0 : (0 : Int) ≤ (q : Int) := by omega
                  have HXN : Hid (XF s (r.un) (AL r s j ++ (chJ r s j).take (q + 1)) = XF s (r.un) ((AL r s j ++ (chJ r s j).take q) ++ [d])) := by unfold Hid; rw [take_snoc hlt, ← List.append_assoc, hd]
                  clear iv3 ne3 hd hX
                  by_cases hdt : (r.un) < d
                  · have HK3 : Hid (IL W0 (.slice ao X.length co) X wr) := K3
                    clear K3
                    go_wp2
                    go_ret
                    exact FIN.out _ X wr HK3.out (by rw [sp_stop hr s0 s1 hj2 hlt (by rw [← HD.out]; exact hdt), ← HXX.out, List.take_of_length_le (by omega)])
                  · by_cases hfull : most ≤ (X.length : Int)
                    · have HK3 : Hid (IL W0 (.slice ao X.length co) X wr) := K3
                      clear K3
                      go_wp2
                      go_ret
                      exact FIN.out _ X wr HK3.out (by obtain ⟨Z, hZ⟩ := sp_split (T := r.un) hj2 hlt; rw [hZ, ← HXX.out, List.take_append, List.take_of_length_le (by omega), show most.toNat - X.length = 0 by omega, List.take_zero, List.append_nil])
                    · by_cases hds : s ≤ d
                      · have KK := K3
                        clear K3
                        go_wp2_with (first
                          | (at_builtin; refine wpList_append_at rfl _ _ 23 rfl W0.heap.size 3 i0 (.int .i64 0) 1 8 Tryd.underlying23 hi hz0 hz1 hz2 rfl (by decide) _ _ _ rfl (World.ownsRow.alloc KK.1 _) ⟨_, 0, none⟩ 1 1 [.int .i64 d] rfl rfl (cell_one_new _ _ _) (by simp [Value.oneCell']) (by decide) (by unfold maxLen; omega) (by omega) (by have := KK.2.size; simp; omega) ?_; intro v' w4 hown hgrow hat; have K4 := IL.app KK hown hgrow; clear hown))
                        go_roundw
                        case rel =>
                          refine ⟨q + 1, by omega, by go_num, by rw [HXN.out, XF_yes hds (by omega), ← HXX.out]; exact K4, by rw [HXN.out, XF_yes hds (by omega), ← HXX.out]; simp; omega, ?_, fun bl hbl => ?_⟩
                          · refine IsInts.same (HIV.out.below ((Below.refl _ wr).alloc (Nat.le_refl _) (.cells #[.int .i64 d] 3))) hgrow.size (fun _ x hx' => ?_)
                            exact hgrow.block _ (by have := (HN3.out x hx').1; simp; omega) (fun e => (HN3.out x hx').2 _ e.symm rfl)
                          · have h1 := HN3.out bl hbl
                            refine ⟨by have := hgrow.size; simp at this; omega, fun k hk => ?_⟩
                            rcases hat with h | h
                            · exact h1.2 k (by rw [show v'.ownBlock = (Value.slice ao X.length co).ownBlock from h] at hk; exact hk)
                            · rw [h] at hk; simp at hk; omega
                        case measure => simp [intOf]; omega
                      · have HK3 : Hid (IL W0 (.slice ao X.length co) X wr) := K3
                        clear K3
                        go_wp2
                        go_roundw
                        case rel => exact ⟨q + 1, by omega, by go_num, by rw [HXN.out, XF_no (by omega), ← HXX.out]; exact HK3.out, by rw [HXN.out, XF_no (by omega), ← HXX.out]; exact hlm3, HIV.out, HN3.out⟩
                        case measure => simp [intOf]; omega
                · have hqe : q = (chJ r s j).length := by omega
                  subst hqe
                  have HK3 : Hid (IL W0 (.slice ao X.length co) X wr) := K3
                  obtain ⟨b0, b1', b2', b3', b4', b5', b6', b7', b8'⟩ := HCR4.out
                  rw [← hX]
                  clear K3 iv3 ne3 hX
                  have e0' := hr.e0; have e1' := hr.e1
                  have STEP : Hid (Value.int .i64 ((j : Int) * r.ev + r.ev) = .int .i64 (((j + 1 : Nat) : Int) * r.ev)) := by
                    unfold Hid; rw [show (((j + 1 : Nat)) : Int) = (j : Int) + 1 by omega, Int.add_mul, Int.one_mul]
                  have MEAS : Hid (perN r s (r.un) * 100 + 1 - (intOf (.int .i64 ((j : Int) * r.ev + r.ev))).toNat < perN r s (r.un) * 100 + 1 - (intOf (.int .i64 ((j : Int) * r.ev))).toNat) := by
                    unfold Hid
                    have h5 : (j : Int) * r.ev ≤ (j : Int) * 100 := Int.mul_le_mul_of_nonneg_left e1' (by omega)
                    simp only [intOf]
                    omega
                  go_wp2
                  go_roundw
                  case rel => exact ⟨j + 1, by omega, STEP.out, by rw [AL_succ, ← List.take_length (l := chJ r s j), ← HXX.out]; exact HK3.out, by rw [AL_succ, ← List.take_length (l := chJ r s j), ← HXX.out]; exact hlm3⟩
                  case measure => exact MEAS.out
            · have hje : j = perN r s (r.un) := by omega
              have HK1 : Hid (IL W0 u9 (XF s (r.un) (AL r s j)) w1) := KK1
              have hout := perN_out hr (to := r.un) s0 s1
              rw [← hje] at hout
              have HFN : Hid ((comes r s (r.un)).take most.toNat = XF s (r.un) (AL r s j)) := by unfold Hid comes; rw [← hje, List.take_of_length_le (by omega)]
              clear hje
              by_cases hmx : spanF r s (j * r.ev) ≤ 3652058
              · obtain ⟨rfl, rfl⟩ := hxy hmx
                rw [decide_eq_true hmx]
                have hto : (r.un) < spanF r s (j * r.ev) := by omega
                clear hout hxy KK1
                go_wp2
                go_ret
                exact FIN.out _ _ w1 HK1.out HFN.out
              · rw [decide_eq_false hmx]
                clear hout hxy KK1
                go_wp2
                go_ret
                exact FIN.out _ _ w1 HK1.out HFN.out
      · skip
        have hT' : T = r.un := by rw [hT]; unfold limT; rw [if_pos ⟨hu1, hu2⟩]
        have hM' : Mo = most := by rw [hMo]; unfold mostT; rw [if_neg (fun h => hc1 h.1)]
        rw [hT', hM'] at FIN ⊢
        rw [hM'] at hMb
        clear hT' hM' hT hMo T Mo
        go_enter Tryd.func13, Tryd.ntmps13
        go_wp2
        rw [← HW0.out]
        go_loopw [9, 10] (fun v i wr => ∃ j : Nat, j ≤ perN r s (r.un) ∧ i = .int .i64 (j * r.ev) ∧ IL W0 v (XF s (r.un) (AL r s j)) wr ∧ ((XF s (r.un) (AL r s j)).length : Int) ≤ most) (fun _ i _ => perN r s (r.un) * 100 + 1 - (intOf i).toNat)
        case atStart => exact ⟨0, Nat.zero_le _, by simp, by have := K0.out; rw [HZ0.out] at this; exact this, by show (0 : Int) ≤ most; omega⟩
        case round =>
          obtain ⟨j, hj, rfl, K1, hlm⟩ := hrel
          have hb : Below W0.heap.size W0 wr := K1.2
          obtain ⟨q0, q1, q2, q3, q4, q5, q6, q7, q8⟩ := HCR.out.on (hb.block _ HCR.out.lt)
          have hn := per_n hr hj
          have HM1 : Hid (RMem wr r m) := HM.out.below hb
          have HCR1 : Hid (CB wr w.heap.size r m) := HCR.out.on (hb.block _ HCR.out.lt)
          clear hb
          go_wp2_with fail
          refine (specSpan r m s _ wr hr s0 s1 hn.1 (by omega)).mono ?_
          rintro e w1 ⟨⟨x, y, rfl, hxy⟩, b1⟩
          have KK1 := IL.on K1 b1
          have HM2 : Hid (RMem w1 r m) := HM1.out.below b1
          have HCR2 : Hid (CB w1 w.heap.size r m) := HCR1.out.on (b1.block _ HCR1.out.lt)
          clear K1 b1 q0 q1 q2 q3 q4 q5 q6 q7 q8
          by_cases hj2 : j < perN r s (r.un)
          · have hin := perN_in hj2
            obtain ⟨rfl, rfl⟩ := hxy hin.2
            have hlen := span_len hr s0 s1 (n := j * r.ev) hn.1
            have hgr := span_grow hr s0 s1 (j * r.ev).toNat
            rw [show (((j * r.ev).toNat : Nat) : Int) = j * r.ev by omega] at hgr
            rw [decide_eq_true hin.2]
            obtain ⟨q0, q1, q2, q3, q4, q5, q6, q7, q8⟩ := HCR2.out
            have hin1 := hin.1
            go_wp2_with fail
            refine (specPeriod r m s _ _ w1 hr HM2.out hl0 hl1 hl2 hl3 HX.out s0 s1 (by omega) (by omega) (by omega) (by omega)).mono ?_
            rintro e w2 ⟨⟨v2, rfl, ov⟩, b2⟩
            have ov : OI w2 w1.heap.size v2 (chJ r s j) := ov
            have ovl := ov.lt
            have kol := KK1.1.lt
            obtain ⟨av, cv, rfl, iv, _, _⟩ := ov.val
            have KK2 := IL.on KK1 b2
            have HI2 : Hid (IsInts w2 av (chJ r s j)) := iv
            have HNE : Hid (∀ bl, av = some bl → bl.block < w2.heap.size ∧ ∀ k, u9.ownBlock = some k → k ≠ bl.block) := fun bl hbl => by
              subst hbl
              have h1 := ovl bl.block rfl
              exact ⟨h1.2, fun k hk => by have := (kol k hk).2; omega⟩
            have hll := chJ_len hr s0 s1 j
            have HK2 : Hid (IL W0 u9 (XF s (r.un) (AL r s j)) w2) := KK2
            have HCR3 : Hid (CB w2 w.heap.size r m) := HCR2.out.on (b2.block _ HCR2.out.lt)
            clear ov ovl kol iv KK1 KK2 b2 q0 q1 q2 q3 q4 q5 q6 q7 q8
            obtain ⟨wo, hwo⟩ : ∃ wo, wo = wr := ⟨_, rfl⟩
            subst hwo
            go_wp2
            go_loopw [9, 15] (fun v i wr => ∃ q : Nat, q ≤ (chJ r s j).length ∧ i = .int .i64 q ∧ IL W0 v (XF s (r.un) (AL r s j ++ (chJ r s j).take q)) wr ∧ ((XF s (r.un) (AL r s j ++ (chJ r s j).take q)).length : Int) ≤ most ∧ IsInts wr av (chJ r s j) ∧ ∀ bl, av = some bl → bl.block < wr.heap.size ∧ ∀ k, v.ownBlock = some k → k ≠ bl.block) (fun _ i _ => (chJ r s j).length - (intOf i).toNat)
            case atStart => exact ⟨0, Nat.zero_le _, rfl, by rw [List.take_zero, List.append_nil]; exact HK2.out, by rw [List.take_zero, List.append_nil]; exact hlm, HI2.out, HNE.out⟩
            case round =>
              obtain ⟨q, hq, rfl, K3, hlm3, iv3, ne3⟩ := hrel
              have HCR4 : Hid (CB wr w.heap.size r m) := HCR.out.on (K3.2.block _ HCR.out.lt)
              obtain ⟨ao, co, hvo⟩ := K3.1.shape0
              subst hvo
              obtain ⟨X, hX⟩ : ∃ X, X = XF s (r.un) (AL r s j ++ (chJ r s j).take q) := ⟨_, rfl⟩
              rw [← hX] at K3 hlm3
              have HXX : Hid (X = XF s (r.un) (AL r s j ++ (chJ r s j).take q)) := hX
              by_cases hlt : q < (chJ r s j).length
              · obtain ⟨d, hd⟩ : ∃ d, d = gi (chJ r s j) q := ⟨_, rfl⟩
                have HD : Hid (d = gi (chJ r s j) q) := hd
                have hdm := choice_mem (show d ∈ chJ r s j by rw [hd]; exact gi_mem hlt)
                have e0 : ∃ bL oL, av = some ⟨bL, oL, none⟩ ∧ bL < wr.heap.size ∧ wr.cell? ⟨bL, oL + q, none⟩ = some (.int .i64 d) := by
                  rcases iv3 with h | ⟨bL, oL, h1, h2, h3⟩
                  · rw [h] at hlt; simp at hlt
                  · exact ⟨bL, oL, h1, h2, by rw [hd]; exact h3 q hlt⟩
                obtain ⟨bL, oL, hav, hbl, cL⟩ := e0
                have HIV : Hid (IsInts wr av (chJ r s j)) := iv3
                have HN3 : Hid (∀ bl, av = some bl → bl.block < wr.heap.size ∧ ∀ k, (Value.slice ao (XF s (r.un) (AL r s j ++ (chJ r s j).take q)).length co).ownBlock = some k → k ≠ bl.block) := ne3
                rw [← hX] at HN3
                rw [← hX]
                subst hav
                have hi1 : (q : Int) < ((chJ r s j).length : Int) := by omega
                have hi0 : (0 : Int) ≤ (q : Int) := by omega
                have HXN : Hid (XF s (r.un) (AL r s j ++ (chJ r s j).take (q + 1)) = XF s (r.un) ((AL r s j ++ (chJ r s j).take q) ++ [d])) := by unfold Hid; rw [take_snoc hlt, ← List.append_assoc, hd]
                clear iv3 ne3 hd hX
                by_cases hdt : (r.un) < d
                · have HK3 : Hid (IL W0 (.slice ao X.length co) X wr) := K3
                  clear K3
                  go_wp2
                  go_ret
                  exact FIN.out _ X wr HK3.out (by rw [sp_stop hr s0 s1 hj2 hlt (by rw [← HD.out]; exact hdt), ← HXX.out, List.take_of_length_le (by omega)])
                · by_cases hfull : most ≤ (X.length : Int)
                  · have HK3 : Hid (IL W0 (.slice ao X.length co) X wr) := K3
                    clear K3
                    go_wp2
                    go_ret
                    exact FIN.out _ X wr HK3.out (by obtain ⟨Z, hZ⟩ := sp_split (T := r.un) hj2 hlt; rw [hZ, ← HXX.out, List.take_append, List.take_of_length_le (by omega), show most.toNat - X.length = 0 by omega, List.take_zero, List.append_nil])
                  · by_cases hds : s ≤ d
                    · have KK := K3
                      clear K3
                      go_wp2_with (first
                        | (at_builtin; refine wpList_append_at rfl _ _ 23 rfl W0.heap.size 3 i0 (.int .i64 0) 1 8 Tryd.underlying23 hi hz0 hz1 hz2 rfl (by decide) _ _ _ rfl (World.ownsRow.alloc KK.1 _) ⟨_, 0, none⟩ 1 1 [.int .i64 d] rfl rfl (cell_one_new _ _ _) (by simp [Value.oneCell']) (by decide) (by unfold maxLen; omega) (by omega) (by have := KK.2.size; simp; omega) ?_; intro v' w4 hown hgrow hat; have K4 := IL.app KK hown hgrow; clear hown))
                      go_roundw
                      case rel =>
                        refine ⟨q + 1, by omega, by go_num, by rw [HXN.out, XF_yes hds (by omega), ← HXX.out]; exact K4, by rw [HXN.out, XF_yes hds (by omega), ← HXX.out]; simp; omega, ?_, fun bl hbl => ?_⟩
                        · refine IsInts.same (HIV.out.below ((Below.refl _ wr).alloc (Nat.le_refl _) (.cells #[.int .i64 d] 3))) hgrow.size (fun _ x hx' => ?_)
                          exact hgrow.block _ (by have := (HN3.out x hx').1; simp; omega) (fun e => (HN3.out x hx').2 _ e.symm rfl)
                        · have h1 := HN3.out bl hbl
                          refine ⟨by have := hgrow.size; simp at this; omega, fun k hk => ?_⟩
                          rcases hat with h | h
                          · exact h1.2 k (by rw [show v'.ownBlock = (Value.slice ao X.length co).ownBlock from h] at hk; exact hk)
                          · rw [h] at hk; simp at hk; omega
                      case measure => simp [intOf]; omega
                    · have HK3 : Hid (IL W0 (.slice ao X.length co) X wr) := K3
                      clear K3
                      go_wp2
                      go_roundw
                      case rel => exact ⟨q + 1, by omega, by go_num, by rw [HXN.out, XF_no (by omega), ← HXX.out]; exact HK3.out, by rw [HXN.out, XF_no (by omega), ← HXX.out]; exact hlm3, HIV.out, HN3.out⟩
                      case measure => simp [intOf]; omega
              · have hqe : q = (chJ r s j).length := by omega
                subst hqe
                have HK3 : Hid (IL W0 (.slice ao X.length co) X wr) := K3
                obtain ⟨b0, b1', b2', b3', b4', b5', b6', b7', b8'⟩ := HCR4.out
                rw [← hX]
                clear K3 iv3 ne3 hX
                have e0' := hr.e0; have e1' := hr.e1
                have STEP : Hid (Value.int .i64 ((j : Int) * r.ev + r.ev) = .int .i64 (((j + 1 : Nat) : Int) * r.ev)) := by
                  unfold Hid; rw [show (((j + 1 : Nat)) : Int) = (j : Int) + 1 by omega, Int.add_mul, Int.one_mul]
                have MEAS : Hid (perN r s (r.un) * 100 + 1 - (intOf (.int .i64 ((j : Int) * r.ev + r.ev))).toNat < perN r s (r.un) * 100 + 1 - (intOf (.int .i64 ((j : Int) * r.ev))).toNat) := by
                  unfold Hid
                  have h5 : (j : Int) * r.ev ≤ (j : Int) * 100 := Int.mul_le_mul_of_nonneg_left e1' (by omega)
                  simp only [intOf]
                  omega
                go_wp2
                go_roundw
                case rel => exact ⟨j + 1, by omega, STEP.out, by rw [AL_succ, ← List.take_length (l := chJ r s j), ← HXX.out]; exact HK3.out, by rw [AL_succ, ← List.take_length (l := chJ r s j), ← HXX.out]; exact hlm3⟩
                case measure => exact MEAS.out
          · have hje : j = perN r s (r.un) := by omega
            have HK1 : Hid (IL W0 u9 (XF s (r.un) (AL r s j)) w1) := KK1
            have hout := perN_out hr (to := r.un) s0 s1
            rw [← hje] at hout
            have HFN : Hid ((comes r s (r.un)).take most.toNat = XF s (r.un) (AL r s j)) := by unfold Hid comes; rw [← hje, List.take_of_length_le (by omega)]
            clear hje
            by_cases hmx : spanF r s (j * r.ev) ≤ 3652058
            · obtain ⟨rfl, rfl⟩ := hxy hmx
              rw [decide_eq_true hmx]
              have hto : (r.un) < spanF r s (j * r.ev) := by omega
              clear hout hxy KK1
              go_wp2
              go_ret
              exact FIN.out _ _ w1 HK1.out HFN.out
            · rw [decide_eq_false hmx]
              clear hout hxy KK1
              go_wp2
              go_ret
              exact FIN.out _ _ w1 HK1.out HFN.out
    · skip
      by_cases hc1 : 0 < r.ct
      · by_cases hc2 : r.ct < most
        · skip
          have hT' : T = te := by rw [hT]; unfold limT; rw [if_neg (fun h => hu2 h.2)]
          have hM' : Mo = r.ct := by rw [hMo]; unfold mostT; rw [if_pos ⟨hc1, hc2⟩]
          rw [hT', hM'] at FIN ⊢
          rw [hM'] at hMb
          clear hT' hM' hT hMo T Mo
          go_enter Tryd.func13, Tryd.ntmps13
          go_wp2
          rw [← HW0.out]
          go_loopw [9, 10] (fun v i wr => ∃ j : Nat, j ≤ perN r s te ∧ i = .int .i64 (j * r.ev) ∧ IL W0 v (XF s te (AL r s j)) wr ∧ ((XF s te (AL r s j)).length : Int) ≤ (r.ct)) (fun _ i _ => perN r s te * 100 + 1 - (intOf i).toNat)
          case atStart => exact ⟨0, Nat.zero_le _, by simp, by have := K0.out; rw [HZ0.out] at this; exact this, by show (0 : Int) ≤ (r.ct); omega⟩
          case round =>
            obtain ⟨j, hj, rfl, K1, hlm⟩ := hrel
            have hb : Below W0.heap.size W0 wr := K1.2
            obtain ⟨q0, q1, q2, q3, q4, q5, q6, q7, q8⟩ := HCR.out.on (hb.block _ HCR.out.lt)
            have hn := per_n hr hj
            have HM1 : Hid (RMem wr r m) := HM.out.below hb
            have HCR1 : Hid (CB wr w.heap.size r m) := HCR.out.on (hb.block _ HCR.out.lt)
            clear hb
            go_wp2_with fail
            refine (specSpan r m s _ wr hr s0 s1 hn.1 (by omega)).mono ?_
            rintro e w1 ⟨⟨x, y, rfl, hxy⟩, b1⟩
            have KK1 := IL.on K1 b1
            have HM2 : Hid (RMem w1 r m) := HM1.out.below b1
            have HCR2 : Hid (CB w1 w.heap.size r m) := HCR1.out.on (b1.block _ HCR1.out.lt)
            clear K1 b1 q0 q1 q2 q3 q4 q5 q6 q7 q8
            by_cases hj2 : j < perN r s te
            · have hin := perN_in hj2
              obtain ⟨rfl, rfl⟩ := hxy hin.2
              have hlen := span_len hr s0 s1 (n := j * r.ev) hn.1
              have hgr := span_grow hr s0 s1 (j * r.ev).toNat
              rw [show (((j * r.ev).toNat : Nat) : Int) = j * r.ev by omega] at hgr
              rw [decide_eq_true hin.2]
              obtain ⟨q0, q1, q2, q3, q4, q5, q6, q7, q8⟩ := HCR2.out
              have hin1 := hin.1
              go_wp2_with fail
              refine (specPeriod r m s _ _ w1 hr HM2.out hl0 hl1 hl2 hl3 HX.out s0 s1 (by omega) (by omega) (by omega) (by omega)).mono ?_
              rintro e w2 ⟨⟨v2, rfl, ov⟩, b2⟩
              have ov : OI w2 w1.heap.size v2 (chJ r s j) := ov
              have ovl := ov.lt
              have kol := KK1.1.lt
              obtain ⟨av, cv, rfl, iv, _, _⟩ := ov.val
              have KK2 := IL.on KK1 b2
              have HI2 : Hid (IsInts w2 av (chJ r s j)) := iv
              have HNE : Hid (∀ bl, av = some bl → bl.block < w2.heap.size ∧ ∀ k, u9.ownBlock = some k → k ≠ bl.block) := fun bl hbl => by
                subst hbl
                have h1 := ovl bl.block rfl
                exact ⟨h1.2, fun k hk => by have := (kol k hk).2; omega⟩
              have hll := chJ_len hr s0 s1 j
              have HK2 : Hid (IL W0 u9 (XF s te (AL r s j)) w2) := KK2
              have HCR3 : Hid (CB w2 w.heap.size r m) := HCR2.out.on (b2.block _ HCR2.out.lt)
              clear ov ovl kol iv KK1 KK2 b2 q0 q1 q2 q3 q4 q5 q6 q7 q8
              obtain ⟨wo, hwo⟩ : ∃ wo, wo = wr := ⟨_, rfl⟩
              subst hwo
              go_wp2
              go_loopw [9, 15] (fun v i wr => ∃ q : Nat, q ≤ (chJ r s j).length ∧ i = .int .i64 q ∧ IL W0 v (XF s te (AL r s j ++ (chJ r s j).take q)) wr ∧ ((XF s te (AL r s j ++ (chJ r s j).take q)).length : Int) ≤ (r.ct) ∧ IsInts wr av (chJ r s j) ∧ ∀ bl, av = some bl → bl.block < wr.heap.size ∧ ∀ k, v.ownBlock = some k → k ≠ bl.block) (fun _ i _ => (chJ r s j).length - (intOf i).toNat)
              case atStart => exact ⟨0, Nat.zero_le _, rfl, by rw [List.take_zero, List.append_nil]; exact HK2.out, by rw [List.take_zero, List.append_nil]; exact hlm, HI2.out, HNE.out⟩
              case round =>
                obtain ⟨q, hq, rfl, K3, hlm3, iv3, ne3⟩ := hrel
                have HCR4 : Hid (CB wr w.heap.size r m) := HCR.out.on (K3.2.block _ HCR.out.lt)
                obtain ⟨ao, co, hvo⟩ := K3.1.shape0
                subst hvo
                obtain ⟨X, hX⟩ : ∃ X, X = XF s te (AL r s j ++ (chJ r s j).take q) := ⟨_, rfl⟩
                rw [← hX] at K3 hlm3
                have HXX : Hid (X = XF s te (AL r s j ++ (chJ r s j).take q)) := hX
                by_cases hlt : q < (chJ r s j).length
                · obtain ⟨d, hd⟩ : ∃ d, d = gi (chJ r s j) q := ⟨_, rfl⟩
                  have HD : Hid (d = gi (chJ r s j) q) := hd
                  have hdm := choice_mem (show d ∈ chJ r s j by rw [hd]; exact gi_mem hlt)
                  have e0 : ∃ bL oL, av = some ⟨bL, oL, none⟩ ∧ bL < wr.heap.size ∧ wr.cell? ⟨bL, oL + q, none⟩ = some (.int .i64 d) := by
                    rcases iv3 with h | ⟨bL, oL, h1, h2, h3⟩
                    · rw [h] at hlt; simp at hlt
                    · exact ⟨bL, oL, h1, h2, by rw [hd]; exact h3 q hlt⟩
                  obtain ⟨bL, oL, hav, hbl, cL⟩ := e0
                  have HIV : Hid (IsInts wr av (chJ r s j)) := iv3
                  have HN3 : Hid (∀ bl, av = some bl → bl.block < wr.heap.size ∧ ∀ k, (Value.slice ao (XF s te (AL r s j ++ (chJ r s j).take q)).length co).ownBlock = some k → k ≠ bl.block) := ne3
                  rw [← hX] at HN3
                  rw [← hX]
                  subst hav
                  have hi1 : (q : Int) < ((chJ r s j).length : Int) := by omega
                  have hi0 : (0 : Int) ≤ (q : Int) := by omega
                  have HXN : Hid (XF s te (AL r s j ++ (chJ r s j).take (q + 1)) = XF s te ((AL r s j ++ (chJ r s j).take q) ++ [d])) := by unfold Hid; rw [take_snoc hlt, ← List.append_assoc, hd]
                  clear iv3 ne3 hd hX
                  by_cases hdt : te < d
                  · have HK3 : Hid (IL W0 (.slice ao X.length co) X wr) := K3
                    clear K3
                    go_wp2
                    go_ret
                    exact FIN.out _ X wr HK3.out (by rw [sp_stop hr s0 s1 hj2 hlt (by rw [← HD.out]; exact hdt), ← HXX.out, List.take_of_length_le (by omega)])
                  · by_cases hfull : (r.ct) ≤ (X.length : Int)
                    · have HK3 : Hid (IL W0 (.slice ao X.length co) X wr) := K3
                      clear K3
                      go_wp2
                      go_ret
                      exact FIN.out _ X wr HK3.out (by obtain ⟨Z, hZ⟩ := sp_split (T := te) hj2 hlt; rw [hZ, ← HXX.out, List.take_append, List.take_of_length_le (by omega), show (r.ct).toNat - X.length = 0 by omega, List.take_zero, List.append_nil])
                    · by_cases hds : s ≤ d
                      · have KK := K3
                        clear K3
                        go_wp2_with (first
                          | (at_builtin; refine wpList_append_at rfl _ _ 23 rfl W0.heap.size 3 i0 (.int .i64 0) 1 8 Tryd.underlying23 hi hz0 hz1 hz2 rfl (by decide) _ _ _ rfl (World.ownsRow.alloc KK.1 _) ⟨_, 0, none⟩ 1 1 [.int .i64 d] rfl rfl (cell_one_new _ _ _) (by simp [Value.oneCell']) (by decide) (by unfold maxLen; omega) (by omega) (by have := KK.2.size; simp; omega) ?_; intro v' w4 hown hgrow hat; have K4 := IL.app KK hown hgrow; clear hown))
                        go_roundw
                        case rel =>
                          refine ⟨q + 1, by omega, by go_num, by rw [HXN.out, XF_yes hds (by omega), ← HXX.out]; exact K4, by rw [HXN.out, XF_yes hds (by omega), ← HXX.out]; simp; omega, ?_, fun bl hbl => ?_⟩
                          · refine IsInts.same (HIV.out.below ((Below.refl _ wr).alloc (Nat.le_refl _) (.cells #[.int .i64 d] 3))) hgrow.size (fun _ x hx' => ?_)
                            exact hgrow.block _ (by have := (HN3.out x hx').1; simp; omega) (fun e => (HN3.out x hx').2 _ e.symm rfl)
                          · have h1 := HN3.out bl hbl
                            refine ⟨by have := hgrow.size; simp at this; omega, fun k hk => ?_⟩
                            rcases hat with h | h
                            · exact h1.2 k (by rw [show v'.ownBlock = (Value.slice ao X.length co).ownBlock from h] at hk; exact hk)
                            · rw [h] at hk; simp at hk; omega
                        case measure => simp [intOf]; omega
                      · have HK3 : Hid (IL W0 (.slice ao X.length co) X wr) := K3
                        clear K3
                        go_wp2
                        go_roundw
                        case rel => exact ⟨q + 1, by omega, by go_num, by rw [HXN.out, XF_no (by omega), ← HXX.out]; exact HK3.out, by rw [HXN.out, XF_no (by omega), ← HXX.out]; exact hlm3, HIV.out, HN3.out⟩
                        case measure => simp [intOf]; omega
                · have hqe : q = (chJ r s j).length := by omega
                  subst hqe
                  have HK3 : Hid (IL W0 (.slice ao X.length co) X wr) := K3
                  obtain ⟨b0, b1', b2', b3', b4', b5', b6', b7', b8'⟩ := HCR4.out
                  rw [← hX]
                  clear K3 iv3 ne3 hX
                  have e0' := hr.e0; have e1' := hr.e1
                  have STEP : Hid (Value.int .i64 ((j : Int) * r.ev + r.ev) = .int .i64 (((j + 1 : Nat) : Int) * r.ev)) := by
                    unfold Hid; rw [show (((j + 1 : Nat)) : Int) = (j : Int) + 1 by omega, Int.add_mul, Int.one_mul]
                  have MEAS : Hid (perN r s te * 100 + 1 - (intOf (.int .i64 ((j : Int) * r.ev + r.ev))).toNat < perN r s te * 100 + 1 - (intOf (.int .i64 ((j : Int) * r.ev))).toNat) := by
                    unfold Hid
                    have h5 : (j : Int) * r.ev ≤ (j : Int) * 100 := Int.mul_le_mul_of_nonneg_left e1' (by omega)
                    simp only [intOf]
                    omega
                  go_wp2
                  go_roundw
                  case rel => exact ⟨j + 1, by omega, STEP.out, by rw [AL_succ, ← List.take_length (l := chJ r s j), ← HXX.out]; exact HK3.out, by rw [AL_succ, ← List.take_length (l := chJ r s j), ← HXX.out]; exact hlm3⟩
                  case measure => exact MEAS.out
            · have hje : j = perN r s te := by omega
              have HK1 : Hid (IL W0 u9 (XF s te (AL r s j)) w1) := KK1
              have hout := perN_out hr (to := te) s0 s1
              rw [← hje] at hout
              have HFN : Hid ((comes r s te).take (r.ct).toNat = XF s te (AL r s j)) := by unfold Hid comes; rw [← hje, List.take_of_length_le (by omega)]
              clear hje
              by_cases hmx : spanF r s (j * r.ev) ≤ 3652058
              · obtain ⟨rfl, rfl⟩ := hxy hmx
                rw [decide_eq_true hmx]
                have hto : te < spanF r s (j * r.ev) := by omega
                clear hout hxy KK1
                go_wp2
                go_ret
                exact FIN.out _ _ w1 HK1.out HFN.out
              · rw [decide_eq_false hmx]
                clear hout hxy KK1
                go_wp2
                go_ret
                exact FIN.out _ _ w1 HK1.out HFN.out
        · skip
          have hT' : T = te := by rw [hT]; unfold limT; rw [if_neg (fun h => hu2 h.2)]
          have hM' : Mo = most := by rw [hMo]; unfold mostT; rw [if_neg (fun h => hc2 h.2)]
          rw [hT', hM'] at FIN ⊢
          rw [hM'] at hMb
          clear hT' hM' hT hMo T Mo
          go_enter Tryd.func13, Tryd.ntmps13
          go_wp2
          rw [← HW0.out]
          go_loopw [9, 10] (fun v i wr => ∃ j : Nat, j ≤ perN r s te ∧ i = .int .i64 (j * r.ev) ∧ IL W0 v (XF s te (AL r s j)) wr ∧ ((XF s te (AL r s j)).length : Int) ≤ most) (fun _ i _ => perN r s te * 100 + 1 - (intOf i).toNat)
          case atStart => exact ⟨0, Nat.zero_le _, by simp, by have := K0.out; rw [HZ0.out] at this; exact this, by show (0 : Int) ≤ most; omega⟩
          case round =>
            obtain ⟨j, hj, rfl, K1, hlm⟩ := hrel
            have hb : Below W0.heap.size W0 wr := K1.2
            obtain ⟨q0, q1, q2, q3, q4, q5, q6, q7, q8⟩ := HCR.out.on (hb.block _ HCR.out.lt)
            have hn := per_n hr hj
            have HM1 : Hid (RMem wr r m) := HM.out.below hb
            have HCR1 : Hid (CB wr w.heap.size r m) := HCR.out.on (hb.block _ HCR.out.lt)
            clear hb
            go_wp2_with fail
            refine (specSpan r m s _ wr hr s0 s1 hn.1 (by omega)).mono ?_
            rintro e w1 ⟨⟨x, y, rfl, hxy⟩, b1⟩
            have KK1 := IL.on K1 b1
            have HM2 : Hid (RMem w1 r m) := HM1.out.below b1
            have HCR2 : Hid (CB w1 w.heap.size r m) := HCR1.out.on (b1.block _ HCR1.out.lt)
            clear K1 b1 q0 q1 q2 q3 q4 q5 q6 q7 q8
            by_cases hj2 : j < perN r s te
            · have hin := perN_in hj2
              obtain ⟨rfl, rfl⟩ := hxy hin.2
              have hlen := span_len hr s0 s1 (n := j * r.ev) hn.1
              have hgr := span_grow hr s0 s1 (j * r.ev).toNat
              rw [show (((j * r.ev).toNat : Nat) : Int) = j * r.ev by omega] at hgr
              rw [decide_eq_true hin.2]
              obtain ⟨q0, q1, q2, q3, q4, q5, q6, q7, q8⟩ := HCR2.out
              have hin1 := hin.1
              go_wp2_with fail
              refine (specPeriod r m s _ _ w1 hr HM2.out hl0 hl1 hl2 hl3 HX.out s0 s1 (by omega) (by omega) (by omega) (by omega)).mono ?_
              rintro e w2 ⟨⟨v2, rfl, ov⟩, b2⟩
              have ov : OI w2 w1.heap.size v2 (chJ r s j) := ov
              have ovl := ov.lt
              have kol := KK1.1.lt
              obtain ⟨av, cv, rfl, iv, _, _⟩ := ov.val
              have KK2 := IL.on KK1 b2
              have HI2 : Hid (IsInts w2 av (chJ r s j)) := iv
              have HNE : Hid (∀ bl, av = some bl → bl.block < w2.heap.size ∧ ∀ k, u9.ownBlock = some k → k ≠ bl.block) := fun bl hbl => by
                subst hbl
                have h1 := ovl bl.block rfl
                exact ⟨h1.2, fun k hk => by have := (kol k hk).2; omega⟩
              have hll := chJ_len hr s0 s1 j
              have HK2 : Hid (IL W0 u9 (XF s te (AL r s j)) w2) := KK2
              have HCR3 : Hid (CB w2 w.heap.size r m) := HCR2.out.on (b2.block _ HCR2.out.lt)
              clear ov ovl kol iv KK1 KK2 b2 q0 q1 q2 q3 q4 q5 q6 q7 q8
              obtain ⟨wo, hwo⟩ : ∃ wo, wo = wr := ⟨_, rfl⟩
              subst hwo
              go_wp2
              go_loopw [9, 15] (fun v i wr => ∃ q : Nat, q ≤ (chJ r s j).length ∧ i = .int .i64 q ∧ IL W0 v (XF s te (AL r s j ++ (chJ r s j).take q)) wr ∧ ((XF s te (AL r s j ++ (chJ r s j).take q)).length : Int) ≤ most ∧ IsInts wr av (chJ r s j) ∧ ∀ bl, av = some bl → bl.block < wr.heap.size ∧ ∀ k, v.ownBlock = some k → k ≠ bl.block) (fun _ i _ => (chJ r s j).length - (intOf i).toNat)
              case atStart => exact ⟨0, Nat.zero_le _, rfl, by rw [List.take_zero, List.append_nil]; exact HK2.out, by rw [List.take_zero, List.append_nil]; exact hlm, HI2.out, HNE.out⟩
              case round =>
                obtain ⟨q, hq, rfl, K3, hlm3, iv3, ne3⟩ := hrel
                have HCR4 : Hid (CB wr w.heap.size r m) := HCR.out.on (K3.2.block _ HCR.out.lt)
                obtain ⟨ao, co, hvo⟩ := K3.1.shape0
                subst hvo
                obtain ⟨X, hX⟩ : ∃ X, X = XF s te (AL r s j ++ (chJ r s j).take q) := ⟨_, rfl⟩
                rw [← hX] at K3 hlm3
                have HXX : Hid (X = XF s te (AL r s j ++ (chJ r s j).take q)) := hX
                by_cases hlt : q < (chJ r s j).length
                · obtain ⟨d, hd⟩ : ∃ d, d = gi (chJ r s j) q := ⟨_, rfl⟩
                  have HD : Hid (d = gi (chJ r s j) q) := hd
                  have hdm := choice_mem (show d ∈ chJ r s j by rw [hd]; exact gi_mem hlt)
                  have e0 : ∃ bL oL, av = some ⟨bL, oL, none⟩ ∧ bL < wr.heap.size ∧ wr.cell? ⟨bL, oL + q, none⟩ = some (.int .i64 d) := by
                    rcases iv3 with h | ⟨bL, oL, h1, h2, h3⟩
                    · rw [h] at hlt; simp at hlt
                    · exact ⟨bL, oL, h1, h2, by rw [hd]; exact h3 q hlt⟩
                  obtain ⟨bL, oL, hav, hbl, cL⟩ := e0
                  have HIV : Hid (IsInts wr av (chJ r s j)) := iv3
                  have HN3 : Hid (∀ bl, av = some bl → bl.block < wr.heap.size ∧ ∀ k, (Value.slice ao (XF s te (AL r s j ++ (chJ r s j).take q)).length co).ownBlock = some k → k ≠ bl.block) := ne3
                  rw [← hX] at HN3
                  rw [← hX]
                  subst hav
                  have hi1 : (q : Int) < ((chJ r s j).length : Int) := by omega
                  have hi0 : (0 : Int) ≤ (q : Int) := by omega
                  have HXN : Hid (XF s te (AL r s j ++ (chJ r s j).take (q + 1)) = XF s te ((AL r s j ++ (chJ r s j).take q) ++ [d])) := by unfold Hid; rw [take_snoc hlt, ← List.append_assoc, hd]
                  clear iv3 ne3 hd hX
                  by_cases hdt : te < d
                  · have HK3 : Hid (IL W0 (.slice ao X.length co) X wr) := K3
                    clear K3
                    go_wp2
                    go_ret
                    exact FIN.out _ X wr HK3.out (by rw [sp_stop hr s0 s1 hj2 hlt (by rw [← HD.out]; exact hdt), ← HXX.out, List.take_of_length_le (by omega)])
                  · by_cases hfull : most ≤ (X.length : Int)
                    · have HK3 : Hid (IL W0 (.slice ao X.length co) X wr) := K3
                      clear K3
                      go_wp2
                      go_ret
                      exact FIN.out _ X wr HK3.out (by obtain ⟨Z, hZ⟩ := sp_split (T := te) hj2 hlt; rw [hZ, ← HXX.out, List.take_append, List.take_of_length_le (by omega), show most.toNat - X.length = 0 by omega, List.take_zero, List.append_nil])
                    · by_cases hds : s ≤ d
                      · have KK := K3
                        clear K3
                        go_wp2_with (first
                          | (at_builtin; refine wpList_append_at rfl _ _ 23 rfl W0.heap.size 3 i0 (.int .i64 0) 1 8 Tryd.underlying23 hi hz0 hz1 hz2 rfl (by decide) _ _ _ rfl (World.ownsRow.alloc KK.1 _) ⟨_, 0, none⟩ 1 1 [.int .i64 d] rfl rfl (cell_one_new _ _ _) (by simp [Value.oneCell']) (by decide) (by unfold maxLen; omega) (by omega) (by have := KK.2.size; simp; omega) ?_; intro v' w4 hown hgrow hat; have K4 := IL.app KK hown hgrow; clear hown))
                        go_roundw
                        case rel =>
                          refine ⟨q + 1, by omega, by go_num, by rw [HXN.out, XF_yes hds (by omega), ← HXX.out]; exact K4, by rw [HXN.out, XF_yes hds (by omega), ← HXX.out]; simp; omega, ?_, fun bl hbl => ?_⟩
                          · refine IsInts.same (HIV.out.below ((Below.refl _ wr).alloc (Nat.le_refl _) (.cells #[.int .i64 d] 3))) hgrow.size (fun _ x hx' => ?_)
                            exact hgrow.block _ (by have := (HN3.out x hx').1; simp; omega) (fun e => (HN3.out x hx').2 _ e.symm rfl)
                          · have h1 := HN3.out bl hbl
                            refine ⟨by have := hgrow.size; simp at this; omega, fun k hk => ?_⟩
                            rcases hat with h | h
                            · exact h1.2 k (by rw [show v'.ownBlock = (Value.slice ao X.length co).ownBlock from h] at hk; exact hk)
                            · rw [h] at hk; simp at hk; omega
                        case measure => simp [intOf]; omega
                      · have HK3 : Hid (IL W0 (.slice ao X.length co) X wr) := K3
                        clear K3
                        go_wp2
                        go_roundw
                        case rel => exact ⟨q + 1, by omega, by go_num, by rw [HXN.out, XF_no (by omega), ← HXX.out]; exact HK3.out, by rw [HXN.out, XF_no (by omega), ← HXX.out]; exact hlm3, HIV.out, HN3.out⟩
                        case measure => simp [intOf]; omega
                · have hqe : q = (chJ r s j).length := by omega
                  subst hqe
                  have HK3 : Hid (IL W0 (.slice ao X.length co) X wr) := K3
                  obtain ⟨b0, b1', b2', b3', b4', b5', b6', b7', b8'⟩ := HCR4.out
                  rw [← hX]
                  clear K3 iv3 ne3 hX
                  have e0' := hr.e0; have e1' := hr.e1
                  have STEP : Hid (Value.int .i64 ((j : Int) * r.ev + r.ev) = .int .i64 (((j + 1 : Nat) : Int) * r.ev)) := by
                    unfold Hid; rw [show (((j + 1 : Nat)) : Int) = (j : Int) + 1 by omega, Int.add_mul, Int.one_mul]
                  have MEAS : Hid (perN r s te * 100 + 1 - (intOf (.int .i64 ((j : Int) * r.ev + r.ev))).toNat < perN r s te * 100 + 1 - (intOf (.int .i64 ((j : Int) * r.ev))).toNat) := by
                    unfold Hid
                    have h5 : (j : Int) * r.ev ≤ (j : Int) * 100 := Int.mul_le_mul_of_nonneg_left e1' (by omega)
                    simp only [intOf]
                    omega
                  go_wp2
                  go_roundw
                  case rel => exact ⟨j + 1, by omega, STEP.out, by rw [AL_succ, ← List.take_length (l := chJ r s j), ← HXX.out]; exact HK3.out, by rw [AL_succ, ← List.take_length (l := chJ r s j), ← HXX.out]; exact hlm3⟩
                  case measure => exact MEAS.out
            · have hje : j = perN r s te := by omega
              have HK1 : Hid (IL W0 u9 (XF s te (AL r s j)) w1) := KK1
              have hout := perN_out hr (to := te) s0 s1
              rw [← hje] at hout
              have HFN : Hid ((comes r s te).take most.toNat = XF s te (AL r s j)) := by unfold Hid comes; rw [← hje, List.take_of_length_le (by omega)]
              clear hje
              by_cases hmx : spanF r s (j * r.ev) ≤ 3652058
              · obtain ⟨rfl, rfl⟩ := hxy hmx
                rw [decide_eq_true hmx]
                have hto : te < spanF r s (j * r.ev) := by omega
                clear hout hxy KK1
                go_wp2
                go_ret
                exact FIN.out _ _ w1 HK1.out HFN.out
              · rw [decide_eq_false hmx]
                clear hout hxy KK1
                go_wp2
                go_ret
                exact FIN.out _ _ w1 HK1.out HFN.out
      · skip
        have hT' : T = te := by rw [hT]; unfold limT; rw [if_neg (fun h => hu2 h.2)]
        have hM' : Mo = most := by rw [hMo]; unfold mostT; rw [if_neg (fun h => hc1 h.1)]
        rw [hT', hM'] at FIN ⊢
        rw [hM'] at hMb
        clear hT' hM' hT hMo T Mo
        go_enter Tryd.func13, Tryd.ntmps13
        go_wp2
        rw [← HW0.out]
        go_loopw [9, 10] (fun v i wr => ∃ j : Nat, j ≤ perN r s te ∧ i = .int .i64 (j * r.ev) ∧ IL W0 v (XF s te (AL r s j)) wr ∧ ((XF s te (AL r s j)).length : Int) ≤ most) (fun _ i _ => perN r s te * 100 + 1 - (intOf i).toNat)
        case atStart => exact ⟨0, Nat.zero_le _, by simp, by have := K0.out; rw [HZ0.out] at this; exact this, by show (0 : Int) ≤ most; omega⟩
        case round =>
          obtain ⟨j, hj, rfl, K1, hlm⟩ := hrel
          have hb : Below W0.heap.size W0 wr := K1.2
          obtain ⟨q0, q1, q2, q3, q4, q5, q6, q7, q8⟩ := HCR.out.on (hb.block _ HCR.out.lt)
          have hn := per_n hr hj
          have HM1 : Hid (RMem wr r m) := HM.out.below hb
          have HCR1 : Hid (CB wr w.heap.size r m) := HCR.out.on (hb.block _ HCR.out.lt)
          clear hb
          go_wp2_with fail
          refine (specSpan r m s _ wr hr s0 s1 hn.1 (by omega)).mono ?_
          rintro e w1 ⟨⟨x, y, rfl, hxy⟩, b1⟩
          have KK1 := IL.on K1 b1
          have HM2 : Hid (RMem w1 r m) := HM1.out.below b1
          have HCR2 : Hid (CB w1 w.heap.size r m) := HCR1.out.on (b1.block _ HCR1.out.lt)
          clear K1 b1 q0 q1 q2 q3 q4 q5 q6 q7 q8
          by_cases hj2 : j < perN r s te
          · have hin := perN_in hj2
            obtain ⟨rfl, rfl⟩ := hxy hin.2
            have hlen := span_len hr s0 s1 (n := j * r.ev) hn.1
            have hgr := span_grow hr s0 s1 (j * r.ev).toNat
            rw [show (((j * r.ev).toNat : Nat) : Int) = j * r.ev by omega] at hgr
            rw [decide_eq_true hin.2]
            obtain ⟨q0, q1, q2, q3, q4, q5, q6, q7, q8⟩ := HCR2.out
            have hin1 := hin.1
            go_wp2_with fail
            refine (specPeriod r m s _ _ w1 hr HM2.out hl0 hl1 hl2 hl3 HX.out s0 s1 (by omega) (by omega) (by omega) (by omega)).mono ?_
            rintro e w2 ⟨⟨v2, rfl, ov⟩, b2⟩
            have ov : OI w2 w1.heap.size v2 (chJ r s j) := ov
            have ovl := ov.lt
            have kol := KK1.1.lt
            obtain ⟨av, cv, rfl, iv, _, _⟩ := ov.val
            have KK2 := IL.on KK1 b2
            have HI2 : Hid (IsInts w2 av (chJ r s j)) := iv
            have HNE : Hid (∀ bl, av = some bl → bl.block < w2.heap.size ∧ ∀ k, u9.ownBlock = some k → k ≠ bl.block) := fun bl hbl => by
              subst hbl
              have h1 := ovl bl.block rfl
              exact ⟨h1.2, fun k hk => by have := (kol k hk).2; omega⟩
            have hll := chJ_len hr s0 s1 j
            have HK2 : Hid (IL W0 u9 (XF s te (AL r s j)) w2) := KK2
            have HCR3 : Hid (CB w2 w.heap.size r m) := HCR2.out.on (b2.block _ HCR2.out.lt)
            clear ov ovl kol iv KK1 KK2 b2 q0 q1 q2 q3 q4 q5 q6 q7 q8
            obtain ⟨wo, hwo⟩ : ∃ wo, wo = wr := ⟨_, rfl⟩
            subst hwo
            go_wp2
            go_loopw [9, 15] (fun v i wr => ∃ q : Nat, q ≤ (chJ r s j).length ∧ i = .int .i64 q ∧ IL W0 v (XF s te (AL r s j ++ (chJ r s j).take q)) wr ∧ ((XF s te (AL r s j ++ (chJ r s j).take q)).length : Int) ≤ most ∧ IsInts wr av (chJ r s j) ∧ ∀ bl, av = some bl → bl.block < wr.heap.size ∧ ∀ k, v.ownBlock = some k → k ≠ bl.block) (fun _ i _ => (chJ r s j).length - (intOf i).toNat)
            case atStart => exact ⟨0, Nat.zero_le _, rfl, by rw [List.take_zero, List.append_nil]; exact HK2.out, by rw [List.take_zero, List.append_nil]; exact hlm, HI2.out, HNE.out⟩
            case round =>
              obtain ⟨q, hq, rfl, K3, hlm3, iv3, ne3⟩ := hrel
              have HCR4 : Hid (CB wr w.heap.size r m) := HCR.out.on (K3.2.block _ HCR.out.lt)
              obtain ⟨ao, co, hvo⟩ := K3.1.shape0
              subst hvo
              obtain ⟨X, hX⟩ : ∃ X, X = XF s te (AL r s j ++ (chJ r s j).take q) := ⟨_, rfl⟩
              rw [← hX] at K3 hlm3
              have HXX : Hid (X = XF s te (AL r s j ++ (chJ r s j).take q)) := hX
              by_cases hlt : q < (chJ r s j).length
              · obtain ⟨d, hd⟩ : ∃ d, d = gi (chJ r s j) q := ⟨_, rfl⟩
                have HD : Hid (d = gi (chJ r s j) q) := hd
                have hdm := choice_mem (show d ∈ chJ r s j by rw [hd]; exact gi_mem hlt)
                have e0 : ∃ bL oL, av = some ⟨bL, oL, none⟩ ∧ bL < wr.heap.size ∧ wr.cell? ⟨bL, oL + q, none⟩ = some (.int .i64 d) := by
                  rcases iv3 with h | ⟨bL, oL, h1, h2, h3⟩
                  · rw [h] at hlt; simp at hlt
                  · exact ⟨bL, oL, h1, h2, by rw [hd]; exact h3 q hlt⟩
                obtain ⟨bL, oL, hav, hbl, cL⟩ := e0
                have HIV : Hid (IsInts wr av (chJ r s j)) := iv3
                have HN3 : Hid (∀ bl, av = some bl → bl.block < wr.heap.size ∧ ∀ k, (Value.slice ao (XF s te (AL r s j ++ (chJ r s j).take q)).length co).ownBlock = some k → k ≠ bl.block) := ne3
                rw [← hX] at HN3
                rw [← hX]
                subst hav
                have hi1 : (q : Int) < ((chJ r s j).length : Int) := by omega
                have hi0 : (0 : Int) ≤ (q : Int) := by omega
                have HXN : Hid (XF s te (AL r s j ++ (chJ r s j).take (q + 1)) = XF s te ((AL r s j ++ (chJ r s j).take q) ++ [d])) := by unfold Hid; rw [take_snoc hlt, ← List.append_assoc, hd]
                clear iv3 ne3 hd hX
                by_cases hdt : te < d
                · have HK3 : Hid (IL W0 (.slice ao X.length co) X wr) := K3
                  clear K3
                  go_wp2
                  go_ret
                  exact FIN.out _ X wr HK3.out (by rw [sp_stop hr s0 s1 hj2 hlt (by rw [← HD.out]; exact hdt), ← HXX.out, List.take_of_length_le (by omega)])
                · by_cases hfull : most ≤ (X.length : Int)
                  · have HK3 : Hid (IL W0 (.slice ao X.length co) X wr) := K3
                    clear K3
                    go_wp2
                    go_ret
                    exact FIN.out _ X wr HK3.out (by obtain ⟨Z, hZ⟩ := sp_split (T := te) hj2 hlt; rw [hZ, ← HXX.out, List.take_append, List.take_of_length_le (by omega), show most.toNat - X.length = 0 by omega, List.take_zero, List.append_nil])
                  · by_cases hds : s ≤ d
                    · have KK := K3
                      clear K3
                      go_wp2_with (first
                        | (at_builtin; refine wpList_append_at rfl _ _ 23 rfl W0.heap.size 3 i0 (.int .i64 0) 1 8 Tryd.underlying23 hi hz0 hz1 hz2 rfl (by decide) _ _ _ rfl (World.ownsRow.alloc KK.1 _) ⟨_, 0, none⟩ 1 1 [.int .i64 d] rfl rfl (cell_one_new _ _ _) (by simp [Value.oneCell']) (by decide) (by unfold maxLen; omega) (by omega) (by have := KK.2.size; simp; omega) ?_; intro v' w4 hown hgrow hat; have K4 := IL.app KK hown hgrow; clear hown))
                      go_roundw
                      case rel =>
                        refine ⟨q + 1, by omega, by go_num, by rw [HXN.out, XF_yes hds (by omega), ← HXX.out]; exact K4, by rw [HXN.out, XF_yes hds (by omega), ← HXX.out]; simp; omega, ?_, fun bl hbl => ?_⟩
                        · refine IsInts.same (HIV.out.below ((Below.refl _ wr).alloc (Nat.le_refl _) (.cells #[.int .i64 d] 3))) hgrow.size (fun _ x hx' => ?_)
                          exact hgrow.block _ (by have := (HN3.out x hx').1; simp; omega) (fun e => (HN3.out x hx').2 _ e.symm rfl)
                        · have h1 := HN3.out bl hbl
                          refine ⟨by have := hgrow.size; simp at this; omega, fun k hk => ?_⟩
                          rcases hat with h | h
                          · exact h1.2 k (by rw [show v'.ownBlock = (Value.slice ao X.length co).ownBlock from h] at hk; exact hk)
                          · rw [h] at hk; simp at hk; omega
                      case measure => simp [intOf]; omega
                    · have HK3 : Hid (IL W0 (.slice ao X.length co) X wr) := K3
                      clear K3
                      go_wp2
                      go_roundw
                      case rel => exact ⟨q + 1, by omega, by go_num, by rw [HXN.out, XF_no (by omega), ← HXX.out]; exact HK3.out, by rw [HXN.out, XF_no (by omega), ← HXX.out]; exact hlm3, HIV.out, HN3.out⟩
                      case measure => simp [intOf]; omega
              · have hqe : q = (chJ r s j).length := by omega
                subst hqe
                have HK3 : Hid (IL W0 (.slice ao X.length co) X wr) := K3
                obtain ⟨b0, b1', b2', b3', b4', b5', b6', b7', b8'⟩ := HCR4.out
                rw [← hX]
                clear K3 iv3 ne3 hX
                have e0' := hr.e0; have e1' := hr.e1
                have STEP : Hid (Value.int .i64 ((j : Int) * r.ev + r.ev) = .int .i64 (((j + 1 : Nat) : Int) * r.ev)) := by
                  unfold Hid; rw [show (((j + 1 : Nat)) : Int) = (j : Int) + 1 by omega, Int.add_mul, Int.one_mul]
                have MEAS : Hid (perN r s te * 100 + 1 - (intOf (.int .i64 ((j : Int) * r.ev + r.ev))).toNat < perN r s te * 100 + 1 - (intOf (.int .i64 ((j : Int) * r.ev))).toNat) := by
                  unfold Hid
                  have h5 : (j : Int) * r.ev ≤ (j : Int) * 100 := Int.mul_le_mul_of_nonneg_left e1' (by omega)
                  simp only [intOf]
                  omega
                go_wp2
                go_roundw
                case rel => exact ⟨j + 1, by omega, STEP.out, by rw [AL_succ, ← List.take_length (l := chJ r s j), ← HXX.out]; exact HK3.out, by rw [AL_succ, ← List.take_length (l := chJ r s j), ← HXX.out]; exact hlm3⟩
                case measure => exact MEAS.out
          · have hje : j = perN r s te := by omega
            have HK1 : Hid (IL W0 u9 (XF s te (AL r s j)) w1) := KK1
            have hout := perN_out hr (to := te) s0 s1
            rw [← hje] at hout
            have HFN : Hid ((comes r s te).take most.toNat = XF s te (AL r s j)) := by unfold Hid comes; rw [← hje, List.take_of_length_le (by omega)]
            clear hje
            by_cases hmx : spanF r s (j * r.ev) ≤ 3652058
            · obtain ⟨rfl, rfl⟩ := hxy hmx
              rw [decide_eq_true hmx]
              have hto : te < spanF r s (j * r.ev) := by omega
              clear hout hxy KK1
              go_wp2
              go_ret
              exact FIN.out _ _ w1 HK1.out HFN.out
            · rw [decide_eq_false hmx]
              clear hout hxy KK1
              go_wp2
              go_ret
              exact FIN.out _ _ w1 HK1.out HFN.out
  · skip
    by_cases hc1 : 0 < r.ct
    · by_cases hc2 : r.ct < most
      · skip
        have hT' : T = te := by rw [hT]; unfold limT; rw [if_neg (fun h => hu1 h.1)]
        have hM' : Mo = r.ct := by rw [hMo]; unfold mostT; rw [if_pos ⟨hc1, hc2⟩]
        rw [hT', hM'] at FIN ⊢
        rw [hM'] at hMb
        clear hT' hM' hT hMo T Mo
        go_enter Tryd.func13, Tryd.ntmps13
        go_wp2
        rw [← HW0.out]
        go_loopw [9, 10] (fun v i wr => ∃ j : Nat, j ≤ perN r s te ∧ i = .int .i64 (j * r.ev) ∧ IL W0 v (XF s te (AL r s j)) wr ∧ ((XF s te (AL r s j)).length : Int) ≤ (r.ct)) (fun _ i _ => perN r s te * 100 + 1 - (intOf i).toNat)
        case atStart => exact ⟨0, Nat.zero_le _, by simp, by have := K0.out; rw [HZ0.out] at this; exact this, by show (0 : Int) ≤ (r.ct); omega⟩
        case round =>
          obtain ⟨j, hj, rfl, K1, hlm⟩ := hrel
          have hb : Below W0.heap.size W0 wr := K1.2
          obtain ⟨q0, q1, q2, q3, q4, q5, q6, q7, q8⟩ := HCR.out.on (hb.block _ HCR.out.lt)
          have hn := per_n hr hj
          have HM1 : Hid (RMem wr r m) := HM.out.below hb
          have HCR1 : Hid (CB wr w.heap.size r m) := HCR.out.on (hb.block _ HCR.out.lt)
          clear hb
          go_wp2_with fail
          refine (specSpan r m s _ wr hr s0 s1 hn.1 (by omega)).mono ?_
          rintro e w1 ⟨⟨x, y, rfl, hxy⟩, b1⟩
          have KK1 := IL.on K1 b1
          have HM2 : Hid (RMem w1 r m) := HM1.out.below b1
          have HCR2 : Hid (CB w1 w.heap.size r m) := HCR1.out.on (b1.block _ HCR1.out.lt)
          clear K1 b1 q0 q1 q2 q3 q4 q5 q6 q7 q8
          by_cases hj2 : j < perN r s te
          · have hin := perN_in hj2
            obtain ⟨rfl, rfl⟩ := hxy hin.2
            have hlen := span_len hr s0 s1 (n := j * r.ev) hn.1
            have hgr := span_grow hr s0 s1 (j * r.ev).toNat
            rw [show (((j * r.ev).toNat : Nat) : Int) = j * r.ev by omega] at hgr
            rw [decide_eq_true hin.2]
            obtain ⟨q0, q1, q2, q3, q4, q5, q6, q7, q8⟩ := HCR2.out
            have hin1 := hin.1
            go_wp2_with fail
            refine (specPeriod r m s _ _ w1 hr HM2.out hl0 hl1 hl2 hl3 HX.out s0 s1 (by omega) (by omega) (by omega) (by omega)).mono ?_
            rintro e w2 ⟨⟨v2, rfl, ov⟩, b2⟩
            have ov : OI w2 w1.heap.size v2 (chJ r s j) := ov
            have ovl := ov.lt
            have kol := KK1.1.lt
            obtain ⟨av, cv, rfl, iv, _, _⟩ := ov.val
            have KK2 := IL.on KK1 b2
            have HI2 : Hid (IsInts w2 av (chJ r s j)) := iv
            have HNE : Hid (∀ bl, av = some bl → bl.block < w2.heap.size ∧ ∀ k, u9.ownBlock = some k → k ≠ bl.block) := fun bl hbl => by
              subst hbl
              have h1 := ovl bl.block rfl
              exact ⟨h1.2, fun k hk => by have := (kol k hk).2; omega⟩
            have hll := chJ_len hr s0 s1 j
            have HK2 : Hid (IL W0 u9 (XF s te (AL r s j)) w2) := KK2
            have HCR3 : Hid (CB w2 w.heap.size r m) := HCR2.out.on (b2.block _ HCR2.out.lt)
            clear ov ovl kol iv KK1 KK2 b2 q0 q1 q2 q3 q4 q5 q6 q7 q8
            obtain ⟨wo, hwo⟩ : ∃ wo, wo = wr := ⟨_, rfl⟩
            subst hwo
            go_wp2
            go_loopw [9, 15] (fun v i wr => ∃ q : Nat, q ≤ (chJ r s j).length ∧ i = .int .i64 q ∧ IL W0 v (XF s te (AL r s j ++ (chJ r s j).take q)) wr ∧ ((XF s te (AL r s j ++ (chJ r s j).take q)).length : Int) ≤ (r.ct) ∧ IsInts wr av (chJ r s j) ∧ ∀ bl, av = some bl → bl.block < wr.heap.size ∧ ∀ k, v.ownBlock = some k → k ≠ bl.block) (fun _ i _ => (chJ r s j).length - (intOf i).toNat)
            case atStart => exact ⟨0, Nat.zero_le _, rfl, by rw [List.take_zero, List.append_nil]; exact HK2.out, by rw [List.take_zero, List.append_nil]; exact hlm, HI2.out, HNE.out⟩
            case round =>
              obtain ⟨q, hq, rfl, K3, hlm3, iv3, ne3⟩ := hrel
              have HCR4 : Hid (CB wr w.heap.size r m) := HCR.out.on (K3.2.block _ HCR.out.lt)
              obtain ⟨ao, co, hvo⟩ := K3.1.shape0
              subst hvo
              obtain ⟨X, hX⟩ : ∃ X, X = XF s te (AL r s j ++ (chJ r s j).take q) := ⟨_, rfl⟩
              rw [← hX] at K3 hlm3
              have HXX : Hid (X = XF s te (AL r s j ++ (chJ r s j).take q)) := hX
              by_cases hlt : q < (chJ r s j).length
              · obtain ⟨d, hd⟩ : ∃ d, d = gi (chJ r s j) q := ⟨_, rfl⟩
                have HD : Hid (d = gi (chJ r s j) q) := hd
                have hdm := choice_mem (show d ∈ chJ r s j by rw [hd]; exact gi_mem hlt)
                have e0 : ∃ bL oL, av = some ⟨bL, oL, none⟩ ∧ bL < wr.heap.size ∧ wr.cell? ⟨bL, oL + q, none⟩ = some (.int .i64 d) := by
                  rcases iv3 with h | ⟨bL, oL, h1, h2, h3⟩
                  · rw [h] at hlt; simp at hlt
                  · exact ⟨bL, oL, h1, h2, by rw [hd]; exact h3 q hlt⟩
                obtain ⟨bL, oL, hav, hbl, cL⟩ := e0
                have HIV : Hid (IsInts wr av (chJ r s j)) := iv3
                have HN3 : Hid (∀ bl, av = some bl → bl.block < wr.heap.size ∧ ∀ k, (Value.slice ao (XF s te (AL r s j ++ (chJ r s j).take q)).length co).ownBlock = some k → k ≠ bl.block) := ne3
                rw [← hX] at HN3
                rw [← hX]
                subst hav
                have hi1 : (q : Int) < ((chJ r s j).length : Int) := by omega
                have hi0 : (0 : Int) ≤ (q : Int) := by omega
                have HXN : Hid (XF s te (AL r s j ++ (chJ r s j).take (q + 1)) = XF s te ((AL r s j ++ (chJ r s j).take q) ++ [d])) := by unfold Hid; rw [take_snoc hlt, ← List.append_assoc, hd]
                clear iv3 ne3 hd hX
                by_cases hdt : te < d
                · have HK3 : Hid (IL W0 (.slice ao X.length co) X wr) := K3
                  clear K3
                  go_wp2
                  go_ret
                  exact FIN.out _ X wr HK3.out (by rw [sp_stop hr s0 s1 hj2 hlt (by rw [← HD.out]; exact hdt), ← HXX.out, List.take_of_length_le (by omega)])
                · by_cases hfull : (r.ct) ≤ (X.length : Int)
                  · have HK3 : Hid (IL W0 (.slice ao X.length co) X wr) := K3
                    clear K3
                    go_wp2
                    go_ret
                    exact FIN.out _ X wr HK3.out (by obtain ⟨Z, hZ⟩ := sp_split (T := te) hj2 hlt; rw [hZ, ← HXX.out, List.take_append, List.take_of_length_le (by omega), show (r.ct).toNat - X.length = 0 by omega, List.take_zero, List.append_nil])
                  · by_cases hds : s ≤ d
                    · have KK := K3
                      clear K3
                      go_wp2_with (first
                        | (at_builtin; refine wpList_append_at rfl _ _ 23 rfl W0.heap.size 3 i0 (.int .i64 0) 1 8 Tryd.underlying23 hi hz0 hz1 hz2 rfl (by decide) _ _ _ rfl (World.ownsRow.alloc KK.1 _) ⟨_, 0, none⟩ 1 1 [.int .i64 d] rfl rfl (cell_one_new _ _ _) (by simp [Value.oneCell']) (by decide) (by unfold maxLen; omega) (by omega) (by have := KK.2.size; simp; omega) ?_; intro v' w4 hown hgrow hat; have K4 := IL.app KK hown hgrow; clear hown))
                      go_roundw
                      case rel =>
                        refine ⟨q + 1, by omega, by go_num, by rw [HXN.out, XF_yes hds (by omega), ← HXX.out]; exact K4, by rw [HXN.out, XF_yes hds (by omega), ← HXX.out]; simp; omega, ?_, fun bl hbl => ?_⟩
                        · refine IsInts.same (HIV.out.below ((Below.refl _ wr).alloc (Nat.le_refl _) (.cells #[.int .i64 d] 3))) hgrow.size (fun _ x hx' => ?_)
                          exact hgrow.block _ (by have := (HN3.out x hx').1; simp; omega) (fun e => (HN3.out x hx').2 _ e.symm rfl)
                        · have h1 := HN3.out bl hbl
                          refine ⟨by have := hgrow.size; simp at this; omega, fun k hk => ?_⟩
                          rcases hat with h | h
                          · exact h1.2 k (by rw [show v'.ownBlock = (Value.slice ao X.length co).ownBlock from h] at hk; exact hk)
                          · rw [h] at hk; simp at hk; omega
                      case measure => simp [intOf]; omega
                    · have HK3 : Hid (IL W0 (.slice ao X.length co) X wr) := K3
                      clear K3
                      go_wp2
                      go_roundw
                      case rel => exact ⟨q + 1, by omega, by go_num, by rw [HXN.out, XF_no (by omega), ← HXX.out]; exact HK3.out, by rw [HXN.out, XF_no (by omega), ← HXX.out]; exact hlm3, HIV.out, HN3.out⟩
                      case measure => simp [intOf]; omega
              · have hqe : q = (chJ r s j).length := by omega
                subst hqe
                have HK3 : Hid (IL W0 (.slice ao X.length co) X wr) := K3
                obtain ⟨b0, b1', b2', b3', b4', b5', b6', b7', b8'⟩ := HCR4.out
                rw [← hX]
                clear K3 iv3 ne3 hX
                have e0' := hr.e0; have e1' := hr.e1
                have STEP : Hid (Value.int .i64 ((j : Int) * r.ev + r.ev) = .int .i64 (((j + 1 : Nat) : Int) * r.ev)) := by
                  unfold Hid; rw [show (((j + 1 : Nat)) : Int) = (j : Int) + 1 by omega, Int.add_mul, Int.one_mul]
                have MEAS : Hid (perN r s te * 100 + 1 - (intOf (.int .i64 ((j : Int) * r.ev + r.ev))).toNat < perN r s te * 100 + 1 - (intOf (.int .i64 ((j : Int) * r.ev))).toNat) := by
                  unfold Hid
                  have h5 : (j : Int) * r.ev ≤ (j : Int) * 100 := Int.mul_le_mul_of_nonneg_left e1' (by omega)
                  simp only [intOf]
                  omega
                go_wp2
                go_roundw
                case rel => exact ⟨j + 1, by omega, STEP.out, by rw [AL_succ, ← List.take_length (l := chJ r s j), ← HXX.out]; exact HK3.out, by rw [AL_succ, ← List.take_length (l := chJ r s j), ← HXX.out]; exact hlm3⟩
                case measure => exact MEAS.out
          · have hje : j = perN r s te := by omega
            have HK1 : Hid (IL W0 u9 (XF s te (AL r s j)) w1) := KK1
            have hout := perN_out hr (to := te) s0 s1
            rw [← hje] at hout
            have HFN : Hid ((comes r s te).take (r.ct).toNat = XF s te (AL r s j)) := by unfold Hid comes; rw [← hje, List.take_of_length_le (by omega)]
            clear hje
            by_cases hmx : spanF r s (j * r.ev) ≤ 3652058
            · obtain ⟨rfl, rfl⟩ := hxy hmx
              rw [decide_eq_true hmx]
              have hto : te < spanF r s (j * r.ev) := by omega
              clear hout hxy KK1
              go_wp2
              go_ret
              exact FIN.out _ _ w1 HK1.out HFN.out
            · rw [decide_eq_false hmx]
              clear hout hxy KK1
              go_wp2
              go_ret
              exact FIN.out _ _ w1 HK1.out HFN.out
      · skip
        have hT' : T = te := by rw [hT]; unfold limT; rw [if_neg (fun h => hu1 h.1)]
        have hM' : Mo = most := by rw [hMo]; unfold mostT; rw [if_neg (fun h => hc2 h.2)]
        rw [hT', hM'] at FIN ⊢
        rw [hM'] at hMb
        clear hT' hM' hT hMo T Mo
        go_enter Tryd.func13, Tryd.ntmps13
        go_wp2
        rw [← HW0.out]
        go_loopw [9, 10] (fun v i wr => ∃ j : Nat, j ≤ perN r s te ∧ i = .int .i64 (j * r.ev) ∧ IL W0 v (XF s te (AL r s j)) wr ∧ ((XF s te (AL r s j)).length : Int) ≤ most) (fun _ i _ => perN r s te * 100 + 1 - (intOf i).toNat)
        case atStart => exact ⟨0, Nat.zero_le _, by simp, by have := K0.out; rw [HZ0.out] at this; exact this, by show (0 : Int) ≤ most; omega⟩
        case round =>
          obtain ⟨j, hj, rfl, K1, hlm⟩ := hrel
          have hb : Below W0.heap.size W0 wr := K1.2
          obtain ⟨q0, q1, q2, q3, q4, q5, q6, q7, q8⟩ := HCR.out.on (hb.block _ HCR.out.lt)
          have hn := per_n hr hj
          have HM1 : Hid (RMem wr r m) := HM.out.below hb
          have HCR1 : Hid (CB wr w.heap.size r m) := HCR.out.on (hb.block _ HCR.out.lt)
          clear hb
          go_wp2_with fail
          refine (specSpan r m s _ wr hr s0 s1 hn.1 (by omega)).mono ?_
          rintro e w1 ⟨⟨x, y, rfl, hxy⟩, b1⟩
          have KK1 := IL.on K1 b1
          have HM2 : Hid (RMem w1 r m) := HM1.out.below b1
          have HCR2 : Hid (CB w1 w.heap.size r m) := HCR1.out.on (b1.block _ HCR1.out.lt)
          clear K1 b1 q0 q1 q2 q3 q4 q5 q6 q7 q8
          by_cases hj2 : j < perN r s te
          · have hin := perN_in hj2
            obtain ⟨rfl, rfl⟩ := hxy hin.2
            have hlen := span_len hr s0 s1 (n := j * r.ev) hn.1
            have hgr := span_grow hr s0 s1 (j * r.ev).toNat
            rw [show (((j * r.ev).toNat : Nat) : Int) = j * r.ev by omega] at hgr
            rw [decide_eq_true hin.2]
            obtain ⟨q0, q1, q2, q3, q4, q5, q6, q7, q8⟩ := HCR2.out
            have hin1 := hin.1
            go_wp2_with fail
            refine (specPeriod r m s _ _ w1 hr HM2.out hl0 hl1 hl2 hl3 HX.out s0 s1 (by omega) (by omega) (by omega) (by omega)).mono ?_
            rintro e w2 ⟨⟨v2, rfl, ov⟩, b2⟩
            have ov : OI w2 w1.heap.size v2 (chJ r s j) := ov
            have ovl := ov.lt
            have kol := KK1.1.lt
            obtain ⟨av, cv, rfl, iv, _, _⟩ := ov.val
            have KK2 := IL.on KK1 b2
            have HI2 : Hid (IsInts w2 av (chJ r s j)) := iv
            have HNE : Hid (∀ bl, av = some bl → bl.block < w2.heap.size ∧ ∀ k, u9.ownBlock = some k → k ≠ bl.block) := fun bl hbl => by
              subst hbl
              have h1 := ovl bl.block rfl
              exact ⟨h1.2, fun k hk => by have := (kol k hk).2; omega⟩
            have hll := chJ_len hr s0 s1 j
            have HK2 : Hid (IL W0 u9 (XF s te (AL r s j)) w2) := KK2
            have HCR3 : Hid (CB w2 w.heap.size r m) := HCR2.out.on (b2.block _ HCR2.out.lt)
            clear ov ovl kol iv KK1 KK2 b2 q0 q1 q2 q3 q4 q5 q6 q7 q8
            obtain ⟨wo, hwo⟩ : ∃ wo, wo = wr := ⟨_, rfl⟩
            subst hwo
            go_wp2
            go_loopw [9, 15] (fun v i wr => ∃ q : Nat, q ≤ (chJ r s j).length ∧ i = .int .i64 q ∧ IL W0 v (XF s te (AL r s j ++ (chJ r s j).take q)) wr ∧ ((XF s te (AL r s j ++ (chJ r s j).take q)).length : Int) ≤ most ∧ IsInts wr av (chJ r s j) ∧ ∀ bl, av = some bl → bl.block < wr.heap.size ∧ ∀ k, v.ownBlock = some k → k ≠ bl.block) (fun _ i _ => (chJ r s j).length - (intOf i).toNat)
            case atStart => exact ⟨0, Nat.zero_le _, rfl, by rw [List.take_zero, List.append_nil]; exact HK2.out, by rw [List.take_zero, List.append_nil]; exact hlm, HI2.out, HNE.out⟩
            case round =>
              obtain ⟨q, hq, rfl, K3, hlm3, iv3, ne3⟩ := hrel
              have HCR4 : Hid (CB wr w.heap.size r m) := HCR.out.on (K3.2.block _ HCR.out.lt)
              obtain ⟨ao, co, hvo⟩ := K3.1.shape0
              subst hvo
              obtain ⟨X, hX⟩ : ∃ X, X = XF s te (AL r s j ++ (chJ r s j).take q) := ⟨_, rfl⟩
              rw [← hX] at K3 hlm3
              have HXX : Hid (X = XF s te (AL r s j ++ (chJ r s j).take q)) := hX
              by_cases hlt : q < (chJ r s j).length
              · obtain ⟨d, hd⟩ : ∃ d, d = gi (chJ r s j) q := ⟨_, rfl⟩
                have HD : Hid (d = gi (chJ r s j) q) := hd
                have hdm := choice_mem (show d ∈ chJ r s j by rw [hd]; exact gi_mem hlt)
                have e0 : ∃ bL oL, av = some ⟨bL, oL, none⟩ ∧ bL < wr.heap.size ∧ wr.cell? ⟨bL, oL + q, none⟩ = some (.int .i64 d) := by
                  rcases iv3 with h | ⟨bL, oL, h1, h2, h3⟩
                  · rw [h] at hlt; simp at hlt
                  · exact ⟨bL, oL, h1, h2, by rw [hd]; exact h3 q hlt⟩
                obtain ⟨bL, oL, hav, hbl, cL⟩ := e0
                have HIV : Hid (IsInts wr av (chJ r s j)) := iv3
                have HN3 : Hid (∀ bl, av = some bl → bl.block < wr.heap.size ∧ ∀ k, (Value.slice ao (XF s te (AL r s j ++ (chJ r s j).take q)).length co).ownBlock = some k → k ≠ bl.block) := ne3
                rw [← hX] at HN3
                rw [← hX]
                subst hav
                have hi1 : (q : Int) < ((chJ r s j).length : Int) := by omega
                have hi0 : (0 : Int) ≤ (q : Int) := by omega
                have HXN : Hid (XF s te (AL r s j ++ (chJ r s j).take (q + 1)) = XF s te ((AL r s j ++ (chJ r s j).take q) ++ [d])) := by unfold Hid; rw [take_snoc hlt, ← List.append_assoc, hd]
                clear iv3 ne3 hd hX
                by_cases hdt : te < d
                · have HK3 : Hid (IL W0 (.slice ao X.length co) X wr) := K3
                  clear K3
                  go_wp2
                  go_ret
                  exact FIN.out _ X wr HK3.out (by rw [sp_stop hr s0 s1 hj2 hlt (by rw [← HD.out]; exact hdt), ← HXX.out, List.take_of_length_le (by omega)])
                · by_cases hfull : most ≤ (X.length : Int)
                  · have HK3 : Hid (IL W0 (.slice ao X.length co) X wr) := K3
                    clear K3
                    go_wp2
                    go_ret
                    exact FIN.out _ X wr HK3.out (by obtain ⟨Z, hZ⟩ := sp_split (T := te) hj2 hlt; rw [hZ, ← HXX.out, List.take_append, List.take_of_length_le (by omega), show most.toNat - X.length = 0 by omega, List.take_zero, List.append_nil])
                  · by_cases hds : s ≤ d
                    · have KK := K3
                      clear K3
                      go_wp2_with (first
                        | (at_builtin; refine wpList_append_at rfl _ _ 23 rfl W0.heap.size 3 i0 (.int .i64 0) 1 8 Tryd.underlying23 hi hz0 hz1 hz2 rfl (by decide) _ _ _ rfl (World.ownsRow.alloc KK.1 _) ⟨_, 0, none⟩ 1 1 [.int .i64 d] rfl rfl (cell_one_new _ _ _) (by simp [Value.oneCell']) (by decide) (by unfold maxLen; omega) (by omega) (by have := KK.2.size; simp; omega) ?_; intro v' w4 hown hgrow hat; have K4 := IL.app KK hown hgrow; clear hown))
                      go_roundw
                      case rel =>
                        refine ⟨q + 1, by omega, by go_num, by rw [HXN.out, XF_yes hds (by omega), ← HXX.out]; exact K4, by rw [HXN.out, XF_yes hds (by omega), ← HXX.out]; simp; omega, ?_, fun bl hbl => ?_⟩
                        · refine IsInts.same (HIV.out.below ((Below.refl _ wr).alloc (Nat.le_refl _) (.cells #[.int .i64 d] 3))) hgrow.size (fun _ x hx' => ?_)
                          exact hgrow.block _ (by have := (HN3.out x hx').1; simp; omega) (fun e => (HN3.out x hx').2 _ e.symm rfl)
                        · have h1 := HN3.out bl hbl
                          refine ⟨by have := hgrow.size; simp at this; omega, fun k hk => ?_⟩
                          rcases hat with h | h
                          · exact h1.2 k (by rw [show v'.ownBlock = (Value.slice ao X.length co).ownBlock from h] at hk; exact hk)
                          · rw [h] at hk; simp at hk; omega
                      case measure => simp [intOf]; omega
                    · have HK3 : Hid (IL W0 (.slice ao X.length co) X wr) := K3
                      clear K3
                      go_wp2
                      go_roundw
                      case rel => exact ⟨q + 1, by omega, by go_num, by rw [HXN.out, XF_no (by omega), ← HXX.out]; exact HK3.out, by rw [HXN.out, XF_no (by omega), ← HXX.out]; exact hlm3, HIV.out, HN3.out⟩
                      case measure => simp [intOf]; omega
              · have hqe : q = (chJ r s j).length := by omega
                subst hqe
                have HK3 : Hid (IL W0 (.slice ao X.length co) X wr) := K3
                obtain ⟨b0, b1', b2', b3', b4', b5', b6', b7', b8'⟩ := HCR4.out
                rw [← hX]
                clear K3 iv3 ne3 hX
                have e0' := hr.e0; have e1' := hr.e1
                have STEP : Hid (Value.int .i64 ((j : Int) * r.ev + r.ev) = .int .i64 (((j + 1 : Nat) : Int) * r.ev)) := by
                  unfold Hid; rw [show (((j + 1 : Nat)) : Int) = (j : Int) + 1 by omega, Int.add_mul, Int.one_mul]
                have MEAS : Hid (perN r s te * 100 + 1 - (intOf (.int .i64 ((j : Int) * r.ev + r.ev))).toNat < perN r s te * 100 + 1 - (intOf (.int .i64 ((j : Int) * r.ev))).toNat) := by
                  unfold Hid
                  have h5 : (j : Int) * r.ev ≤ (j : Int) * 100 := Int.mul_le_mul_of_nonneg_left e1' (by omega)
                  simp only [intOf]
                  omega
                go_wp2
                go_roundw
                case rel => exact ⟨j + 1, by omega, STEP.out, by rw [AL_succ, ← List.take_length (l := chJ r s j), ← HXX.out]; exact HK3.out, by rw [AL_succ, ← List.take_length (l := chJ r s j), ← HXX.out]; exact hlm3⟩
                case measure => exact MEAS.out
          · have hje : j = perN r s te := by omega
            have HK1 : Hid (IL W0 u9 (XF s te (AL r s j)) w1) := KK1
            have hout := perN_out hr (to := te) s0 s1
            rw [← hje] at hout
            have HFN : Hid ((comes r s te).take most.toNat = XF s te (AL r s j)) := by unfold Hid comes; rw [← hje, List.take_of_length_le (by omega)]
            clear hje
            by_cases hmx : spanF r s (j * r.ev) ≤ 3652058
            · obtain ⟨rfl, rfl⟩ := hxy hmx
              rw [decide_eq_true hmx]
              have hto : te < spanF r s (j * r.ev) := by omega
              clear hout hxy KK1
              go_wp2
              go_ret
              exact FIN.out _ _ w1 HK1.out HFN.out
            · rw [decide_eq_false hmx]
              clear hout hxy KK1
              go_wp2
              go_ret
              exact FIN.out _ _ w1 HK1.out HFN.out
    · skip
      have hT' : T = te := by rw [hT]; unfold limT; rw [if_neg (fun h => hu1 h.1)]
      have hM' : Mo = most := by rw [hMo]; unfold mostT; rw [if_neg (fun h => hc1 h.1)]
      rw [hT', hM'] at FIN ⊢
      rw [hM'] at hMb
      clear hT' hM' hT hMo T Mo
      go_enter Tryd.func13, Tryd.ntmps13
      go_wp2
      rw [← HW0.out]
      go_loopw [9, 10] (fun v i wr => ∃ j : Nat, j ≤ perN r s te ∧ i = .int .i64 (j * r.ev) ∧ IL W0 v (XF s te (AL r s j)) wr ∧ ((XF s te (AL r s j)).length : Int) ≤ most) (fun _ i _ => perN r s te * 100 + 1 - (intOf i).toNat)
      case atStart => exact ⟨0, Nat.zero_le _, by simp, by have := K0.out; rw [HZ0.out] at this; exact this, by show (0 : Int) ≤ most; omega⟩
      case round =>
        obtain ⟨j, hj, rfl, K1, hlm⟩ := hrel
        have hb : Below W0.heap.size W0 wr := K1.2
        obtain ⟨q0, q1, q2, q3, q4, q5, q6, q7, q8⟩ := HCR.out.on (hb.block _ HCR.out.lt)
        have hn := per_n hr hj
        have HM1 : Hid (RMem wr r m) := HM.out.below hb
        have HCR1 : Hid (CB wr w.heap.size r m) := HCR.out.on (hb.block _ HCR.out.lt)
        clear hb
        go_wp2_with fail
        refine (specSpan r m s _ wr hr s0 s1 hn.1 (by omega)).mono ?_
        rintro e w1 ⟨⟨x, y, rfl, hxy⟩, b1⟩
        have KK1 := IL.on K1 b1
        have HM2 : Hid (RMem w1 r m) := HM1.out.below b1
        have HCR2 : Hid (CB w1 w.heap.size r m) := HCR1.out.on (b1.block _ HCR1.out.lt)
        clear K1 b1 q0 q1 q2 q3 q4 q5 q6 q7 q8
        by_cases hj2 : j < perN r s te
        · have hin := perN_in hj2
          obtain ⟨rfl, rfl⟩ := hxy hin.2
          have hlen := span_len hr s0 s1 (n := j * r.ev) hn.1
          have hgr := span_grow hr s0 s1 (j * r.ev).toNat
          rw [show (((j * r.ev).toNat : Nat) : Int) = j * r.ev by omega] at hgr
          rw [decide_eq_true hin.2]
          obtain ⟨q0, q1, q2, q3, q4, q5, q6, q7, q8⟩ := HCR2.out
          have hin1 := hin.1
          go_wp2_with fail
          refine (specPeriod r m s _ _ w1 hr HM2.out hl0 hl1 hl2 hl3 HX.out s0 s1 (by omega) (by omega) (by omega) (by omega)).mono ?_
          rintro e w2 ⟨⟨v2, rfl, ov⟩, b2⟩
          have ov : OI w2 w1.heap.size v2 (chJ r s j) := ov
          have ovl := ov.lt
          have kol := KK1.1.lt
          obtain ⟨av, cv, rfl, iv, _, _⟩ := ov.val
          have KK2 := IL.on KK1 b2
          have HI2 : Hid (IsInts w2 av (chJ r s j)) := iv
          have HNE : Hid (∀ bl, av = some bl → bl.block < w2.heap.size ∧ ∀ k, u9.ownBlock = some k → k ≠ bl.block) := fun bl hbl => by
            subst hbl
            have h1 := ovl bl.block rfl
            exact ⟨h1.2, fun k hk => by have := (kol k hk).2; omega⟩
          have hll := chJ_len hr s0 s1 j
          have HK2 : Hid (IL W0 u9 (XF s te (AL r s j)) w2) := KK2
          have HCR3 : Hid (CB w2 w.heap.size r m) := HCR2.out.on (b2.block _ HCR2.out.lt)
          clear ov ovl kol iv KK1 KK2 b2 q0 q1 q2 q3 q4 q5 q6 q7 q8
          obtain ⟨wo, hwo⟩ : ∃ wo, wo = wr := ⟨_, rfl⟩
          subst hwo
          go_wp2
          go_loopw [9, 15] (fun v i wr => ∃ q : Nat, q ≤ (chJ r s j).length ∧ i = .int .i64 q ∧ IL W0 v (XF s te (AL r s j ++ (chJ r s j).take q)) wr ∧ ((XF s te (AL r s j ++ (chJ r s j).take q)).length : Int) ≤ most ∧ IsInts wr av (chJ r s j) ∧ ∀ bl, av = some bl → bl.block < wr.heap.size ∧ ∀ k, v.ownBlock = some k → k ≠ bl.block) (fun _ i _ => (chJ r s j).length - (intOf i).toNat)
          case atStart => exact ⟨0, Nat.zero_le _, rfl, by rw [List.take_zero, List.append_nil]; exact HK2.out, by rw [List.take_zero, List.append_nil]; exact hlm, HI2.out, HNE.out⟩
          case round =>
            obtain ⟨q, hq, rfl, K3, hlm3, iv3, ne3⟩ := hrel
            have HCR4 : Hid (CB wr w.heap.size r m) := HCR.out.on (K3.2.block _ HCR.out.lt)
            obtain ⟨ao, co, hvo⟩ := K3.1.shape0
            subst hvo
            obtain ⟨X, hX⟩ : ∃ X, X = XF s te (AL r s j ++ (chJ r s j).take q) := ⟨_, rfl⟩
            rw [← hX] at K3 hlm3
            have HXX : Hid (X = XF s te (AL r s j ++ (chJ r s j).take q)) := hX
            by_cases hlt : q < (chJ r s j).length
            · obtain ⟨d, hd⟩ : ∃ d, d = gi (chJ r s j) q := ⟨_, rfl⟩
              have HD : Hid (d = gi (chJ r s j) q) := hd
              have hdm := choice_mem (show d ∈ chJ r s j by rw [hd]; exact gi_mem hlt)
              have e0 : ∃ bL oL, av = some ⟨bL, oL, none⟩ ∧ bL < wr.heap.size ∧ wr.cell? ⟨bL, oL + q, none⟩ = some (.int .i64 d) := by
                rcases iv3 with h | ⟨bL, oL, h1, h2, h3⟩
                · rw [h] at hlt; simp at hlt
                · exact ⟨bL, oL, h1, h2, by rw [hd]; exact h3 q hlt⟩
              obtain ⟨bL, oL, hav, hbl, cL⟩ := e0
              have HIV : Hid (IsInts wr av (chJ r s j)) := iv3
              have HN3 : Hid (∀ bl, av = some bl → bl.block < wr.heap.size ∧ ∀ k, (Value.slice ao (XF s te (AL r s j ++ (chJ r s j).take q)).length co).ownBlock = some k → k ≠ bl.block) := ne3
              rw [← hX] at HN3
              rw [← hX]
              subst hav
              have hi1 : (q : Int) < ((chJ r s j).length : Int) := by omega
              have hi0 : (0 : Int) ≤ (q : Int) := by omega
              have HXN : Hid (XF s te (AL r s j ++ (chJ r s j).take (q + 1)) = XF s te ((AL r s j ++ (chJ r s j).take q) ++ [d])) := by unfold Hid; rw [take_snoc hlt, ← List.append_assoc, hd]
              clear iv3 ne3 hd hX
              by_cases hdt : te < d
              · have HK3 : Hid (IL W0 (.slice ao X.length co) X wr) := K3
                clear K3
                go_wp2
                go_ret
                exact FIN.out _ X wr HK3.out (by rw [sp_stop hr s0 s1 hj2 hlt (by rw [← HD.out]; exact hdt), ← HXX.out, List.take_of_length_le (by omega)])
              · by_cases hfull : most ≤ (X.length : Int)
                · have HK3 : Hid (IL W0 (.slice ao X.length co) X wr) := K3
                  clear K3
                  go_wp2
                  go_ret
                  exact FIN.out _ X wr HK3.out (by obtain ⟨Z, hZ⟩ := sp_split (T := te) hj2 hlt; rw [hZ, ← HXX.out, List.take_append, List.take_of_length_le (by omega), show most.toNat - X.length = 0 by omega, List.take_zero, List.append_nil])
                · by_cases hds : s ≤ d
                  · have KK := K3
                    clear K3
                    go_wp2_with (first
                      | (at_builtin; refine wpList_append_at rfl _ _ 23 rfl W0.heap.size 3 i0 (.int .i64 0) 1 8 Tryd.underlying23 hi hz0 hz1 hz2 rfl (by decide) _ _ _ rfl (World.ownsRow.alloc KK.1 _) ⟨_, 0, none⟩ 1 1 [.int .i64 d] rfl rfl (cell_one_new _ _ _) (by simp [Value.oneCell']) (by decide) (by unfold maxLen; omega) (by omega) (by have := KK.2.size; simp; omega) ?_; intro v' w4 hown hgrow hat; have K4 := IL.app KK hown hgrow; clear hown))
                    go_roundw
                    case rel =>
                      refine ⟨q + 1, by omega, by go_num, by rw [HXN.out, XF_yes hds (by omega), ← HXX.out]; exact K4, by rw [HXN.out, XF_yes hds (by omega), ← HXX.out]; simp; omega, ?_, fun bl hbl => ?_⟩
                      · refine IsInts.same (HIV.out.below ((Below.refl _ wr).alloc (Nat.le_refl _) (.cells #[.int .i64 d] 3))) hgrow.size (fun _ x hx' => ?_)
                        exact hgrow.block _ (by have := (HN3.out x hx').1; simp; omega) (fun e => (HN3.out x hx').2 _ e.symm rfl)
                      · have h1 := HN3.out bl hbl
                        refine ⟨by have := hgrow.size; simp at this; omega, fun k hk => ?_⟩
                        rcases hat with h | h
                        · exact h1.2 k (by rw [show v'.ownBlock = (Value.slice ao X.length co).ownBlock from h] at hk; exact hk)
                        · rw [h] at hk; simp at hk; omega
                    case measure => simp [intOf]; omega
                  · have HK3 : Hid (IL W0 (.slice ao X.length co) X wr) := K3
                    clear K3
                    go_wp2
                    go_roundw
                    case rel => exact ⟨q + 1, by omega, by go_num, by rw [HXN.out, XF_no (by omega), ← HXX.out]; exact HK3.out, by rw [HXN.out, XF_no (by omega), ← HXX.out]; exact hlm3, HIV.out, HN3.out⟩
                    case measure => simp [intOf]; omega
            · have hqe : q = (chJ r s j).length := by omega
              subst hqe
              have HK3 : Hid (IL W0 (.slice ao X.length co) X wr) := K3
              obtain ⟨b0, b1', b2', b3', b4', b5', b6', b7', b8'⟩ := HCR4.out
              rw [← hX]
              clear K3 iv3 ne3 hX
              have e0' := hr.e0; have e1' := hr.e1
              have STEP : Hid (Value.int .i64 ((j : Int) * r.ev + r.ev) = .int .i64 (((j + 1 : Nat) : Int) * r.ev)) := by
                unfold Hid; rw [show (((j + 1 : Nat)) : Int) = (j : Int) + 1 by omega, Int.add_mul, Int.one_mul]
              have MEAS : Hid (perN r s te * 100 + 1 - (intOf (.int .i64 ((j : Int) * r.ev + r.ev))).toNat < perN r s te * 100 + 1 - (intOf (.int .i64 ((j : Int) * r.ev))).toNat) := by
                unfold Hid
                have h5 : (j : Int) * r.ev ≤ (j : Int) * 100 := Int.mul_le_mul_of_nonneg_left e1' (by omega)
                simp only [intOf]
                omega
              go_wp2
              go_roundw
              case rel => exact ⟨j + 1, by omega, STEP.out, by rw [AL_succ, ← List.take_length (l := chJ r s j), ← HXX.out]; exact HK3.out, by rw [AL_succ, ← List.take_length (l := chJ r s j), ← HXX.out]; exact hlm3⟩
              case measure => exact MEAS.out
        · have hje : j = perN r s te := by omega
          have HK1 : Hid (IL W0 u9 (XF s te (AL r s j)) w1) := KK1
          have hout := perN_out hr (to := te) s0 s1
          rw [← hje] at hout
          have HFN : Hid ((comes r s te).take most.toNat = XF s te (AL r s j)) := by unfold Hid comes; rw [← hje, List.take_of_length_le (by omega)]
          clear hje
          by_cases hmx : spanF r s (j * r.ev) ≤ 3652058
          · obtain ⟨rfl, rfl⟩ := hxy hmx
            rw [decide_eq_true hmx]
            have hto : te < spanF r s (j * r.ev) := by omega
            clear hout hxy KK1
            go_wp2
            go_ret
            exact FIN.out _ _ w1 HK1.out HFN.out
          · rw [decide_eq_false hmx]
            clear hout hxy KK1
            go_wp2
            go_ret
            exact FIN.out _ _ w1 HK1.out HFN.out
end Go.Proofs.YtlnhagkipmcioaaDoor
