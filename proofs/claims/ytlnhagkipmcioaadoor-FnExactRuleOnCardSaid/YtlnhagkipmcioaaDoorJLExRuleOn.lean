/- Whether a rule may be asked: the specification's. -/
import Derived.Test.YtlnhagkipmcioaaDoorRt
import Derived.Test.YtlnhagkipmcioaaDoorKt
import Derived.Test.YtlnhagkipmcioaaDoorLc
import Derived.Test.YtlnhagkipmcioaaDoorRh
namespace Go.Proofs.YtlnhagkipmcioaaDoor
open Go.RowKit Go.Shelf
set_option linter.unusedVariables false

set_option maxHeartbeats 4000000 in
theorem specAsked (r : Rl) (m : Rm) (s d : Int) (w : World) (hr : RAny w r m) :
    Calls Tryd.prog 11 #[.agg #[.int .i64 r.f, .int .i64 r.ev, .int .i64 r.ct, .int .i64 r.un, .slice m.a0 r.ds.length m.c0, .slice m.a1 r.da.length m.c1, .slice m.a2 r.mo.length m.c2, .slice m.a3 r.pl.length m.c3, .int .i64 r.wk], .int .i64 s, .int .i64 d] w fun e w' => e = .returned (.bool (mayB r s d)) ∧ Below w.heap.size w w' := by
  obtain ⟨W0, hW0⟩ : ∃ W0, W0 = w.alloc (.cells #[.int .i64 r.f, .int .i64 r.ev, .int .i64 r.ct, .int .i64 r.un, .slice m.a0 r.ds.length m.c0, .slice m.a1 r.da.length m.c1, .slice m.a2 r.mo.length m.c2, .slice m.a3 r.pl.length m.c3, .int .i64 r.wk] 30) := ⟨_, rfl⟩
  have hb0 : Below w.heap.size w W0 := by rw [hW0]; exact (Below.refl _ w).alloc (Nat.le_refl _) _
  have HW0 : Hid (W0 = w.alloc (.cells #[.int .i64 r.f, .int .i64 r.ev, .int .i64 r.ct, .int .i64 r.un, .slice m.a0 r.ds.length m.c0, .slice m.a1 r.da.length m.c1, .slice m.a2 r.mo.length m.c2, .slice m.a3 r.pl.length m.c3, .int .i64 r.wk] 30)) := hW0
  have HB0 : Hid (Below w.heap.size w W0) := hb0
  have hr0 := hr.on hb0
  have HOK : Hid (Calls Tryd.prog 20 #[.agg #[.int .i64 r.f, .int .i64 r.ev, .int .i64 r.ct, .int .i64 r.un, .slice m.a0 r.ds.length m.c0, .slice m.a1 r.da.length m.c1, .slice m.a2 r.mo.length m.c2, .slice m.a3 r.pl.length m.c3, .int .i64 r.wk]] W0 fun z w' => z = .returned (.bool (ruOf r)) ∧ Below W0.heap.size W0 w') := specRuleOk _ _ _ _ _ _ _ _ _ _ _ _ _ _ _ _ _ W0 hr0.mem.t hr0.mem.d hr0.mem.o hr0.mem.p hr0.l0 hr0.l1 hr0.l2 hr0.l3
  clear hW0 hb0 hr0 hr
  cases h1 : ruOf r with
  | false =>
    have HV : Hid (mayB r s d = false) := by unfold Hid mayB; rw [h1]; rfl
    rw [h1] at HOK
    clear h1
    go_enter Tryd.func11, Tryd.ntmps11
    go_wp2_with fail
    rw [← HW0.out]
    refine HOK.out.mono ?_
    rintro e w1 ⟨rfl, b1⟩
    have HB1 : Hid (Below w.heap.size w w1) := bstep HB0.out b1
    clear b1
    go_wp2
    go_ret
    exact ⟨ret_b HV.out.symm, HB1.out⟩
  | true =>
    rw [h1] at HOK
    have HR : Hid (ruOf r = true) := h1
    clear h1
    cases hs : inB s 0 3652058 with
    | false =>
      have HV : Hid (mayB r s d = false) := by unfold Hid mayB; rw [HR.out, hs]; rfl
      have HS : Hid (inB s 0 3652058 = false) := hs
      clear hs
      go_enter Tryd.func11, Tryd.ntmps11
      go_wp2_with fail
      rw [← HW0.out]
      refine HOK.out.mono ?_
      rintro e w1 ⟨rfl, b1⟩
      have HB1 : Hid (Below w.heap.size w w1) := bstep HB0.out b1
      clear b1
      go_wp2_with fail
      refine (specInR _ _ _ _ false HS.out).mono ?_
      rintro e w2 ⟨rfl, rfl⟩
      go_wp2
      go_ret
      exact ⟨ret_b HV.out.symm, HB1.out⟩
    | true =>
      have hs' := (in_iff _ _ _).1 hs
      have HS : Hid (inB s 0 3652058 = true) := hs
      cases hd : inB d 0 3652058 with
      | false =>
        have HV : Hid (mayB r s d = false) := by unfold Hid mayB; rw [HR.out, hs, hd]; rfl
        have HD : Hid (inB d 0 3652058 = false) := hd
        clear hs hd
        go_enter Tryd.func11, Tryd.ntmps11
        go_wp2_with fail
        rw [← HW0.out]
        refine HOK.out.mono ?_
        rintro e w1 ⟨rfl, b1⟩
        have HB1 : Hid (Below w.heap.size w w1) := bstep HB0.out b1
        clear b1
        go_wp2_with fail
        refine (specInR _ _ _ _ true HS.out).mono ?_
        rintro e w2 ⟨rfl, rfl⟩
        go_wp2_with fail
        refine (specInR _ _ _ _ false HD.out).mono ?_
        rintro e w2 ⟨rfl, rfl⟩
        go_wp2
        go_ret
        exact ⟨ret_b HV.out.symm, HB1.out⟩
      | true =>
        have hd' := (in_iff _ _ _).1 hd
        have HV : Hid (mayB r s d = decide (d - s ≤ 11000)) := by unfold Hid mayB; rw [HR.out, hs, hd]; rfl
        have HD : Hid (inB d 0 3652058 = true) := hd
        clear hs hd
        go_enter Tryd.func11, Tryd.ntmps11
        go_wp2_with fail
        rw [← HW0.out]
        refine HOK.out.mono ?_
        rintro e w1 ⟨rfl, b1⟩
        have HB1 : Hid (Below w.heap.size w w1) := bstep HB0.out b1
        clear b1
        go_wp2_with fail
        refine (specInR _ _ _ _ true HS.out).mono ?_
        rintro e w2 ⟨rfl, rfl⟩
        go_wp2_with fail
        refine (specInR _ _ _ _ true HD.out).mono ?_
        rintro e w2 ⟨rfl, rfl⟩
        go_wp2
        go_ret
        exact ⟨ret_b HV.out.symm, HB1.out⟩
end Go.Proofs.YtlnhagkipmcioaaDoor
namespace Go.Proofs.YtlnhagkipmcioaaDoor
open Go.RowKit Go.Shelf
set_option linter.unusedVariables false

theorem by_bd {r : Rl} (h : ruOf r = true) : ∀ j, j < r.ds.length → -1000 ≤ tAt r.ds j ∧ tAt r.ds j ≤ 1000 := by
  intro j hj
  unfold ruOf ruB at h
  simp only [Bool.and_eq_true] at h
  have h2 := h.2.1
  unfold dsB at h2
  simp only [Bool.and_eq_true] at h2
  have h3 := (dsA_iff _ _).1 h2.2 j hj
  unfold dstB at h3
  simp only [Bool.and_eq_true] at h3
  have h4 := (in_iff _ _ _).1 h3.2.1
  have h5 := numM_in r.f r.mo.length
  omega
theorem lim_le (r : Rl) (d : Int) : limT r d ≤ d := by unfold limT; split <;> omega
theorem tk_most {r : Rl} (hr : ROk r) {s T : Int} (h0 : 0 ≤ s) (h1 : s ≤ 3652058) (hT : T ≤ s + 11500) : tk r.ct (comes r s T) = (comes r s T).take (mostT r 20000).toNat := by
  have hl := @comes_len r hr s T h0 h1
  have c0 := hr.c0; have c1 := hr.c1
  unfold tk mostT
  by_cases hc : r.ct = 0
  · rw [if_pos hc, if_neg (by omega), List.take_of_length_le (by omega)]
  · rw [if_neg hc, if_pos (by omega)]
theorem on_eq {r : Rl} {s d : Int} (h : mayB r s d = true) : decide (firstT (comingT r s d (limT r d)) = d) = hasI ((comes r s (limT r d)).take (mostT r 20000).toNat) d := by
  obtain ⟨hru, ⟨s0, s1⟩, ⟨d0, d1⟩, hds⟩ := may_ok h
  have hr := (ru_ok hru).1
  have hT := lim_le r d
  unfold comingT
  rw [tk_most hr s0 s1 (by omega)]
  obtain ⟨M, hM⟩ : ∃ M, M = (comes r s (limT r d)).take (mostT r 20000).toNat := ⟨_, rfl⟩
  rw [← hM]
  have hle : ∀ x ∈ M, x ≤ d := fun x hx => by
    rw [hM] at hx
    have := comes_mem (List.mem_of_mem_take hx); omega
  rw [Bool.eq_iff_iff]
  unfold hasI
  simp only [decide_eq_true_eq]
  constructor
  · intro e
    unfold firstT at e
    cases hf : M.filter (fun x => decide (d ≤ x)) with
    | nil => rw [hf] at e; simp at e; omega
    | cons y t =>
      rw [hf] at e
      have : y ∈ M.filter (fun x => decide (d ≤ x)) := by rw [hf]; exact List.mem_cons_self ..
      simp at e
      subst e
      exact (List.mem_filter.1 this).1
  · intro hm
    unfold firstT
    have hin : d ∈ M.filter (fun x => decide (d ≤ x)) := List.mem_filter.2 ⟨hm, by simp⟩
    cases hf : M.filter (fun x => decide (d ≤ x)) with
    | nil => rw [hf] at hin; simp at hin
    | cons y t =>
      have hy : y ∈ M.filter (fun x => decide (d ≤ x)) := by rw [hf]; exact List.mem_cons_self ..
      have h2 := List.mem_filter.1 hy
      have h3 := hle y h2.1
      have h4 : d ≤ y := by simpa using h2.2
      show y = d
      omega
set_option maxHeartbeats 4000000 in
theorem specRuleOn (r : Rl) (m : Rm) (s d : Int) (w : World) (hr : RAny w r m) :
    Calls Tryd.prog 5 #[.agg #[.int .i64 r.f, .int .i64 r.ev, .int .i64 r.ct, .int .i64 r.un, .slice m.a0 r.ds.length m.c0, .slice m.a1 r.da.length m.c1, .slice m.a2 r.mo.length m.c2, .slice m.a3 r.pl.length m.c3, .int .i64 r.wk], .int .i64 s, .int .i64 d] w fun e w' => e = .returned (.bool (onB r s d)) ∧ Below w.heap.size w w' := by
  obtain ⟨W0, hW0⟩ : ∃ W0, W0 = w.alloc (.cells #[.int .i64 r.f, .int .i64 r.ev, .int .i64 r.ct, .int .i64 r.un, .slice m.a0 r.ds.length m.c0, .slice m.a1 r.da.length m.c1, .slice m.a2 r.mo.length m.c2, .slice m.a3 r.pl.length m.c3, .int .i64 r.wk] 30) := ⟨_, rfl⟩
  have hb0 : Below w.heap.size w W0 := by rw [hW0]; exact (Below.refl _ w).alloc (Nat.le_refl _) _
  have HCB : Hid (CB W0 w.heap.size r m) := by unfold Hid; rw [hW0]; exact CB.new w r m _
  have HW0 : Hid (W0 = w.alloc (.cells #[.int .i64 r.f, .int .i64 r.ev, .int .i64 r.ct, .int .i64 r.un, .slice m.a0 r.ds.length m.c0, .slice m.a1 r.da.length m.c1, .slice m.a2 r.mo.length m.c2, .slice m.a3 r.pl.length m.c3, .int .i64 r.wk] 30)) := hW0
  have HB0 : Hid (Below w.heap.size w W0) := hb0
  have HR0 : Hid (RAny W0 r m) := hr.on hb0
  have HM := specAsked r m s d W0 HR0.out
  clear hW0 hb0 hr
  cases h1 : mayB r s d with
  | false =>
    have HV : Hid (onB r s d = false) := by unfold Hid onB; rw [h1]; rfl
    rw [h1] at HM
    clear h1
    go_enter Tryd.func5, Tryd.ntmps5
    go_wp2_with fail
    rw [← HW0.out]
    refine HM.mono ?_
    rintro e w1 ⟨rfl, b1⟩
    have HB1 : Hid (Below w.heap.size w w1) := bstep HB0.out b1
    clear b1 HM
    go_wp2
    go_ret
    exact ⟨ret_b HV.out.symm, HB1.out⟩
  | true =>
    have HV : Hid (onB r s d = hasI ((comes r s (limT r d)).take (mostT r 20000).toNat) d) := by unfold Hid onB; rw [h1, Bool.true_and]; exact on_eq h1
    obtain ⟨hru, ⟨s0, s1⟩, ⟨d0, d1⟩, hds⟩ := may_ok h1
    have HRU : Hid (ruOf r = true) := hru
    have hT := lim_le r d
    have hll : ((comes r s (limT r d)).take (mostT r 20000).toNat).length ≤ 4000000 := by
      have := @comes_len r (ru_ok hru).1 s (limT r d) s0 s1
      rw [List.length_take]; omega
    rw [h1] at HM
    clear h1 hru
    go_enter Tryd.func5, Tryd.ntmps5
    go_wp2_with fail
    rw [← HW0.out]
    refine HM.mono ?_
    rintro e w1 ⟨rfl, b1⟩
    have HB1 : Hid (Below w.heap.size w w1) := bstep HB0.out b1
    have HR1 : Hid (RIn w1 r m) := (HR0.out.on b1).ok HRU.out
    obtain ⟨q0, q1, q2, q3, q4, q5, q6, q7, q8⟩ := HCB.out.on (b1.block _ HCB.out.lt)
    clear b1 HM
    go_wp2_with fail
    refine (specDaysL r m s d 20000 w1 HR1.out.ok HR1.out.mem HR1.out.l0 HR1.out.l1 HR1.out.l2 HR1.out.l3 (by_bd HRU.out) s0 s1 (by omega) (by omega)).mono ?_
    rintro e w2 ⟨⟨v, rfl, ov⟩, b2⟩
    have HB2 : Hid (Below w.heap.size w w2) := bstep HB1.out b2
    obtain ⟨M, hM⟩ : ∃ M, M = (comes r s (limT r d)).take (mostT r 20000).toNat := ⟨_, rfl⟩
    rw [← hM] at ov HV hll
    obtain ⟨av, cv, rfl, iv, _, _⟩ := ov.val
    have HIV : Hid (IsInts w2 av M) := iv
    clear b2 q0 q1 q2 q3 q4 q5 q6 q7 q8 ov iv hM
    go_wp2_with fail
    refine (specHas _ _ _ _ _ HIV.out hll _ rfl).mono ?_
    rintro e w3 ⟨rfl, hw3⟩
    rw [hw3]
    clear hw3
    go_wp2
    go_ret
    exact ⟨ret_b HV.out.symm, HB2.out⟩
end Go.Proofs.YtlnhagkipmcioaaDoor
namespace Go.Proofs.YtlnhagkipmcioaaDoor
open Go.RowKit
set_option linter.unusedVariables false
/-- What stands while the copy is held against the rule. -/
abbrev RK (w : World) (b b' : Nat) (v0 v1 v2 v3 v4 v5 v6 v7 v8 u4 u5 u6 u7 : Value) (a0 : Option Addr) (ds : List (Int × Int)) (a1 : Option Addr) (da : List Int) (a2 : Option Addr) (mo : List Int) (a3 : Option Addr) (pl : List Int) (A0 A1 A2 A3 : Option Addr) (W : World) : Prop :=
  W.cell? ⟨b, 0, none⟩ = some v0 ∧ W.cell? ⟨b, 1, none⟩ = some v1 ∧ W.cell? ⟨b, 2, none⟩ = some v2 ∧ W.cell? ⟨b, 3, none⟩ = some v3 ∧ W.cell? ⟨b, 4, none⟩ = some v4 ∧ W.cell? ⟨b, 5, none⟩ = some v5 ∧ W.cell? ⟨b, 6, none⟩ = some v6 ∧ W.cell? ⟨b, 7, none⟩ = some v7 ∧ W.cell? ⟨b, 8, none⟩ = some v8 ∧ W.cell? ⟨b', 0, none⟩ = some v0 ∧ W.cell? ⟨b', 1, none⟩ = some v1 ∧ W.cell? ⟨b', 2, none⟩ = some v2 ∧ W.cell? ⟨b', 3, none⟩ = some v3 ∧ W.cell? ⟨b', 4, none⟩ = some u4 ∧ W.cell? ⟨b', 5, none⟩ = some u5 ∧ W.cell? ⟨b', 6, none⟩ = some u6 ∧ W.cell? ⟨b', 7, none⟩ = some u7 ∧ W.cell? ⟨b', 8, none⟩ = some v8 ∧ IsTurns W a0 ds ∧ IsInts W a1 da ∧ IsInts W a2 mo ∧ IsInts W a3 pl ∧ IsTurns W A0 ds ∧ IsInts W A1 da ∧ IsInts W A2 mo ∧ IsInts W A3 pl ∧ Below w.heap.size w W
theorem RK.mk {w W : World} {b b' : Nat} {v0 v1 v2 v3 v4 v5 v6 v7 v8 u4 u5 u6 u7 : Value} {a0 : Option Addr} {ds : List (Int × Int)} {a1 : Option Addr} {da : List Int} {a2 : Option Addr} {mo : List Int} {a3 : Option Addr} {pl : List Int} {A0 A1 A2 A3 : Option Addr} {w1 : World}
    (h : QR w b v0 v1 v2 v3 v4 v5 v6 v7 v8 a0 ds a1 da a2 mo a3 pl W) (k : QR w1 b' v0 v1 v2 v3 u4 u5 u6 u7 v8 A0 ds A1 da A2 mo A3 pl W) : RK w b b' v0 v1 v2 v3 v4 v5 v6 v7 v8 u4 u5 u6 u7 a0 ds a1 da a2 mo a3 pl A0 A1 A2 A3 W := by
  obtain ⟨x0, x1, x2, x3, x4, x5, x6, x7, x8, T, I1, I2, I3, B⟩ := h
  obtain ⟨y0, y1, y2, y3, y4, y5, y6, y7, y8, T', J1, J2, J3, _⟩ := k
  exact ⟨x0, x1, x2, x3, x4, x5, x6, x7, x8, y0, y1, y2, y3, y4, y5, y6, y7, y8, T, I1, I2, I3, T', J1, J2, J3, B⟩
theorem RK.q1 {w W : World} {b b' : Nat} {v0 v1 v2 v3 v4 v5 v6 v7 v8 u4 u5 u6 u7 : Value} {a0 : Option Addr} {ds : List (Int × Int)} {a1 : Option Addr} {da : List Int} {a2 : Option Addr} {mo : List Int} {a3 : Option Addr} {pl : List Int} {A0 A1 A2 A3 : Option Addr}
    (h : RK w b b' v0 v1 v2 v3 v4 v5 v6 v7 v8 u4 u5 u6 u7 a0 ds a1 da a2 mo a3 pl A0 A1 A2 A3 W) : QR w b v0 v1 v2 v3 v4 v5 v6 v7 v8 a0 ds a1 da a2 mo a3 pl W ∧ QR w b' v0 v1 v2 v3 u4 u5 u6 u7 v8 A0 ds A1 da A2 mo A3 pl W := by
  obtain ⟨x0, x1, x2, x3, x4, x5, x6, x7, x8, y0, y1, y2, y3, y4, y5, y6, y7, y8, T, I1, I2, I3, T', J1, J2, J3, B⟩ := h
  exact ⟨⟨x0, x1, x2, x3, x4, x5, x6, x7, x8, T, I1, I2, I3, B⟩, ⟨y0, y1, y2, y3, y4, y5, y6, y7, y8, T', J1, J2, J3, B⟩⟩
theorem RK.on {w W W' : World} {b b' : Nat} {v0 v1 v2 v3 v4 v5 v6 v7 v8 u4 u5 u6 u7 : Value} {a0 : Option Addr} {ds : List (Int × Int)} {a1 : Option Addr} {da : List Int} {a2 : Option Addr} {mo : List Int} {a3 : Option Addr} {pl : List Int} {A0 A1 A2 A3 : Option Addr}
    (h : RK w b b' v0 v1 v2 v3 v4 v5 v6 v7 v8 u4 u5 u6 u7 a0 ds a1 da a2 mo a3 pl A0 A1 A2 A3 W) (hb : Below W.heap.size W W') : RK w b b' v0 v1 v2 v3 v4 v5 v6 v7 v8 u4 u5 u6 u7 a0 ds a1 da a2 mo a3 pl A0 A1 A2 A3 W' := by
  obtain ⟨p, q⟩ := RK.q1 h
  exact RK.mk (p.on hb) (q.on hb)
set_option maxRecDepth 100000 in
set_option maxHeartbeats 16000000 in
theorem lawExRuleOn (f ev ct un : Int) (a0 : Option Addr) (c0 : Nat) (ds : List (Int × Int)) (a1 : Option Addr) (c1 : Nat) (da : List Int) (a2 : Option Addr) (c2 : Nat) (mo : List Int) (a3 : Option Addr) (c3 : Nat) (pl : List Int) (wk sd dd : Int) (w : World) (ht : Tab w) (h0 : IsTurns w a0 ds) (h1 : IsInts w a1 da) (h2 : IsInts w a2 mo) (h3 : IsInts w a3 pl) (m0 : ds.length ≤ maxLen) (m1 : da.length ≤ maxLen) (m2 : mo.length ≤ maxLen) (m3 : pl.length ≤ maxLen) :
    Calls Tryd.prog 3 #[.agg #[.int .i64 f, .int .i64 ev, .int .i64 ct, .int .i64 un, .slice a0 ds.length c0, .slice a1 da.length c1, .slice a2 mo.length c2, .slice a3 pl.length c3, .int .i64 wk], .int .i64 sd, .int .i64 dd] w fun z w' => z = .returned (.bool true) ∧ Below w.heap.size w w' := by
  have K : QR w w.heap.size (.int .i64 f) (.int .i64 ev) (.int .i64 ct) (.int .i64 un) (.slice a0 ds.length c0) (.slice a1 da.length c1) (.slice a2 mo.length c2) (.slice a3 pl.length c3) (.int .i64 wk) a0 ds a1 da a2 mo a3 pl (w.alloc (.cells #[.int .i64 f, .int .i64 ev, .int .i64 ct, .int .i64 un, .slice a0 ds.length c0, .slice a1 da.length c1, .slice a2 mo.length c2, .slice a3 pl.length c3, .int .i64 wk] 25)) := QR.new _ h0 h1 h2 h3
  clear h0 h1 h2 h3
  have HT : Hid (Tab w) := ht
  clear ht
  go_enter Tryd.func3, Tryd.ntmps3
  go_wp2_with fail
  generalize w.alloc (.cells #[.int .i64 f, .int .i64 ev, .int .i64 ct, .int .i64 un, .slice a0 ds.length c0, .slice a1 da.length c1, .slice a2 mo.length c2, .slice a3 pl.length c3, .int .i64 wk] 25) = W0 at K ⊢
  refine (lawSzRule _ _ _ _ _ _ _ _ _ _ _ _ _ _ _ _ _ _ m0 m1 m2 m3).mono ?_
  rintro e w1 ⟨rfl, b1⟩
  replace K := QR.on K b1
  clear b1
  by_cases hz : ds.length + da.length + mo.length + pl.length ≤ 1048576
  · have hv : szr ds.length da.length mo.length pl.length = 1048576 - (ds.length : Int) - (da.length : Int) - (mo.length : Int) - (pl.length : Int) := if_pos hz
    rw [hv]
    clear hv
    have l0 : ds.length ≤ 2000000 := by omega
    have l1 : da.length ≤ 2000000 := by omega
    have l2 : mo.length ≤ 2000000 := by omega
    have l3 : pl.length ≤ 2000000 := by omega
    have X := K
    obtain ⟨x0, x1, x2, x3, x4, x5, x6, x7, x8, _⟩ := X
    go_wp2_with fail
    refine (lawToRule f ev ct un a0 c0 ds a1 c1 da a2 c2 mo a3 c3 pl wk _ K.t K.i1 K.i2 K.i3 l0 l1 l2 l3).mono ?_
    rintro e w2 ⟨q0, q1, q2, q3, rfl, t0, t1, t2, t3, b2⟩
    replace K := QR.on K b2
    clear b2 x0 x1 x2 x3 x4 x5 x6 x7 x8
    have hsp := specRuleOn ⟨f, ev, ct, un, ds, da, mo, pl, wk⟩ ⟨some ⟨q0, 0, none⟩, ds.length, some ⟨q1, 0, none⟩, da.length, some ⟨q2, 0, none⟩, mo.length, some ⟨q3, 0, none⟩, pl.length⟩ sd dd w2 ⟨l0, l1, l2, l3, ⟨t0, t1, t2, t3⟩, HT.out.on K.b⟩
    go_wp2_with fail
    refine hsp.mono ?_
    clear hsp
    rintro e w3 ⟨rfl, b3⟩
    replace K := QR.on K b3
    clear b3 t0 t1 t2 t3
    have X := K
    obtain ⟨x0, x1, x2, x3, x4, x5, x6, x7, x8, _⟩ := X
    go_wp2_with fail
    refine (lawToRule f ev ct un a0 c0 ds a1 c1 da a2 c2 mo a3 c3 pl wk _ K.t K.i1 K.i2 K.i3 l0 l1 l2 l3).mono ?_
    rintro e w4 ⟨g0, g1, g2, g3, rfl, t0, t1, t2, t3, b4⟩
    replace K := QR.on K b4
    clear b4 x0 x1 x2 x3 x4 x5 x6 x7 x8
    have b5 : Below w4.heap.size w4 (w4.alloc (.cells #[.int .i64 f, .int .i64 ev, .int .i64 ct, .int .i64 un, .slice (some ⟨g0, 0, none⟩) ds.length ds.length, .slice (some ⟨g1, 0, none⟩) da.length da.length, .slice (some ⟨g2, 0, none⟩) mo.length mo.length, .slice (some ⟨g3, 0, none⟩) pl.length pl.length, .int .i64 wk] 30)) := (Below.refl _ _).alloc (Nat.le_refl _) _
    replace K := QR.on K b5
    have L : QR w4 w4.heap.size (.int .i64 f) (.int .i64 ev) (.int .i64 ct) (.int .i64 un) (.slice (some ⟨g0, 0, none⟩) ds.length ds.length) (.slice (some ⟨g1, 0, none⟩) da.length da.length) (.slice (some ⟨g2, 0, none⟩) mo.length mo.length) (.slice (some ⟨g3, 0, none⟩) pl.length pl.length) (.int .i64 wk) (some ⟨g0, 0, none⟩) ds (some ⟨g1, 0, none⟩) da (some ⟨g2, 0, none⟩) mo (some ⟨g3, 0, none⟩) pl (w4.alloc (.cells #[.int .i64 f, .int .i64 ev, .int .i64 ct, .int .i64 un, .slice (some ⟨g0, 0, none⟩) ds.length ds.length, .slice (some ⟨g1, 0, none⟩) da.length da.length, .slice (some ⟨g2, 0, none⟩) mo.length mo.length, .slice (some ⟨g3, 0, none⟩) pl.length pl.length, .int .i64 wk] 30)) := QR.new _ t0 t1 t2 t3
    clear b5 t0 t1 t2 t3
    go_wp2_with fail
    generalize w4.alloc (.cells #[.int .i64 f, .int .i64 ev, .int .i64 ct, .int .i64 un, .slice (some ⟨g0, 0, none⟩) ds.length ds.length, .slice (some ⟨g1, 0, none⟩) da.length da.length, .slice (some ⟨g2, 0, none⟩) mo.length mo.length, .slice (some ⟨g3, 0, none⟩) pl.length pl.length, .int .i64 wk] 30) = W5 at K L ⊢
    refine (implRuleOn ⟨f, ev, ct, un, ds, da, mo, pl, wk⟩ ⟨some ⟨g0, 0, none⟩, ds.length, some ⟨g1, 0, none⟩, da.length, some ⟨g2, 0, none⟩, mo.length, some ⟨g3, 0, none⟩, pl.length⟩ sd dd _ ⟨l0, l1, l2, l3, ⟨L.t, L.i1, L.i2, L.i3⟩, HT.out.on K.b⟩).mono ?_
    rintro e w6 ⟨rfl, b6⟩
    have M := RK.mk (QR.on K b6) (QR.on L b6)
    clear b6 K L
    go_wp2
    go_region_held3 (fun w' => w'.cell? ⟨w.heap.size, 0, none⟩ = some (.int .i64 f) ∧ w'.cell? ⟨w.heap.size, 1, none⟩ = some (.int .i64 ev) ∧ w'.cell? ⟨w.heap.size, 2, none⟩ = some (.int .i64 ct) ∧ w'.cell? ⟨w.heap.size, 3, none⟩ = some (.int .i64 un) ∧ w'.cell? ⟨w.heap.size, 4, none⟩ = some (.slice a0 ds.length c0) ∧ w'.cell? ⟨w.heap.size, 5, none⟩ = some (.slice a1 da.length c1) ∧ w'.cell? ⟨w.heap.size, 6, none⟩ = some (.slice a2 mo.length c2) ∧ w'.cell? ⟨w.heap.size, 7, none⟩ = some (.slice a3 pl.length c3) ∧ w'.cell? ⟨w.heap.size, 8, none⟩ = some (.int .i64 wk) ∧ w'.cell? ⟨w4.heap.size, 0, none⟩ = some (.int .i64 f) ∧ w'.cell? ⟨w4.heap.size, 1, none⟩ = some (.int .i64 ev) ∧ w'.cell? ⟨w4.heap.size, 2, none⟩ = some (.int .i64 ct) ∧ w'.cell? ⟨w4.heap.size, 3, none⟩ = some (.int .i64 un) ∧ w'.cell? ⟨w4.heap.size, 4, none⟩ = some (.slice (some ⟨g0, 0, none⟩) ds.length ds.length) ∧ w'.cell? ⟨w4.heap.size, 5, none⟩ = some (.slice (some ⟨g1, 0, none⟩) da.length da.length) ∧ w'.cell? ⟨w4.heap.size, 6, none⟩ = some (.slice (some ⟨g2, 0, none⟩) mo.length mo.length) ∧ w'.cell? ⟨w4.heap.size, 7, none⟩ = some (.slice (some ⟨g3, 0, none⟩) pl.length pl.length) ∧ w'.cell? ⟨w4.heap.size, 8, none⟩ = some (.int .i64 wk) ∧ IsTurns w' a0 ds ∧ IsInts w' a1 da ∧ IsInts w' a2 mo ∧ IsInts w' a3 pl ∧ IsTurns w' (some ⟨g0, 0, none⟩) ds ∧ IsInts w' (some ⟨g1, 0, none⟩) da ∧ IsInts w' (some ⟨g2, 0, none⟩) mo ∧ IsInts w' (some ⟨g3, 0, none⟩) pl ∧ Below w.heap.size w w')
      (first | assumption | exact RK.on M (Below.refl _ _).drew | exact RK.on (by assumption) hb7)
      (first
        | (go_at_call 6; refine (lawToRule f ev ct un a0 c0 ds a1 c1 da a2 c2 mo a3 c3 pl wk _ (RK.q1 (by assumption)).1.t (RK.q1 (by assumption)).1.i1 (RK.q1 (by assumption)).1.i2 (RK.q1 (by assumption)).1.i3 l0 l1 l2 l3).mono ?_; rintro e w7 ⟨p0, p1, p2, p3, rfl, s0, s1, s2, s3, hb7⟩)
        | (go_at_call 8; refine (lawEqRule _ _ _ _ _ _ ds _ _ da _ _ mo _ _ pl _ _ _ _ _ _ _ _ _ _ (RK.q1 (by assumption)).2.t (RK.q1 (by assumption)).2.i1 (RK.q1 (by assumption)).2.i2 (RK.q1 (by assumption)).2.i3 s0 s1 s2 s3 l0 l1 l2 l3).mono ?_; rintro e w8 ⟨rfl, hb7⟩))
    go_wp2
    go_ret
    exact ⟨rfl, (RK.q1 (by assumption)).1.b⟩
  · have hv : szr ds.length da.length mo.length pl.length = -1 := if_neg hz
    rw [hv]
    go_wp2
    go_ret
    exact ⟨rfl, K.b⟩
end Go.Proofs.YtlnhagkipmcioaaDoor
