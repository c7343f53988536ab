/- Whether a rule may be asked, whether something comes on a day, and when next: the program's. -/
import Derived.Test.YtlfglhpepoepcaaDoorKi
import Derived.Test.YtlfglhpepoepcaaDoorRy
namespace Go.Proofs.YtlfglhpepoepcaaDoor
open Go.RowKit Go.Shelf
set_option linter.unusedVariables false

def ruOf (r : Rl) : Bool := ruB r.f r.ev r.ct r.un r.ds r.da r.mo r.pl r.wk
theorem ru_ok {r : Rl} (h : ruOf r = true) : ROk r ∧ r.ds.length ≤ 8 ∧ r.da.length ≤ 8 ∧ r.mo.length ≤ 8 ∧ r.pl.length ≤ 8 := by
  unfold ruOf ruB at h
  simp only [Bool.and_eq_true] at h
  obtain ⟨h1, h2, h3⟩ := h
  obtain ⟨⟨a0, a1⟩, ⟨a2, a3⟩, ⟨a4, a5⟩, ⟨a6, a7⟩, a8, ⟨a9, a10⟩⟩ := (of_iff _ _ _ _ _).1 h1
  unfold dsB at h2
  unfold liB nuB at h3
  simp only [Bool.and_eq_true, decide_eq_true_eq] at h2 h3
  exact ⟨⟨a0, a1, a2, a3, a4, a5, a6, a7, a9, a10⟩, h2.1, h3.2.2.1.1, h3.2.2.2.1.1, h3.2.2.2.2.1⟩
def mayB (r : Rl) (s d : Int) : Bool := ruOf r && (inB s 0 3652058 && (inB d 0 3652058 && decide (d - s ≤ 11000)))
theorem may_ok {r : Rl} {s d : Int} (h : mayB r s d = true) : ruOf r = true ∧ (0 ≤ s ∧ s ≤ 3652058) ∧ (0 ≤ d ∧ d ≤ 3652058) ∧ d - s ≤ 11000 := by
  unfold mayB at h
  simp only [Bool.and_eq_true, decide_eq_true_eq] at h
  exact ⟨h.1, (in_iff _ _ _).1 h.2.1, (in_iff _ _ _).1 h.2.2.1, h.2.2.2⟩
/-- A rule of any kind in memory. -/
structure RAny (w : World) (r : Rl) (m : Rm) : Prop where
  l0 : r.ds.length ≤ 2000000
  l1 : r.da.length ≤ 2000000
  l2 : r.mo.length ≤ 2000000
  l3 : r.pl.length ≤ 2000000
  mem : RMem w r m
  tab : Tab w
theorem RAny.on {w w' : World} {r : Rl} {m : Rm} (h : RAny w r m) (hb : Below w.heap.size w w') : RAny w' r m := ⟨h.l0, h.l1, h.l2, h.l3, h.mem.below hb, h.tab.on hb⟩
theorem RAny.ok {w : World} {r : Rl} {m : Rm} (h : RAny w r m) (hr : ruOf r = true) : RIn w r m := by
  obtain ⟨a, b, c, d, e⟩ := ru_ok hr
  exact ⟨a, b, c, d, e, h.mem, h.tab⟩
set_option maxHeartbeats 4000000 in
theorem implMayAsk (r : Rl) (m : Rm) (s d : Int) (w : World) (hr : RAny w r m) :
    Calls Tryd.prog 38 #[.agg #[.int .i64 r.f, .int .i64 r.ev, .int .i64 r.ct, .int .i64 r.un, .slice m.a0 r.ds.length m.c0, .slice m.a1 r.da.length m.c1, .slice m.a2 r.mo.length m.c2, .slice m.a3 r.pl.length m.c3, .int .i64 r.wk], .int .i64 s, .int .i64 d] w fun e w' => e = .returned (.bool (mayB r s d)) ∧ Below w.heap.size w w' := by
  obtain ⟨W0, hW0⟩ : ∃ W0, W0 = w.alloc (.cells #[.int .i64 r.f, .int .i64 r.ev, .int .i64 r.ct, .int .i64 r.un, .slice m.a0 r.ds.length m.c0, .slice m.a1 r.da.length m.c1, .slice m.a2 r.mo.length m.c2, .slice m.a3 r.pl.length m.c3, .int .i64 r.wk] 26) := ⟨_, rfl⟩
  have hb0 : Below w.heap.size w W0 := by rw [hW0]; exact (Below.refl _ w).alloc (Nat.le_refl _) _
  have HW0 : Hid (W0 = w.alloc (.cells #[.int .i64 r.f, .int .i64 r.ev, .int .i64 r.ct, .int .i64 r.un, .slice m.a0 r.ds.length m.c0, .slice m.a1 r.da.length m.c1, .slice m.a2 r.mo.length m.c2, .slice m.a3 r.pl.length m.c3, .int .i64 r.wk] 26)) := hW0
  have HB0 : Hid (Below w.heap.size w W0) := hb0
  have hr0 := hr.on hb0
  have HOK : Hid (Calls Tryd.prog 54 #[.agg #[.int .i64 r.f, .int .i64 r.ev, .int .i64 r.ct, .int .i64 r.un, .slice m.a0 r.ds.length m.c0, .slice m.a1 r.da.length m.c1, .slice m.a2 r.mo.length m.c2, .slice m.a3 r.pl.length m.c3, .int .i64 r.wk]] W0 fun z w' => z = .returned (.bool (ruOf r)) ∧ Below W0.heap.size W0 w') := implRuleOk _ _ _ _ _ _ _ _ _ _ _ _ _ _ _ _ _ W0 hr0.mem.t hr0.mem.d hr0.mem.o hr0.mem.p hr0.l0 hr0.l1 hr0.l2 hr0.l3
  clear hW0 hb0 hr0 hr
  cases h1 : ruOf r with
  | false =>
    have HV : Hid (mayB r s d = false) := by unfold Hid mayB; rw [h1]; rfl
    rw [h1] at HOK
    clear h1
    go_enter Tryd.func38, Tryd.ntmps38
    go_wp2_with fail
    rw [← HW0.out]
    refine HOK.out.mono ?_
    rintro e w1 ⟨rfl, b1⟩
    have HB1 : Hid (Below w.heap.size w w1) := bstep HB0.out b1
    clear b1
    go_wp2
    go_ret
    exact ⟨ret_b HV.out.symm, HB1.out⟩
  | true =>
    rw [h1] at HOK
    have HR : Hid (ruOf r = true) := h1
    clear h1
    by_cases hs : 0 ≤ s ∧ s ≤ 3652058
    · by_cases hd : 0 ≤ d ∧ d ≤ 3652058
      · have HV : Hid (mayB r s d = decide (d - s ≤ 11000)) := by unfold Hid mayB; rw [HR.out, (in_iff _ _ _).2 hs, (in_iff _ _ _).2 hd]; rfl
        obtain ⟨s0, s1⟩ := hs
        obtain ⟨d0, d1⟩ := hd
        go_enter Tryd.func38, Tryd.ntmps38
        go_wp2_with fail
        rw [← HW0.out]
        refine HOK.out.mono ?_
        rintro e w1 ⟨rfl, b1⟩
        have HB1 : Hid (Below w.heap.size w w1) := bstep HB0.out b1
        clear b1
        go_wp2_with fail
        refine (implDayR s _ true ((in_iff _ _ _).2 ⟨s0, s1⟩)).mono ?_
        rintro e w2 ⟨rfl, rfl⟩
        go_wp2_with fail
        refine (implDayR d _ true ((in_iff _ _ _).2 ⟨d0, d1⟩)).mono ?_
        rintro e w2 ⟨rfl, rfl⟩
        go_wp2
        go_ret
        exact ⟨ret_b HV.out.symm, HB1.out⟩
      · have HV : Hid (mayB r s d = false) := by unfold Hid mayB; rw [HR.out, (in_iff _ _ _).2 hs, (in_not _ _ _).2 hd]; rfl
        go_enter Tryd.func38, Tryd.ntmps38
        go_wp2_with fail
        rw [← HW0.out]
        refine HOK.out.mono ?_
        rintro e w1 ⟨rfl, b1⟩
        have HB1 : Hid (Below w.heap.size w w1) := bstep HB0.out b1
        clear b1
        go_wp2_with fail
        refine (implDayR s _ true ((in_iff _ _ _).2 hs)).mono ?_
        rintro e w2 ⟨rfl, rfl⟩
        go_wp2_with fail
        refine (implDayR d _ false ((in_not _ _ _).2 hd)).mono ?_
        rintro e w2 ⟨rfl, rfl⟩
        go_wp2
        go_ret
        exact ⟨ret_b HV.out.symm, HB1.out⟩
    · have HV : Hid (mayB r s d = false) := by unfold Hid mayB; rw [HR.out, (in_not _ _ _).2 hs]; rfl
      go_enter Tryd.func38, Tryd.ntmps38
      go_wp2_with fail
      rw [← HW0.out]
      refine HOK.out.mono ?_
      rintro e w1 ⟨rfl, b1⟩
      have HB1 : Hid (Below w.heap.size w w1) := bstep HB0.out b1
      clear b1
      go_wp2_with fail
      refine (implDayR s _ false ((in_not _ _ _).2 hs)).mono ?_
      rintro e w2 ⟨rfl, rfl⟩
      go_wp2
      go_ret
      exact ⟨ret_b HV.out.symm, HB1.out⟩
def onB (r : Rl) (s d : Int) : Bool := mayB r s d && decide (firstT (comingT r s d (limT r d)) = d)
set_option maxHeartbeats 4000000 in
theorem implRuleOn (r : Rl) (m : Rm) (s d : Int) (w : World) (hr : RAny w r m) :
    Calls Tryd.prog 22 #[.agg #[.int .i64 r.f, .int .i64 r.ev, .int .i64 r.ct, .int .i64 r.un, .slice m.a0 r.ds.length m.c0, .slice m.a1 r.da.length m.c1, .slice m.a2 r.mo.length m.c2, .slice m.a3 r.pl.length m.c3, .int .i64 r.wk], .int .i64 s, .int .i64 d] w fun e w' => e = .returned (.bool (onB r s d)) ∧ Below w.heap.size w w' := by
  obtain ⟨W0, hW0⟩ : ∃ W0, W0 = w.alloc (.cells #[.int .i64 r.f, .int .i64 r.ev, .int .i64 r.ct, .int .i64 r.un, .slice m.a0 r.ds.length m.c0, .slice m.a1 r.da.length m.c1, .slice m.a2 r.mo.length m.c2, .slice m.a3 r.pl.length m.c3, .int .i64 r.wk] 26) := ⟨_, rfl⟩
  have hb0 : Below w.heap.size w W0 := by rw [hW0]; exact (Below.refl _ w).alloc (Nat.le_refl _) _
  have HCB : Hid (CB W0 w.heap.size r m) := by unfold Hid; rw [hW0]; exact CB.new w r m _
  have HW0 : Hid (W0 = w.alloc (.cells #[.int .i64 r.f, .int .i64 r.ev, .int .i64 r.ct, .int .i64 r.un, .slice m.a0 r.ds.length m.c0, .slice m.a1 r.da.length m.c1, .slice m.a2 r.mo.length m.c2, .slice m.a3 r.pl.length m.c3, .int .i64 r.wk] 26)) := hW0
  have HB0 : Hid (Below w.heap.size w W0) := hb0
  have HR0 : Hid (RAny W0 r m) := hr.on hb0
  have HM := implMayAsk r m s d W0 HR0.out
  clear hW0 hb0 hr
  cases h1 : mayB r s d with
  | false =>
    have HV : Hid (onB r s d = false) := by unfold Hid onB; rw [h1]; rfl
    rw [h1] at HM
    clear h1
    go_enter Tryd.func22, Tryd.ntmps22
    go_wp2_with fail
    rw [← HW0.out]
    refine HM.mono ?_
    rintro e w1 ⟨rfl, b1⟩
    have HB1 : Hid (Below w.heap.size w w1) := bstep HB0.out b1
    clear b1 HM
    go_wp2
    go_ret
    exact ⟨ret_b HV.out.symm, HB1.out⟩
  | true =>
    have HV : Hid (onB r s d = decide (firstT (comingT r s d (limT r d)) = d)) := by unfold Hid onB; rw [h1]; rfl
    obtain ⟨hru, ⟨s0, s1⟩, ⟨d0, d1⟩, _⟩ := may_ok h1
    have HRU : Hid (ruOf r = true) := hru
    rw [h1] at HM
    clear h1 hru
    go_enter Tryd.func22, Tryd.ntmps22
    go_wp2_with fail
    rw [← HW0.out]
    refine HM.mono ?_
    rintro e w1 ⟨rfl, b1⟩
    have HB1 : Hid (Below w.heap.size w w1) := bstep HB0.out b1
    have HR1 : Hid (RIn w1 r m) := (HR0.out.on b1).ok HRU.out
    obtain ⟨q0, q1, q2, q3, q4, q5, q6, q7, q8⟩ := HCB.out.on (b1.block _ HCB.out.lt)
    clear b1 HM
    go_wp2_with fail
    refine (implFirst r m s d d w1 HR1.out s0 s1).mono ?_
    rintro e w2 ⟨rfl, b2⟩
    have HB2 : Hid (Below w.heap.size w w2) := bstep HB1.out b2
    clear b2 q0 q1 q2 q3 q4 q5 q6 q7 q8
    go_wp2
    go_ret
    exact ⟨ret_b HV.out.symm, HB2.out⟩
def nextV (r : Rl) (s d : Int) : Int := if mayB r s d = true then firstT (comingT r s d (limT r (min (d + 366) (s + 11000)))) else -1
set_option maxHeartbeats 4000000 in
theorem implRuleNext (r : Rl) (m : Rm) (s d : Int) (w : World) (hr : RAny w r m) :
    Calls Tryd.prog 30 #[.agg #[.int .i64 r.f, .int .i64 r.ev, .int .i64 r.ct, .int .i64 r.un, .slice m.a0 r.ds.length m.c0, .slice m.a1 r.da.length m.c1, .slice m.a2 r.mo.length m.c2, .slice m.a3 r.pl.length m.c3, .int .i64 r.wk], .int .i64 s, .int .i64 d] w fun e w' => e = .returned (.int .i64 (nextV r s d)) ∧ Below w.heap.size w w' := by
  obtain ⟨W0, hW0⟩ : ∃ W0, W0 = w.alloc (.cells #[.int .i64 r.f, .int .i64 r.ev, .int .i64 r.ct, .int .i64 r.un, .slice m.a0 r.ds.length m.c0, .slice m.a1 r.da.length m.c1, .slice m.a2 r.mo.length m.c2, .slice m.a3 r.pl.length m.c3, .int .i64 r.wk] 26) := ⟨_, rfl⟩
  have hb0 : Below w.heap.size w W0 := by rw [hW0]; exact (Below.refl _ w).alloc (Nat.le_refl _) _
  have HCB : Hid (CB W0 w.heap.size r m) := by unfold Hid; rw [hW0]; exact CB.new w r m _
  have HW0 : Hid (W0 = w.alloc (.cells #[.int .i64 r.f, .int .i64 r.ev, .int .i64 r.ct, .int .i64 r.un, .slice m.a0 r.ds.length m.c0, .slice m.a1 r.da.length m.c1, .slice m.a2 r.mo.length m.c2, .slice m.a3 r.pl.length m.c3, .int .i64 r.wk] 26)) := hW0
  have HB0 : Hid (Below w.heap.size w W0) := hb0
  have HR0 : Hid (RAny W0 r m) := hr.on hb0
  have HM := implMayAsk r m s d W0 HR0.out
  clear hW0 hb0 hr
  cases h1 : mayB r s d with
  | false =>
    have HV : Hid (nextV r s d = -1) := by unfold Hid nextV; rw [h1]; rfl
    rw [h1] at HM
    clear h1
    go_enter Tryd.func30, Tryd.ntmps30
    go_wp2_with fail
    rw [← HW0.out]
    refine HM.mono ?_
    rintro e w1 ⟨rfl, b1⟩
    have HB1 : Hid (Below w.heap.size w w1) := bstep HB0.out b1
    clear b1 HM
    go_wp2
    go_ret
    exact ⟨ret_i HV.out.symm, HB1.out⟩
  | true =>
    have HV : Hid (nextV r s d = firstT (comingT r s d (limT r (min (d + 366) (s + 11000))))) := by unfold Hid nextV; rw [h1]; rfl
    obtain ⟨hru, ⟨s0, s1⟩, ⟨d0, d1⟩, _⟩ := may_ok h1
    have HRU : Hid (ruOf r = true) := hru
    rw [h1] at HM
    clear h1 hru
    by_cases hmin : d + 366 ≤ s + 11000
    · have HMN : Hid (min (d + 366) (s + 11000) = d + 366) := by unfold Hid; omega
      go_enter Tryd.func30, Tryd.ntmps30
      go_wp2_with fail
      rw [← HW0.out]
      refine HM.mono ?_
      rintro e w1 ⟨rfl, b1⟩
      have HB1 : Hid (Below w.heap.size w w1) := bstep HB0.out b1
      have HR1 : Hid (RIn w1 r m) := (HR0.out.on b1).ok HRU.out
      obtain ⟨q0, q1, q2, q3, q4, q5, q6, q7, q8⟩ := HCB.out.on (b1.block _ HCB.out.lt)
      clear b1 HM
      go_wp2_with fail
      refine (implFirst r m s d _ w1 HR1.out s0 s1).mono ?_
      rintro e w2 ⟨rfl, b2⟩
      have HB2 : Hid (Below w.heap.size w w2) := bstep HB1.out b2
      clear b2 q0 q1 q2 q3 q4 q5 q6 q7 q8
      go_wp2
      go_ret
      exact ⟨ret_i (by rw [HV.out, HMN.out]), HB2.out⟩
    · have HMN : Hid (min (d + 366) (s + 11000) = s + 11000) := by unfold Hid; omega
      go_enter Tryd.func30, Tryd.ntmps30
      go_wp2_with fail
      rw [← HW0.out]
      refine HM.mono ?_
      rintro e w1 ⟨rfl, b1⟩
      have HB1 : Hid (Below w.heap.size w w1) := bstep HB0.out b1
      have HR1 : Hid (RIn w1 r m) := (HR0.out.on b1).ok HRU.out
      obtain ⟨q0, q1, q2, q3, q4, q5, q6, q7, q8⟩ := HCB.out.on (b1.block _ HCB.out.lt)
      clear b1 HM
      go_wp2_with fail
      refine (implFirst r m s d _ w1 HR1.out s0 s1).mono ?_
      rintro e w2 ⟨rfl, b2⟩
      have HB2 : Hid (Below w.heap.size w w2) := bstep HB1.out b2
      clear b2 q0 q1 q2 q3 q4 q5 q6 q7 q8
      go_wp2
      go_ret
      exact ⟨ret_i (by rw [HV.out, HMN.out]), HB2.out⟩
end Go.Proofs.YtlfglhpepoepcaaDoor
