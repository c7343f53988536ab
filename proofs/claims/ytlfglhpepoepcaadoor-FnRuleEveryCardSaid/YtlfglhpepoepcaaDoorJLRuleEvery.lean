/- Lists of numbers held against each other. -/
import Derived.Test.YtlfglhpepoepcaaDoorOi
import Derived.Test.YtlfglhpepoepcaaDoorJWi
import Derived.Test.YtlfglhpepoepcaaDoorJWa
namespace Go.Proofs.YtlfglhpepoepcaaDoor
open Go.RowKit
set_option linter.unusedVariables false
set_option maxHeartbeats 2000000 in
theorem lawEpInts (a a' : Option Addr) (cap cap' : Nat) (l : List Int) (w : World) (h : IsInts w a l) (h' : IsInts w a' l) (hl : l.length ≤ 4000000) :
    Calls Tryd.prog 19 #[.slice a l.length cap, .slice a' l.length cap'] w fun e w' => e = .returned (.bool true) ∧ Below w.heap.size w w' := by
  have H1 : Hid (IsInts w a l) := h
  have H2 : Hid (IsInts w a' l) := h'
  clear h h'
  go_enter Tryd.func19, Tryd.ntmps19
  go_wp2
  go_loopw [5] (fun i wr => ∃ k : Nat, k ≤ l.length ∧ i = .int .i64 k ∧ Below w.heap.size w wr) (fun i _ => l.length - (intOf i).toNat)
  case atStart => exact ⟨0, by omega, rfl, Below.refl _ _⟩
  case round =>
    obtain ⟨k, hk, rfl, hb⟩ := hrel
    by_cases hlt : k < l.length
    · have G1 := H1.out
      have G2 := H2.out
      rcases G1 with G1 | ⟨b, o, rfl, hbs, hc⟩
      · rw [G1] at hlt; simp at hlt
      rcases G2 with G2 | ⟨b', o', rfl, hbs', hc'⟩
      · rw [G2] at hlt; simp at hlt
      have c0 : wr.cell? ⟨b, o + k, none⟩ = some (.int .i64 (gi l k)) := by rw [hb.cell (p := ⟨b, o + k, none⟩) hbs]; exact hc k hlt
      have c1 : wr.cell? ⟨b', o' + k, none⟩ = some (.int .i64 (gi l k)) := by rw [hb.cell (p := ⟨b', o' + k, none⟩) hbs']; exact hc' k hlt
      clear hc hc'
      have hi1 : (k : Int) < (l.length : Int) := by omega
      have hi0 : (0 : Int) ≤ (k : Int) := by omega
      go_wp2
      go_quiet (fail)
      go_wp2
      go_roundw
      case rel => exact ⟨k + 1, by omega, by go_num, Below.drewN' hb _⟩
      case measure => simp [intOf]; omega
    · go_wp2
      go_ret
      exact ⟨rfl, hb⟩
end Go.Proofs.YtlfglhpepoepcaaDoor
namespace Go.Proofs.YtlfglhpepoepcaaDoor
open Go.RowKit
set_option linter.unusedVariables false
structure RR (w : World) (X : Nat) (r : Rl) (m : Rm) (W : World) : Prop where
  c : CF W X (rcs r m)
  any : RAny W r m
  bel : Below w.heap.size w W
theorem RR.on {w W W' : World} {X : Nat} {r : Rl} {m : Rm} (h : RR w X r m W) (hb : Below W.heap.size W W') : RR w X r m W' := ⟨h.c.below hb, h.any.on hb, bstep h.bel hb⟩
structure RW (w : World) (X : Nat) (r : Rl) (m : Rm) (a : Option Addr) (L : List Int) (W : World) : Prop where
  k : RR w X r m W
  l : IsInts W a L
theorem RW.on {w W W' : World} {X : Nat} {r : Rl} {m : Rm} {a : Option Addr} {L : List Int} (h : RW w X r m a L W) (hb : Below W.heap.size W W') : RW w X r m a L W' := ⟨h.k.on hb, h.l.below hb⟩
theorem any_of {w W : World} {B : Nat} {r : Rl} {m : Rm} (h : OL B r m W) (sm : Sml 4 r) (ht : Tab W) : RAny W r m := ⟨by have := sm.1; omega, by have := sm.2.1; omega, by have := sm.2.2.1; omega, by have := sm.2.2.2; omega, h.mem, ht⟩
theorem IsInts.cell {w : World} {a : Option Addr} {l : List Int} (h : IsInts w a l) (hl : 0 < l.length) : ∃ b off, a = some ⟨b, off, none⟩ ∧ b < w.heap.size ∧ ∀ i, i < l.length → w.cell? ⟨b, off + i, none⟩ = some (.int .i64 (gi l i)) := by
  rcases h with h | h
  · rw [h] at hl; simp at hl
  · exact h
theorem may_same {r : Rl} {s t t' : Int} (hs : 0 ≤ s) (ht : t ≤ 3652058) (hd : t - s ≤ 11000) (h : t' ≤ t) : mayB r s t = true ∨ mayB r s t' = false := by
  cases hm : mayB r s t with
  | true => exact .inl rfl
  | false =>
    right
    cases hm' : mayB r s t' with
    | false => rfl
    | true =>
      obtain ⟨a, b, c, d⟩ := may_ok hm'
      have : mayB r s t = true := by
        unfold mayB at hm' ⊢
        simp only [Bool.and_eq_true, decide_eq_true_eq] at hm' ⊢
        exact ⟨hm'.1, hm'.2.1, (in_iff _ _ _).2 ⟨by omega, ht⟩, hd⟩
      rw [hm] at this; cases this
theorem gi_take {l : List Int} {n i : Nat} (h : i < n) (h2 : i < l.length) : gi (l.take n) i = gi l i := by unfold gi; simp [h, h2]
theorem ints_take {w : World} {a : Option Addr} {l : List Int} (h : IsInts w a l) (n : Nat) : IsInts w a (l.take n) := by
  rcases h with h | ⟨b, off, h1, h2, h3⟩
  · left; rw [h]; simp
  · refine .inr ⟨b, off, h1, h2, fun i hi => ?_⟩
    have h4 : i < n ∧ i < l.length := by rw [List.length_take] at hi; omega
    rw [gi_take h4.1 h4.2]; exact h3 i h4.2
theorem pre_eq {l m : List Int} (h : l <+: m) : m.take l.length = l := by
  obtain ⟨k, rfl⟩ := h
  simp
end Go.Proofs.YtlfglhpepoepcaaDoor
namespace Go.Proofs.YtlfglhpepoepcaaDoor
open Go.RowKit
set_option linter.unusedVariables false
/-- A rule in its own block, its lists ahead of it: its numbers may be set. -/
structure RQ (w : World) (X : Nat) (r : Rl) (m : Rm) (W : World) : Prop where
  c : CF W X (rcs r m)
  old : ∃ W1 : World, W1.heap.size = X ∧ RAny W1 r m ∧ Below X W1 W
  bel : Below w.heap.size w W
  le : w.heap.size ≤ X
theorem RQ.any {w W : World} {X : Nat} {r : Rl} {m : Rm} (h : RQ w X r m W) : RAny W r m := by
  obtain ⟨W1, rfl, a, b⟩ := h.old
  exact a.on b
theorem RQ.on {w W W' : World} {X : Nat} {r : Rl} {m : Rm} (h : RQ w X r m W) (hb : Below W.heap.size W W') : RQ w X r m W' := by
  obtain ⟨W1, h1, a, b⟩ := h.old
  exact ⟨h.c.below hb, ⟨W1, h1, a, b.trans (hb.mono (Nat.le_of_lt h.c.1))⟩, bstep h.bel hb, h.le⟩
theorem RQ.put {w W : World} {X : Nat} {r r' : Rl} {m : Rm} (h : RQ w X r m W) (i : Nat) (v : Value) (hi : i < 9) (hc : rcs r' m = (rcs r m).set! i v) (h0 : r'.ds = r.ds) (h1 : r'.da = r.da) (h2 : r'.mo = r.mo) (h3 : r'.pl = r.pl) : RQ w X r' m (W.setCell ⟨X, i, none⟩ v) := by
  obtain ⟨W1, hX, a, b⟩ := h.old
  refine ⟨by rw [hc]; exact h.c.set i v (by unfold rcs; exact hi), ⟨W1, hX, ⟨by rw [h0]; exact a.l0, by rw [h1]; exact a.l1, by rw [h2]; exact a.l2, by rw [h3]; exact a.l3, ?_, a.tab⟩, b.setCell (p := ⟨X, i, none⟩) (Nat.le_refl _) v⟩, h.bel.setCell (p := ⟨X, i, none⟩) h.le v, h.le⟩
  obtain ⟨t, i1, i2, i3⟩ := a.mem
  exact ⟨by rw [h0]; exact t, by rw [h1]; exact i1, by rw [h2]; exact i2, by rw [h3]; exact i3⟩
theorem IsInts.kept {w W W' : World} {B : Nat} {a : Option Addr} {l : List Int} (h : IsInts w a l) (hb : Below w.heap.size w W) : IsInts W a l := h.below hb
theorem comes_re (f ev ct un ct' un' : Int) (ds : List (Int × Int)) (da mo pl : List Int) (wk s t : Int) : comes ⟨f, ev, ct, un, ds, da, mo, pl, wk⟩ s t = comes ⟨f, ev, ct', un', ds, da, mo, pl, wk⟩ s t := rfl
theorem may_re {f ev ct un ct' un' : Int} {ds : List (Int × Int)} {da mo pl : List Int} {wk s t : Int} (h : ofB f ev ct un wk = ofB f ev ct' un' wk) : mayB ⟨f, ev, ct, un, ds, da, mo, pl, wk⟩ s t = mayB ⟨f, ev, ct', un', ds, da, mo, pl, wk⟩ s t := by
  unfold mayB ruOf ruB
  simp only
  rw [h]
theorem of_ct {f ev wk c : Int} (h0 : 1 ≤ c) (h1 : c ≤ 9) : ofB f ev c 0 wk = ofB f ev 0 0 wk := by
  rw [Bool.eq_iff_iff, of_iff, of_iff]
  constructor
  · rintro h; omega
  · rintro h; omega
theorem count_law {f ev c : Int} {ds : List (Int × Int)} {da mo pl : List Int} {wk s t : Int} (h0 : 1 ≤ c) (h1 : c ≤ 9) : daysL ⟨f, ev, c, 0, ds, da, mo, pl, wk⟩ s t = (daysL ⟨f, ev, 0, 0, ds, da, mo, pl, wk⟩ s t).take c.toNat := by
  have hm : mayB ⟨f, ev, c, 0, ds, da, mo, pl, wk⟩ s t = mayB ⟨f, ev, 0, 0, ds, da, mo, pl, wk⟩ s t := may_re (of_ct h0 h1)
  cases hv : mayB ⟨f, ev, 0, 0, ds, da, mo, pl, wk⟩ s t with
  | false => rw [days_no hv, days_no (hm.trans hv)]; simp
  | true =>
    rw [days_eq hv, days_eq (hm.trans hv), comes_re f ev c 0 0 0]
    have e1 : (mostT ⟨f, ev, c, 0, ds, da, mo, pl, wk⟩ 200) = c := by unfold mostT; rw [if_pos]; exact ⟨by show 0 < c; omega, by show c < 200; omega⟩
    have e2 : (mostT ⟨f, ev, 0, 0, ds, da, mo, pl, wk⟩ 200) = 200 := by unfold mostT; rw [if_neg]; rintro ⟨h, _⟩; exact absurd h (by show ¬ (0 : Int) < 0; omega)
    have e3 : limT ⟨f, ev, c, 0, ds, da, mo, pl, wk⟩ t = limT ⟨f, ev, 0, 0, ds, da, mo, pl, wk⟩ t := rfl
    rw [e1, e2, e3, List.take_take]
    congr 1
    omega
end Go.Proofs.YtlfglhpepoepcaaDoor
namespace Go.Proofs.YtlfglhpepoepcaaDoor
open Go.RowKit
set_option linter.unusedVariables false
theorem until_law {f ev ct un : Int} {ds : List (Int × Int)} {da mo pl : List Int} {wk s t d : Int} (h : mayB ⟨f, ev, ct, un, ds, da, mo, pl, wk⟩ s t = true) (h0 : 1 ≤ d) (h1 : d ≤ t) : daysL ⟨f, ev, 0, d, ds, da, mo, pl, wk⟩ s t = daysL ⟨f, ev, 0, 0, ds, da, mo, pl, wk⟩ s d := by
  obtain ⟨hru, ⟨s0, s1⟩, ⟨t0, t1⟩, ht⟩ := may_ok h
  have hof : ofB f ev ct un wk = true := by unfold ruOf ruB at hru; simp only [Bool.and_eq_true] at hru; exact hru.1
  obtain ⟨a0, a1, _, _, _, a5⟩ := (of_iff _ _ _ _ _).1 hof
  have e1 : ofB f ev 0 d wk = true := (of_iff _ _ _ _ _).2 ⟨a0, a1, ⟨by omega, by omega⟩, ⟨by omega, by omega⟩, .inl rfl, a5⟩
  have e2 : ofB f ev 0 0 wk = true := (of_iff _ _ _ _ _).2 ⟨a0, a1, ⟨by omega, by omega⟩, ⟨by omega, by omega⟩, .inl rfl, a5⟩
  have m1 : mayB ⟨f, ev, 0, d, ds, da, mo, pl, wk⟩ s t = true := (may_re (by rw [e1, hof])).trans h
  have m2 : mayB ⟨f, ev, 0, 0, ds, da, mo, pl, wk⟩ s t = true := (may_re (by rw [e2, hof])).trans h
  have m3 : mayB ⟨f, ev, 0, 0, ds, da, mo, pl, wk⟩ s d = true := by
    unfold mayB
    rw [(may_ok m2).1, (in_iff _ _ _).2 ⟨s0, s1⟩, (in_iff d 0 3652058).2 ⟨by omega, by omega⟩]
    simp; omega
  rw [days_eq m1, days_eq m3, comes_re f ev 0 d 0 0]
  have q1 : limT ⟨f, ev, 0, d, ds, da, mo, pl, wk⟩ t = d := by
    unfold limT
    by_cases hd : d < t
    · rw [if_pos]; exact ⟨by show 0 < d; omega, hd⟩
    · rw [if_neg]; · omega
      · rintro ⟨_, q⟩; exact hd q
  have q2 : limT ⟨f, ev, 0, 0, ds, da, mo, pl, wk⟩ d = d := by
    unfold limT
    rw [if_neg]; rintro ⟨q, _⟩; exact absurd q (by show ¬ (0 : Int) < 0; omega)
  rw [q1, q2]
  rfl
set_option maxHeartbeats 4000000 in
theorem lawEpAsked (r : Rl) (m : Rm) (s d : Int) (w : World) (hr : RAny w r m) :
    Calls Tryd.prog 32 #[.agg #[.int .i64 r.f, .int .i64 r.ev, .int .i64 r.ct, .int .i64 r.un, .slice m.a0 r.ds.length m.c0, .slice m.a1 r.da.length m.c1, .slice m.a2 r.mo.length m.c2, .slice m.a3 r.pl.length m.c3, .int .i64 r.wk], .int .i64 s, .int .i64 d] w fun e w' => e = .returned (.bool (mayB r s d)) ∧ Below w.heap.size w w' := by
  obtain ⟨W0, hW0⟩ : ∃ W0, W0 = w.alloc (.cells #[.int .i64 r.f, .int .i64 r.ev, .int .i64 r.ct, .int .i64 r.un, .slice m.a0 r.ds.length m.c0, .slice m.a1 r.da.length m.c1, .slice m.a2 r.mo.length m.c2, .slice m.a3 r.pl.length m.c3, .int .i64 r.wk] 26) := ⟨_, rfl⟩
  have hb0 : Below w.heap.size w W0 := by rw [hW0]; exact (Below.refl _ w).alloc (Nat.le_refl _) _
  have HW0 : Hid (W0 = w.alloc (.cells #[.int .i64 r.f, .int .i64 r.ev, .int .i64 r.ct, .int .i64 r.un, .slice m.a0 r.ds.length m.c0, .slice m.a1 r.da.length m.c1, .slice m.a2 r.mo.length m.c2, .slice m.a3 r.pl.length m.c3, .int .i64 r.wk] 26)) := hW0
  have HB0 : Hid (Below w.heap.size w W0) := hb0
  have hr0 := hr.on hb0
  have HOK : Hid (Calls Tryd.prog 54 #[.agg #[.int .i64 r.f, .int .i64 r.ev, .int .i64 r.ct, .int .i64 r.un, .slice m.a0 r.ds.length m.c0, .slice m.a1 r.da.length m.c1, .slice m.a2 r.mo.length m.c2, .slice m.a3 r.pl.length m.c3, .int .i64 r.wk]] W0 fun z w' => z = .returned (.bool (ruOf r)) ∧ Below W0.heap.size W0 w') := implRuleOk _ _ _ _ _ _ _ _ _ _ _ _ _ _ _ _ _ W0 hr0.mem.t hr0.mem.d hr0.mem.o hr0.mem.p hr0.l0 hr0.l1 hr0.l2 hr0.l3
  clear hW0 hb0 hr0 hr
  cases h1 : ruOf r with
  | false =>
    rw [h1] at HOK
    have HV : Hid (mayB r s d = false) := by unfold Hid mayB; rw [h1]; rfl
    go_enter Tryd.func32, Tryd.ntmps32
    go_wp2_with fail
    rw [← HW0.out]
    refine HOK.out.mono ?_
    rintro e w1 ⟨rfl, b1⟩
    have HB1 : Hid (Below w.heap.size w w1) := bstep HB0.out b1
    clear b1
    go_wp2
    go_ret
    exact ⟨ret_b HV.out.symm, HB1.out⟩
  | true =>
    rw [h1] at HOK
    have HR : Hid (ruOf r = true) := h1
    clear h1
    by_cases s0 : s < 0
    · have hq : inB s 0 3652058 = false := (in_not _ _ _).2 (by omega)
      have HV : Hid (mayB r s d = false) := by unfold Hid mayB; rw [HR.out, hq]; rfl
      go_enter Tryd.func32, Tryd.ntmps32
      go_wp2_with fail
      rw [← HW0.out]
      refine HOK.out.mono ?_
      rintro e w1 ⟨rfl, b1⟩
      have HB1 : Hid (Below w.heap.size w w1) := bstep HB0.out b1
      clear b1
      go_wp2
      go_ret
      exact ⟨ret_b HV.out.symm, HB1.out⟩
    by_cases s1 : s > 3652058
    · have hq : inB s 0 3652058 = false := (in_not _ _ _).2 (by omega)
      have s0' : s ≥ 0 := by omega
      have HV : Hid (mayB r s d = false) := by unfold Hid mayB; rw [HR.out, hq]; rfl
      go_enter Tryd.func32, Tryd.ntmps32
      go_wp2_with fail
      rw [← HW0.out]
      refine HOK.out.mono ?_
      rintro e w1 ⟨rfl, b1⟩
      have HB1 : Hid (Below w.heap.size w w1) := bstep HB0.out b1
      clear b1
      go_wp2
      go_ret
      exact ⟨ret_b HV.out.symm, HB1.out⟩
    have hs : inB s 0 3652058 = true := (in_iff _ _ _).2 ⟨by omega, by omega⟩
    have s0' : s ≥ 0 := by omega
    have s1' : s ≤ 3652058 := by omega
    by_cases d0 : d < 0
    · have hq : inB d 0 3652058 = false := (in_not _ _ _).2 (by omega)
      have HV : Hid (mayB r s d = false) := by unfold Hid mayB; rw [HR.out, hs, hq]; rfl
      go_enter Tryd.func32, Tryd.ntmps32
      go_wp2_with fail
      rw [← HW0.out]
      refine HOK.out.mono ?_
      rintro e w1 ⟨rfl, b1⟩
      have HB1 : Hid (Below w.heap.size w w1) := bstep HB0.out b1
      clear b1
      go_wp2
      go_ret
      exact ⟨ret_b HV.out.symm, HB1.out⟩
    by_cases d1 : d > 3652058
    · have hq : inB d 0 3652058 = false := (in_not _ _ _).2 (by omega)
      have d0' : d ≥ 0 := by omega
      have HV : Hid (mayB r s d = false) := by unfold Hid mayB; rw [HR.out, hs, hq]; rfl
      go_enter Tryd.func32, Tryd.ntmps32
      go_wp2_with fail
      rw [← HW0.out]
      refine HOK.out.mono ?_
      rintro e w1 ⟨rfl, b1⟩
      have HB1 : Hid (Below w.heap.size w w1) := bstep HB0.out b1
      clear b1
      go_wp2
      go_ret
      exact ⟨ret_b HV.out.symm, HB1.out⟩
    have hd : inB d 0 3652058 = true := (in_iff _ _ _).2 ⟨by omega, by omega⟩
    have d0' : d ≥ 0 := by omega
    have d1' : d ≤ 3652058 := by omega
    have g1 := IntWalk.i64_in (d - s) (by omega)
    have HV : Hid (mayB r s d = decide (d - s ≤ 11000)) := by unfold Hid mayB; rw [HR.out, hs, hd]; rfl
    go_enter Tryd.func32, Tryd.ntmps32
    go_wp2_with fail
    rw [← HW0.out]
    refine HOK.out.mono ?_
    rintro e w1 ⟨rfl, b1⟩
    have HB1 : Hid (Below w.heap.size w w1) := bstep HB0.out b1
    clear b1
    go_wp2
    go_ret
    exact ⟨ret_b HV.out.symm, HB1.out⟩
end Go.Proofs.YtlfglhpepoepcaaDoor
namespace Go.Proofs.YtlfglhpepoepcaaDoor
open Go.RowKit
set_option linter.unusedVariables false
theorem ru_nopl {f ev ct un : Int} {ds : List (Int × Int)} {da mo pl : List Int} {wk : Int} (h : ruOf ⟨f, ev, ct, un, ds, da, mo, pl, wk⟩ = true) : ruOf ⟨f, ev, ct, un, ds, da, mo, [], wk⟩ = true := by
  unfold ruOf ruB liB at h ⊢
  simp only [Bool.and_eq_true, decide_eq_true_eq] at h ⊢
  obtain ⟨h1, h2, h3, h4, h5, h6, h7⟩ := h
  refine ⟨h1, h2, h3, ?_, h5, h6, ?_⟩
  · rintro ⟨q, _⟩; simp at q
  · rfl
theorem places_law {f ev ct un : Int} {ds : List (Int × Int)} {da mo pl : List Int} {wk s t d : Int} (h : d ∈ daysL ⟨f, ev, ct, un, ds, da, mo, pl, wk⟩ s t) (hc : ¬ 0 < ct) : onB ⟨f, ev, ct, un, ds, da, mo, [], wk⟩ s d = true := by
  obtain ⟨hm, hx⟩ := days_mem h
  have bd := days_bd h
  obtain ⟨hru, ⟨s0, s1⟩, ⟨t0, t1⟩, ht⟩ := may_ok hm
  have hX := ru_nopl hru
  have hm' : mayB ⟨f, ev, ct, un, ds, da, mo, [], wk⟩ s d = true := by
    unfold mayB
    rw [hX, (in_iff _ _ _).2 ⟨s0, s1⟩, (in_iff d 0 3652058).2 ⟨by omega, by omega⟩]
    simp; omega
  refine on_iff.2 ⟨hm', ?_⟩
  have e1 : mostT ⟨f, ev, ct, un, ds, da, mo, [], wk⟩ 20000 = 20000 := by unfold mostT; rw [if_neg]; rintro ⟨q, _⟩; exact hc q
  have e2 : limT ⟨f, ev, ct, un, ds, da, mo, [], wk⟩ d = d := by
    unfold limT
    rw [if_neg]
    rintro ⟨q1, q2⟩
    have := bd.2.2.1 q1
    exact absurd q2 (by show ¬ un < d; have : d ≤ un := this; omega)
  have hr := (ru_ok hX).1
  have ql : (comes ⟨f, ev, ct, un, ds, da, mo, [], wk⟩ s d).length ≤ (d + 1 - s).toNat := comes_len hr s0 s1
  rw [e1, e2, List.take_of_length_le (by omega)]
  refine (comes_iff hr s0 s1).2 ⟨?_, Int.le_refl _⟩
  obtain ⟨⟨a, k, hk⟩, _⟩ := (comes_iff (ru_ok hru).1 s0 s1).1 hx
  refine ⟨a, k, ?_⟩
  unfold chJ choice at hk ⊢
  rw [if_pos (show ([] : List Int).length = 0 from rfl)]
  split at hk
  · exact hk
  · exact plL_mem (Nat.le_refl _) hk
theorem implRuleOn_yes (r : Rl) (m : Rm) (s d : Int) (w : World) (hr : RAny w r m) (h : onB r s d = true) :
    Calls Tryd.prog 22 #[.agg #[.int .i64 r.f, .int .i64 r.ev, .int .i64 r.ct, .int .i64 r.un, .slice m.a0 r.ds.length m.c0, .slice m.a1 r.da.length m.c1, .slice m.a2 r.mo.length m.c2, .slice m.a3 r.pl.length m.c3, .int .i64 r.wk], .int .i64 s, .int .i64 d] w fun e w' => e = .returned (.bool true) ∧ Below w.heap.size w w' := by
  have := implRuleOn r m s d w hr
  rw [h] at this
  exact this
/-- A rule without its places, copied into a block of its own. -/
theorem RQ.nopl {w W : World} {X : Nat} {f ev ct un : Int} {ds : List (Int × Int)} {da mo pl : List Int} {wk : Int} {m : Rm} (h : RQ w X ⟨f, ev, ct, un, ds, da, mo, pl, wk⟩ m W) :
    RQ w W.heap.size ⟨f, ev, ct, un, ds, da, mo, [], wk⟩ ⟨m.a0, m.c0, m.a1, m.c1, m.a2, m.c2, none, 0⟩ (W.alloc (.cells #[.int .i64 f, .int .i64 ev, .int .i64 ct, .int .i64 un, .slice m.a0 ds.length m.c0, .slice m.a1 da.length m.c1, .slice m.a2 mo.length m.c2, .slice none 0 0, .int .i64 wk] 26)) := by
  have a := h.any
  obtain ⟨t, i1, i2, i3⟩ := a.mem
  have bA : Below W.heap.size W (W.alloc (.cells #[.int .i64 f, .int .i64 ev, .int .i64 ct, .int .i64 un, .slice m.a0 ds.length m.c0, .slice m.a1 da.length m.c1, .slice m.a2 mo.length m.c2, .slice none 0 0, .int .i64 wk] 26)) := (Below.refl _ _).alloc (Nat.le_refl _) _
  exact ⟨CF.new _ _ _, ⟨W, rfl, ⟨a.l0, a.l1, a.l2, Nat.zero_le _, ⟨t, i1, i2, .inl rfl⟩, a.tab⟩, bA⟩, bstep h.bel bA, h.bel.size⟩
end Go.Proofs.YtlfglhpepoepcaaDoor
namespace Go.Proofs.YtlfglhpepoepcaaDoor
open Go.RowKit
set_option linter.unusedVariables false
/-- Numbers in even steps, up to one. -/
def steps (s c te : Int) : List Int := (List.range ((te - s) / c + 1).toNat).map fun i : Nat => s + (i : Int) * c
theorem steps_mem {s c te x : Int} (hc : 0 < c) : x ∈ steps s c te ↔ ∃ k : Nat, x = s + (k : Int) * c ∧ x ≤ te := by
  unfold steps
  rw [List.mem_map]
  constructor
  · rintro ⟨i, hi, rfl⟩
    have hi := List.mem_range.1 hi
    have h2 : (i : Int) ≤ (te - s) / c := by omega
    have h3 := (Int.le_ediv_iff_mul_le hc).1 h2
    exact ⟨i, rfl, by omega⟩
  · rintro ⟨k, rfl, h⟩
    have h3 : (k : Int) ≤ (te - s) / c := (Int.le_ediv_iff_mul_le hc).2 (by omega)
    exact ⟨k, List.mem_range.2 (by omega), rfl⟩
theorem steps_asc {s c te : Int} (hc : 0 < c) : (steps s c te).Pairwise (· < ·) := by
  unfold steps
  rw [List.pairwise_map]
  refine List.Pairwise.imp ?_ List.pairwise_lt_range
  intro a b h
  have : (a : Int) * c < (b : Int) * c := Int.mul_lt_mul_of_pos_right (by omega) hc
  omega
/-- A rule without lists that comes every so many of its periods. -/
def plainR (f ev : Int) : Rl := ⟨f, ev, 0, 0, [], [], [], [], 0⟩
theorem fit_mem {r : Rl} {s a b x : Int} : x ∈ fitL r s a b ↔ (a ≤ x ∧ x < b) ∧ (0 ≤ x ∧ x ≤ 3652058) ∧ fitB r s x = true := by
  unfold fitL
  rw [List.mem_filter, ira_mem]
  simp only [Bool.and_eq_true, decide_eq_true_eq]
theorem plain_day {ev s x : Int} (h0 : 0 ≤ s) (hx : x ≤ 3652058) (he : 1 ≤ ev) : dayP (plainR 1 ev) s x ↔ ∃ k : Nat, x = s + (k : Int) * ev := by
  unfold dayP
  constructor
  · rintro ⟨hs, k, hk⟩
    refine ⟨k, ?_⟩
    unfold chJ choice at hk
    rw [if_pos (show (plainR 1 ev).pl.length = 0 from rfl)] at hk
    have h := (fit_mem.1 hk).1
    have e1 : spanF (plainR 1 ev) s ((k : Int) * (plainR 1 ev).ev) = s + (k : Int) * ev := rfl
    have e2 : spanL (plainR 1 ev) s ((k : Int) * (plainR 1 ev).ev) = s + (k : Int) * ev := rfl
    rw [e1, e2] at h
    omega
  · rintro ⟨k, rfl⟩
    have hk : 0 ≤ (k : Int) * ev := Int.mul_nonneg (by omega) (by omega)
    refine ⟨by omega, k, ?_⟩
    unfold chJ choice
    rw [if_pos (show (plainR 1 ev).pl.length = 0 from rfl)]
    have e1 : spanF (plainR 1 ev) s ((k : Int) * (plainR 1 ev).ev) = s + (k : Int) * ev := rfl
    have e2 : spanL (plainR 1 ev) s ((k : Int) * (plainR 1 ev).ev) = s + (k : Int) * ev := rfl
    rw [e1, e2]
    exact fit_mem.2 ⟨⟨by omega, by omega⟩, ⟨by omega, hx⟩, rfl⟩
theorem plain_week {ev s x : Int} (h0 : 0 ≤ s) (hx : x ≤ 3652058) (he : 1 ≤ ev) : dayP (plainR 2 ev) s x ↔ ∃ k : Nat, x = s + (k : Int) * (7 * ev) := by
  have f1 : ∀ k : Nat, spanF (plainR 2 ev) s ((k : Int) * (plainR 2 ev).ev) = s - (s % 7 - 0 + 7) % 7 + 7 * ((k : Int) * ev) := fun _ => rfl
  have f2 : ∀ k : Nat, spanL (plainR 2 ev) s ((k : Int) * (plainR 2 ev).ev) = s - (s % 7 - 0 + 7) % 7 + 7 * ((k : Int) * ev) + 6 := fun _ => rfl
  have f3 : ∀ y : Int, fitB (plainR 2 ev) s y = decide (y % 7 = s % 7) := fun y => by
    unfold fitB ownB
    rw [if_pos (show (plainR 2 ev).f = 2 from rfl)]
    simp [plainR]
  have f4 : ∀ k : Nat, (k : Int) * (7 * ev) = 7 * ((k : Int) * ev) := fun k => by rw [Int.mul_left_comm]
  unfold dayP
  constructor
  · rintro ⟨hs, k, hk⟩
    refine ⟨k, ?_⟩
    unfold chJ choice at hk
    rw [if_pos (show (plainR 2 ev).pl.length = 0 from rfl)] at hk
    obtain ⟨h, _, h7⟩ := fit_mem.1 hk
    rw [f1, f2] at h
    rw [f3, decide_eq_true_eq] at h7
    rw [f4]
    omega
  · rintro ⟨k, rfl⟩
    have hk : 0 ≤ (k : Int) * ev := Int.mul_nonneg (by omega) (by omega)
    rw [f4] at hx ⊢
    refine ⟨by omega, k, ?_⟩
    unfold chJ choice
    rw [if_pos (show (plainR 2 ev).pl.length = 0 from rfl), f1, f2]
    refine fit_mem.2 ⟨⟨by omega, by omega⟩, ⟨by omega, hx⟩, ?_⟩
    rw [f3, decide_eq_true_eq]
    omega
theorem plain_comes {f ev c s t : Int} (hr : ROk (plainR f ev)) (h0 : 0 ≤ s) (h1 : s ≤ 3652058) (ht : t ≤ 3652058) (hc : 0 < c) (hd : ∀ x, x ≤ 3652058 → (dayP (plainR f ev) s x ↔ ∃ k : Nat, x = s + (k : Int) * c)) : comes (plainR f ev) s t = steps s c t := by
  refine asc_ext (comes_asc hr h0 h1) (steps_asc hc) fun x => ?_
  rw [comes_iff hr h0 h1, steps_mem hc]
  constructor
  · rintro ⟨a, b⟩
    obtain ⟨k, hk⟩ := (hd x (by omega)).1 a
    exact ⟨k, hk, b⟩
  · rintro ⟨k, hk, b⟩
    exact ⟨(hd x (by omega)).2 ⟨k, hk⟩, b⟩
theorem steps_gi {s c te : Int} {n i : Nat} (h : i < ((steps s c te).take n).length) : gi ((steps s c te).take n) i = s + (i : Int) * c := by
  rw [gi_get h, List.getElem_take]
  unfold steps
  rw [List.getElem_map, List.getElem_range]
theorem every_law {f ev c s t : Int} (he : 1 ≤ ev) (hf : f = 1 ∧ c = ev ∨ f = 2 ∧ c = 7 * ev) {i : Nat} (h : i < (daysL (plainR f ev) s t).length) : gi (daysL (plainR f ev) s t) i = s + (i : Int) * c := by
  cases hm : mayB (plainR f ev) s t with
  | false => rw [days_no hm] at h; simp at h
  | true =>
    obtain ⟨hru, ⟨s0, s1⟩, ⟨t0, t1⟩, _⟩ := may_ok hm
    have hr := (ru_ok hru).1
    have e2 : limT (plainR f ev) t = t := by
      unfold limT
      rw [if_neg]; rintro ⟨q, _⟩; exact absurd q (by show ¬ (0 : Int) < 0; omega)
    have e3 : comes (plainR f ev) s t = steps s c t := by
      rcases hf with ⟨rfl, rfl⟩ | ⟨rfl, rfl⟩
      · exact plain_comes hr s0 s1 t1 (by omega) fun x hx => plain_day s0 hx he
      · exact plain_comes hr s0 s1 t1 (by omega) fun x hx => plain_week s0 hx he
    rw [days_eq hm, e2, e3] at h ⊢
    exact steps_gi h
end Go.Proofs.YtlfglhpepoepcaaDoor
namespace Go.Proofs.YtlfglhpepoepcaaDoor
open Go.RowKit
set_option linter.unusedVariables false
theorem implDays_plain (f ev s d : Int) (w : World) (ht : Tab w) :
    Calls Tryd.prog 18 #[.agg #[.int .i64 f, .int .i64 ev, .int .i64 0, .int .i64 0, .slice none 0 0, .slice none 0 0, .slice none 0 0, .slice none 0 0, .int .i64 0], .int .i64 s, .int .i64 d] w fun e w' => (∃ v, e = .returned v ∧ OI w' w.heap.size v (daysL (plainR f ev) s d)) ∧ Below w.heap.size w w' :=
  implRuleDays (plainR f ev) ⟨none, 0, none, 0, none, 0, none, 0⟩ s d w ⟨Nat.zero_le _, Nat.zero_le _, Nat.zero_le _, Nat.zero_le _, ⟨.inl rfl, .inl rfl, .inl rfl, .inl rfl⟩, ht⟩
theorem specOk_any {r : Rl} {m : Rm} {w : World} (h : RAny w r m) :
    Calls Tryd.prog 28 #[.agg #[.int .i64 r.f, .int .i64 r.ev, .int .i64 r.ct, .int .i64 r.un, .slice m.a0 r.ds.length m.c0, .slice m.a1 r.da.length m.c1, .slice m.a2 r.mo.length m.c2, .slice m.a3 r.pl.length m.c3, .int .i64 r.wk]] w fun z w' => z = .returned (.bool (ruOf r)) ∧ Below w.heap.size w w' :=
  specRuleOk _ _ _ _ _ _ _ _ _ _ _ _ _ _ _ _ _ w h.mem.t h.mem.d h.mem.o h.mem.p h.l0 h.l1 h.l2 h.l3
set_option maxRecDepth 100000 in
set_option maxHeartbeats 16000000 in
theorem lawRuleEvery (a : Option Addr) (len cap : Nat) (w : World) (h : IsCode w a len cap) (ht : Tab w) :
    Calls Tryd.prog 5 #[.slice a len cap] w fun e w' => e = .returned (.bool true) ∧ Below w.heap.size w w' := by
  have hlen := h.1
  have HTB : Hid (Tab w) := ht
  clear ht
  by_cases hl : (len : Int) > 1048576
  · go_enter Tryd.func5, Tryd.ntmps5
    go_wp2
    go_ret
    exact ⟨rfl, Below.refl _ _⟩
  go_enter Tryd.func5, Tryd.ntmps5
  go_wp2_with fail
  refine (drawRuleDays w a len cap h).mono ?_
  rintro e w1 ⟨r, m, s, t, rfl, O1, sm, sb, tb, b1⟩
  obtain ⟨f, ev, ct, un, ds, da, mo, pl, wk⟩ := r
  have hrc : rcs ⟨f, ev, ct, un, ds, da, mo, pl, wk⟩ m = #[.int .i64 f, .int .i64 ev, .int .i64 ct, .int .i64 un, .slice m.a0 ds.length m.c0, .slice m.a1 da.length m.c1, .slice m.a2 mo.length m.c2, .slice m.a3 pl.length m.c3, .int .i64 wk] := rfl
  rw [hrc]
  clear hrc h
  have bA : Below w1.heap.size w1 (w1.alloc (.cells #[.int .i64 f, .int .i64 ev, .int .i64 ct, .int .i64 un, .slice m.a0 ds.length m.c0, .slice m.a1 da.length m.c1, .slice m.a2 mo.length m.c2, .slice m.a3 pl.length m.c3, .int .i64 wk] 26)) := (Below.refl _ _).alloc (Nat.le_refl _) _
  have K2 : RQ w w1.heap.size (⟨f, ev, ct, un, ds, da, mo, pl, wk⟩ : Rl) m (w1.alloc (.cells #[.int .i64 f, .int .i64 ev, .int .i64 ct, .int .i64 un, .slice m.a0 ds.length m.c0, .slice m.a1 da.length m.c1, .slice m.a2 mo.length m.c2, .slice m.a3 pl.length m.c3, .int .i64 wk] 26)) := ⟨CF.new _ _ _, ⟨w1, rfl, any_of (w := w) (B := w.heap.size) (r := ⟨f, ev, ct, un, ds, da, mo, pl, wk⟩) (O1.re rfl rfl rfl rfl) sm (HTB.out.on b1), bA⟩, b1.trans (bA.mono b1.size), b1.size⟩
  have HK2 : Hid (RQ w w1.heap.size (⟨f, ev, ct, un, ds, da, mo, pl, wk⟩ : Rl) m (w1.alloc (.cells #[.int .i64 f, .int .i64 ev, .int .i64 ct, .int .i64 un, .slice m.a0 ds.length m.c0, .slice m.a1 da.length m.c1, .slice m.a2 mo.length m.c2, .slice m.a3 pl.length m.c3, .int .i64 wk] 26))) := K2
  have SM : Hid (Sml 4 (⟨f, ev, ct, un, ds, da, mo, pl, wk⟩ : Rl)) := sm
  clear K2 bA O1 sm b1
  have t0 : 0 ≤ t := tb.1
  have t1 : t ≤ 3652058 := tb.2
  have s0 : -1 ≤ s := sb.1
  have s1 : s ≤ 3652058 := sb.2
  have tn : ¬ t > 3652058 := by omega
  have g1 := IntWalk.i64_in (t - s) (by omega)
  clear tb sb
  go_wp2_with fail
  generalize w1.alloc (.cells #[.int .i64 f, .int .i64 ev, .int .i64 ct, .int .i64 un, .slice m.a0 ds.length m.c0, .slice m.a1 da.length m.c1, .slice m.a2 mo.length m.c2, .slice m.a3 pl.length m.c3, .int .i64 wk] 26) = W2 at HK2 ⊢
  generalize w1.heap.size = X at HK2 ⊢
  refine (implRuleDays ⟨f, ev, ct, un, ds, da, mo, pl, wk⟩ m s t W2 HK2.out.any).mono ?_
  rintro e w3 ⟨⟨v3, rfl, O3⟩, b3⟩
  obtain ⟨va, vc, rfl, I3, _, _⟩ := O3.val
  have K3 : RQ w X (⟨f, ev, ct, un, ds, da, mo, pl, wk⟩ : Rl) m w3 := HK2.out.on b3
  have J3 : IsInts w3 va (daysL ⟨f, ev, ct, un, ds, da, mo, pl, wk⟩ s t) := I3
  have HL : Hid ((daysL ⟨f, ev, ct, un, ds, da, mo, pl, wk⟩ s t).length ≤ 200) := days_len _ _ _
  clear O3 I3 b3 HK2
  have x0 : World.cell? w3 ⟨X, 0, none⟩ = some (.int .i64 f) := (K3.c.2 0 _ rfl).1
  have x1 : World.cell? w3 ⟨X, 1, none⟩ = some (.int .i64 ev) := (K3.c.2 1 _ rfl).1
  have x2 : World.cell? w3 ⟨X, 2, none⟩ = some (.int .i64 ct) := (K3.c.2 2 _ rfl).1
  have x3 : World.cell? w3 ⟨X, 3, none⟩ = some (.int .i64 un) := (K3.c.2 3 _ rfl).1
  have x4 : World.cell? w3 ⟨X, 4, none⟩ = some (.slice m.a0 ds.length m.c0) := (K3.c.2 4 _ rfl).1
  have x5 : World.cell? w3 ⟨X, 5, none⟩ = some (.slice m.a1 da.length m.c1) := (K3.c.2 5 _ rfl).1
  have x6 : World.cell? w3 ⟨X, 6, none⟩ = some (.slice m.a2 mo.length m.c2) := (K3.c.2 6 _ rfl).1
  have x7 : World.cell? w3 ⟨X, 7, none⟩ = some (.slice m.a3 pl.length m.c3) := (K3.c.2 7 _ rfl).1
  have x8 : World.cell? w3 ⟨X, 8, none⟩ = some (.int .i64 wk) := (K3.c.2 8 _ rfl).1
  go_wp2_with fail
  refine (specRuleDays ⟨f, ev, ct, un, ds, da, mo, pl, wk⟩ m s t w3 K3.any).mono ?_
  rintro e w4 ⟨⟨v4, rfl, O4⟩, b4⟩
  obtain ⟨vb, vd, rfl, I4, _, _⟩ := O4.val
  have K4 := K3.on b4
  have J4 := J3.below b4
  clear K3 J3 O4 b4 x0 x1 x2 x3 x4 x5 x6 x7 x8
  go_wp2_with fail
  refine (lawEpInts _ _ _ _ _ _ J4 I4 (by have := HL.out; omega)).mono ?_
  rintro e w5 ⟨rfl, b5⟩
  have K5 := K4.on b5
  have J5 := J4.below b5
  clear K4 J4 I4 b5
  have x0 : World.cell? w5 ⟨X, 0, none⟩ = some (.int .i64 f) := (K5.c.2 0 _ rfl).1
  have x1 : World.cell? w5 ⟨X, 1, none⟩ = some (.int .i64 ev) := (K5.c.2 1 _ rfl).1
  have x2 : World.cell? w5 ⟨X, 2, none⟩ = some (.int .i64 ct) := (K5.c.2 2 _ rfl).1
  have x3 : World.cell? w5 ⟨X, 3, none⟩ = some (.int .i64 un) := (K5.c.2 3 _ rfl).1
  have x4 : World.cell? w5 ⟨X, 4, none⟩ = some (.slice m.a0 ds.length m.c0) := (K5.c.2 4 _ rfl).1
  have x5 : World.cell? w5 ⟨X, 5, none⟩ = some (.slice m.a1 da.length m.c1) := (K5.c.2 5 _ rfl).1
  have x6 : World.cell? w5 ⟨X, 6, none⟩ = some (.slice m.a2 mo.length m.c2) := (K5.c.2 6 _ rfl).1
  have x7 : World.cell? w5 ⟨X, 7, none⟩ = some (.slice m.a3 pl.length m.c3) := (K5.c.2 7 _ rfl).1
  have x8 : World.cell? w5 ⟨X, 8, none⟩ = some (.int .i64 wk) := (K5.c.2 8 _ rfl).1
  go_wp2_with fail
  cases hm : ruOf ⟨f, ev, ct, un, ds, da, mo, pl, wk⟩ with
  | false =>
    refine (specOk_any K5.any).mono ?_
    rintro e w6 ⟨rfl, b6⟩
    have K6 := K5.on b6
    have J6 := J5.below b6
    clear J5 K5 b6 x0 x1 x2 x3 x4 x5 x6 x7 x8
    rw [hm]
    have x0 : World.cell? w6 ⟨X, 0, none⟩ = some (.int .i64 f) := (K6.c.2 0 _ rfl).1
    have x1 : World.cell? w6 ⟨X, 1, none⟩ = some (.int .i64 ev) := (K6.c.2 1 _ rfl).1
    have x2 : World.cell? w6 ⟨X, 2, none⟩ = some (.int .i64 ct) := (K6.c.2 2 _ rfl).1
    have x3 : World.cell? w6 ⟨X, 3, none⟩ = some (.int .i64 un) := (K6.c.2 3 _ rfl).1
    have x4 : World.cell? w6 ⟨X, 4, none⟩ = some (.slice m.a0 ds.length m.c0) := (K6.c.2 4 _ rfl).1
    have x5 : World.cell? w6 ⟨X, 5, none⟩ = some (.slice m.a1 da.length m.c1) := (K6.c.2 5 _ rfl).1
    have x6 : World.cell? w6 ⟨X, 6, none⟩ = some (.slice m.a2 mo.length m.c2) := (K6.c.2 6 _ rfl).1
    have x7 : World.cell? w6 ⟨X, 7, none⟩ = some (.slice m.a3 pl.length m.c3) := (K6.c.2 7 _ rfl).1
    have x8 : World.cell? w6 ⟨X, 8, none⟩ = some (.int .i64 wk) := (K6.c.2 8 _ rfl).1
    go_wp2_with fail
    refine (specRuleDays ⟨f, ev, ct, un, ds, da, mo, pl, wk⟩ m s t w6 K6.any).mono ?_
    rintro e w7 ⟨⟨v7, rfl, O7⟩, b7⟩
    obtain ⟨ub, ud, rfl, I7, _, _⟩ := O7.val
    have J7 := J6.below b7
    have HB7 : Hid (Below w.heap.size w w7) := bstep K6.bel b7
    clear O7 b7 J6 K6 x0 x1 x2 x3 x4 x5 x6 x7 x8
    go_wp2_with fail
    refine (lawEpInts _ _ _ _ _ _ J7 I7 (by have := HL.out; omega)).mono ?_
    rintro e w8 ⟨rfl, b8⟩
    have B8 := bstep HB7.out b8
    clear b8 J7 I7
    go_wp2
    go_ret
    exact ⟨rfl, B8⟩
  | true =>
    refine (specOk_any K5.any).mono ?_
    rintro e w6 ⟨rfl, b6⟩
    have K6 := K5.on b6
    have J6 := J5.below b6
    clear J5 K5 b6 x0 x1 x2 x3 x4 x5 x6 x7 x8
    rw [hm]
    have HM : Hid (ruOf ⟨f, ev, ct, un, ds, da, mo, pl, wk⟩ = true) := hm
    clear hm
    have x0 : World.cell? w6 ⟨X, 0, none⟩ = some (.int .i64 f) := (K6.c.2 0 _ rfl).1
    have x1 : World.cell? w6 ⟨X, 1, none⟩ = some (.int .i64 ev) := (K6.c.2 1 _ rfl).1
    have x2 : World.cell? w6 ⟨X, 2, none⟩ = some (.int .i64 ct) := (K6.c.2 2 _ rfl).1
    have x3 : World.cell? w6 ⟨X, 3, none⟩ = some (.int .i64 un) := (K6.c.2 3 _ rfl).1
    have x4 : World.cell? w6 ⟨X, 4, none⟩ = some (.slice m.a0 ds.length m.c0) := (K6.c.2 4 _ rfl).1
    have x5 : World.cell? w6 ⟨X, 5, none⟩ = some (.slice m.a1 da.length m.c1) := (K6.c.2 5 _ rfl).1
    have x6 : World.cell? w6 ⟨X, 6, none⟩ = some (.slice m.a2 mo.length m.c2) := (K6.c.2 6 _ rfl).1
    have x7 : World.cell? w6 ⟨X, 7, none⟩ = some (.slice m.a3 pl.length m.c3) := (K6.c.2 7 _ rfl).1
    have x8 : World.cell? w6 ⟨X, 8, none⟩ = some (.int .i64 wk) := (K6.c.2 8 _ rfl).1
    by_cases hs : s < 0
    · go_wp2_with fail
      refine (specRuleDays ⟨f, ev, ct, un, ds, da, mo, pl, wk⟩ m s t w6 K6.any).mono ?_
      rintro e w7 ⟨⟨v7, rfl, O7⟩, b7⟩
      obtain ⟨ub, ud, rfl, I7, _, _⟩ := O7.val
      have J7 := J6.below b7
      have HB7 : Hid (Below w.heap.size w w7) := bstep K6.bel b7
      clear O7 b7 J6 K6 x0 x1 x2 x3 x4 x5 x6 x7 x8
      go_wp2_with fail
      refine (lawEpInts _ _ _ _ _ _ J7 I7 (by have := HL.out; omega)).mono ?_
      rintro e w8 ⟨rfl, b8⟩
      have B8 := bstep HB7.out b8
      clear b8 J7 I7
      go_wp2
      go_ret
      exact ⟨rfl, B8⟩
    by_cases hd : t - s > 2000
    · go_wp2_with fail
      refine (specRuleDays ⟨f, ev, ct, un, ds, da, mo, pl, wk⟩ m s t w6 K6.any).mono ?_
      rintro e w7 ⟨⟨v7, rfl, O7⟩, b7⟩
      obtain ⟨ub, ud, rfl, I7, _, _⟩ := O7.val
      have J7 := J6.below b7
      have HB7 : Hid (Below w.heap.size w w7) := bstep K6.bel b7
      clear O7 b7 J6 K6 x0 x1 x2 x3 x4 x5 x6 x7 x8
      go_wp2_with fail
      refine (lawEpInts _ _ _ _ _ _ J7 I7 (by have := HL.out; omega)).mono ?_
      rintro e w8 ⟨rfl, b8⟩
      have B8 := bstep HB7.out b8
      clear b8 J7 I7
      go_wp2
      go_ret
      exact ⟨rfl, B8⟩
    have e0 : 1 ≤ ev := (ru_ok HM.out).1.e0
    have e1 : ev ≤ 100 := (ru_ok HM.out).1.e1
    clear J6
    have HT6 : Hid (Tab w6) := K6.any.tab
    have HK6 : Hid (RQ w X (⟨f, ev, ct, un, ds, da, mo, pl, wk⟩ : Rl) m w6) := K6
    clear K6
    go_wp2_with fail
    refine (implDays_plain 1 ev s t _ (HT6.out.on ((Below.refl _ w6).alloc (Nat.le_refl _) _))).mono ?_
    rintro e w8 ⟨⟨v8, rfl, O8⟩, b8⟩
    obtain ⟨ya, yc, rfl, I8, _, _⟩ := O8.val
    have B8 : Below w6.heap.size w6 w8 := bstep ((Below.refl _ w6).alloc (Nat.le_refl _) _) b8
    have K8 := HK6.out.on B8
    have HT8 : Hid (Tab w8) := HT6.out.on B8
    have HJ8 : Hid (IsInts w8 ya (daysL (plainR 1 ev) s t)) := I8
    have HE1 : Hid (∀ i, i < (daysL (plainR 1 ev) s t).length → gi (daysL (plainR 1 ev) s t) i = s + (i : Int) * ev) := fun i hi => every_law e0 (.inl ⟨rfl, rfl⟩) hi
    have HL1 : Hid ((daysL (plainR 1 ev) s t).length ≤ 200) := days_len _ _ _
    generalize daysL (plainR 1 ev) s t = D1 at *
    have HK8 : Hid (RQ w X (⟨f, ev, ct, un, ds, da, mo, pl, wk⟩ : Rl) m w8) := K8
    clear O8 b8 B8 I8 x0 x1 x2 x3 x4 x5 x6 x7 x8
    have x1 : World.cell? w8 ⟨X, 1, none⟩ = some (.int .i64 ev) := (K8.c.2 1 _ rfl).1
    clear K8
    go_wp2_with fail
    refine (implDays_plain 2 ev s t _ (HT8.out.on ((Below.refl _ w8).alloc (Nat.le_refl _) _))).mono ?_
    rintro e w9 ⟨⟨v9, rfl, O9⟩, b9⟩
    obtain ⟨za, zc, rfl, I9, _, _⟩ := O9.val
    have B9 : Below w8.heap.size w8 w9 := bstep ((Below.refl _ w8).alloc (Nat.le_refl _) _) b9
    have HK9 : Hid (RQ w X (⟨f, ev, ct, un, ds, da, mo, pl, wk⟩ : Rl) m w9) := HK8.out.on B9
    have HJ9 : Hid (IsInts w9 ya D1) := HJ8.out.below B9
    have HI9 : Hid (IsInts w9 za (daysL (plainR 2 ev) s t)) := I9
    have HE2 : Hid (∀ i, i < (daysL (plainR 2 ev) s t).length → gi (daysL (plainR 2 ev) s t) i = s + 7 * (i : Int) * ev) := fun i hi => (every_law (c := 7 * ev) e0 (.inr ⟨rfl, rfl⟩) hi).trans (by rw [Int.mul_left_comm, Int.mul_assoc])
    have HL2 : Hid ((daysL (plainR 2 ev) s t).length ≤ 200) := days_len _ _ _
    generalize daysL (plainR 2 ev) s t = D2 at *
    clear O9 b9 B9 I9 x1 HJ8 HK8 HK6 HT6 HT8
    have q0 : 0 ≤ s := by omega
    go_wp2
    go_loopw [11] (fun i wr => ∃ k : Nat, k ≤ D1.length ∧ i = .int .i64 k ∧ Below w9.heap.size w9 wr) (fun i _ => D1.length - (intOf i).toNat)
    case atStart => exact ⟨0, by omega, rfl, Below.refl _ _⟩
    case round =>
      obtain ⟨k, hk, rfl, hb⟩ := hrel
      by_cases hlt : k < D1.length
      · have J := HJ9.out.below hb
        obtain ⟨b, off, rfl, hbs, hc⟩ := J.cell (by omega)
        have c0 := hc k hlt
        rw [HE1.out k hlt] at c0
        have K := HK9.out.on hb
        have x1 : World.cell? wr ⟨X, 1, none⟩ = some (.int .i64 ev) := (K.c.2 1 _ rfl).1
        have hn : (D1.length : Int) ≤ 200 := by have := HL1.out; omega
        have hi0 : (0 : Int) ≤ (k : Int) := by omega
        have hi1 : (k : Int) < (D1.length : Int) := by omega
        have p0 : 0 ≤ (k : Int) * ev := Int.mul_nonneg hi0 (by omega)
        have p1 : (k : Int) * ev ≤ 200 * 100 := Int.mul_le_mul (by omega) e1 (by omega) (by omega)
        have g2 := IntWalk.i64_in ((k : Int) * ev) (by omega)
        have g3 := IntWalk.i64_in (s + (k : Int) * ev) (by omega)
        clear J K hc
        go_wp2
        go_quiet (fail)
        go_wp2
        go_roundw
        case rel => exact ⟨k + 1, by omega, by go_num, Below.drewN' hb _⟩
        case measure => simp [intOf]; omega
      · have HK10 : Hid (RQ w X (⟨f, ev, ct, un, ds, da, mo, pl, wk⟩ : Rl) m wr) := HK9.out.on hb
        have HI10 : Hid (IsInts wr za D2) := HI9.out.below hb
        generalize wr = w10 at *
        go_wp2
        go_loopw [12] (fun i wr => ∃ k : Nat, k ≤ D2.length ∧ i = .int .i64 k ∧ Below w10.heap.size w10 wr) (fun i _ => D2.length - (intOf i).toNat)
        case atStart => exact ⟨0, by omega, rfl, Below.refl _ _⟩
        case round =>
          obtain ⟨k, hk, rfl, hb⟩ := hrel
          by_cases hlt : k < D2.length
          · have J := HI10.out.below hb
            obtain ⟨b, off, rfl, hbs, hc⟩ := J.cell (by omega)
            have c0 := hc k hlt
            rw [HE2.out k hlt] at c0
            have K := HK10.out.on hb
            have x1 : World.cell? wr ⟨X, 1, none⟩ = some (.int .i64 ev) := (K.c.2 1 _ rfl).1
            have hn : (D2.length : Int) ≤ 200 := by have := HL2.out; omega
            have hi0 : (0 : Int) ≤ (k : Int) := by omega
            have hi1 : (k : Int) < (D2.length : Int) := by omega
            have p0 : 0 ≤ 7 * (k : Int) * ev := Int.mul_nonneg (by omega) (by omega)
            have p1 : 7 * (k : Int) * ev ≤ 1400 * 100 := Int.mul_le_mul (by omega) e1 (by omega) (by omega)
            have g4 := IntWalk.i64_in (7 * (k : Int)) (by omega)
            have g2 := IntWalk.i64_in (7 * (k : Int) * ev) (by omega)
            have g3 := IntWalk.i64_in (s + 7 * (k : Int) * ev) (by omega)
            clear J K hc
            go_wp2
            go_quiet (fail)
            go_wp2
            go_roundw
            case rel => exact ⟨k + 1, by omega, by go_num, Below.drewN' hb _⟩
            case measure => simp [intOf]; omega
          · have Bf := (HK10.out.on hb).bel
            go_wp2
            go_ret
            exact ⟨rfl, Bf⟩
end Go.Proofs.YtlfglhpepoepcaaDoor
