/- Lists of numbers held against each other. -/
import Derived.Test.YtlfglhpepoepcaaDoorOi
import Derived.Test.YtlfglhpepoepcaaDoorJWi
import Derived.Test.YtlfglhpepoepcaaDoorJWa
namespace Go.Proofs.YtlfglhpepoepcaaDoor
open Go.RowKit
set_option linter.unusedVariables false
set_option maxHeartbeats 2000000 in
theorem lawEpInts (a a' : Option Addr) (cap cap' : Nat) (l : List Int) (w : World) (h : IsInts w a l) (h' : IsInts w a' l) (hl : l.length ≤ 4000000) :
    Calls Tryd.prog 19 #[.slice a l.length cap, .slice a' l.length cap'] w fun e w' => e = .returned (.bool true) ∧ Below w.heap.size w w' := by
  have H1 : Hid (IsInts w a l) := h
  have H2 : Hid (IsInts w a' l) := h'
  clear h h'
  go_enter Tryd.func19, Tryd.ntmps19
  go_wp2
  go_loopw [5] (fun i wr => ∃ k : Nat, k ≤ l.length ∧ i = .int .i64 k ∧ Below w.heap.size w wr) (fun i _ => l.length - (intOf i).toNat)
  case atStart => exact ⟨0, by omega, rfl, Below.refl _ _⟩
  case round =>
    obtain ⟨k, hk, rfl, hb⟩ := hrel
    by_cases hlt : k < l.length
    · have G1 := H1.out
      have G2 := H2.out
      rcases G1 with G1 | ⟨b, o, rfl, hbs, hc⟩
      · rw [G1] at hlt; simp at hlt
      rcases G2 with G2 | ⟨b', o', rfl, hbs', hc'⟩
      · rw [G2] at hlt; simp at hlt
      have c0 : wr.cell? ⟨b, o + k, none⟩ = some (.int .i64 (gi l k)) := by rw [hb.cell (p := ⟨b, o + k, none⟩) hbs]; exact hc k hlt
      have c1 : wr.cell? ⟨b', o' + k, none⟩ = some (.int .i64 (gi l k)) := by rw [hb.cell (p := ⟨b', o' + k, none⟩) hbs']; exact hc' k hlt
      clear hc hc'
      have hi1 : (k : Int) < (l.length : Int) := by omega
      have hi0 : (0 : Int) ≤ (k : Int) := by omega
      go_wp2
      go_quiet (fail)
      go_wp2
      go_roundw
      case rel => exact ⟨k + 1, by omega, by go_num, Below.drewN' hb _⟩
      case measure => simp [intOf]; omega
    · go_wp2
      go_ret
      exact ⟨rfl, hb⟩
end Go.Proofs.YtlfglhpepoepcaaDoor
namespace Go.Proofs.YtlfglhpepoepcaaDoor
open Go.RowKit
set_option linter.unusedVariables false
structure RR (w : World) (X : Nat) (r : Rl) (m : Rm) (W : World) : Prop where
  c : CF W X (rcs r m)
  any : RAny W r m
  bel : Below w.heap.size w W
theorem RR.on {w W W' : World} {X : Nat} {r : Rl} {m : Rm} (h : RR w X r m W) (hb : Below W.heap.size W W') : RR w X r m W' := ⟨h.c.below hb, h.any.on hb, bstep h.bel hb⟩
structure RW (w : World) (X : Nat) (r : Rl) (m : Rm) (a : Option Addr) (L : List Int) (W : World) : Prop where
  k : RR w X r m W
  l : IsInts W a L
theorem RW.on {w W W' : World} {X : Nat} {r : Rl} {m : Rm} {a : Option Addr} {L : List Int} (h : RW w X r m a L W) (hb : Below W.heap.size W W') : RW w X r m a L W' := ⟨h.k.on hb, h.l.below hb⟩
theorem any_of {w W : World} {B : Nat} {r : Rl} {m : Rm} (h : OL B r m W) (sm : Sml 4 r) (ht : Tab W) : RAny W r m := ⟨by have := sm.1; omega, by have := sm.2.1; omega, by have := sm.2.2.1; omega, by have := sm.2.2.2; omega, h.mem, ht⟩
theorem IsInts.cell {w : World} {a : Option Addr} {l : List Int} (h : IsInts w a l) (hl : 0 < l.length) : ∃ b off, a = some ⟨b, off, none⟩ ∧ b < w.heap.size ∧ ∀ i, i < l.length → w.cell? ⟨b, off + i, none⟩ = some (.int .i64 (gi l i)) := by
  rcases h with h | h
  · rw [h] at hl; simp at hl
  · exact h
theorem may_same {r : Rl} {s t t' : Int} (hs : 0 ≤ s) (ht : t ≤ 3652058) (hd : t - s ≤ 11000) (h : t' ≤ t) : mayB r s t = true ∨ mayB r s t' = false := by
  cases hm : mayB r s t with
  | true => exact .inl rfl
  | false =>
    right
    cases hm' : mayB r s t' with
    | false => rfl
    | true =>
      obtain ⟨a, b, c, d⟩ := may_ok hm'
      have : mayB r s t = true := by
        unfold mayB at hm' ⊢
        simp only [Bool.and_eq_true, decide_eq_true_eq] at hm' ⊢
        exact ⟨hm'.1, hm'.2.1, (in_iff _ _ _).2 ⟨by omega, ht⟩, hd⟩
      rw [hm] at this; cases this
theorem gi_take {l : List Int} {n i : Nat} (h : i < n) (h2 : i < l.length) : gi (l.take n) i = gi l i := by unfold gi; simp [h, h2]
theorem ints_take {w : World} {a : Option Addr} {l : List Int} (h : IsInts w a l) (n : Nat) : IsInts w a (l.take n) := by
  rcases h with h | ⟨b, off, h1, h2, h3⟩
  · left; rw [h]; simp
  · refine .inr ⟨b, off, h1, h2, fun i hi => ?_⟩
    have h4 : i < n ∧ i < l.length := by rw [List.length_take] at hi; omega
    rw [gi_take h4.1 h4.2]; exact h3 i h4.2
theorem pre_eq {l m : List Int} (h : l <+: m) : m.take l.length = l := by
  obtain ⟨k, rfl⟩ := h
  simp
end Go.Proofs.YtlfglhpepoepcaaDoor
namespace Go.Proofs.YtlfglhpepoepcaaDoor
open Go.RowKit
set_option linter.unusedVariables false
/-- A rule in its own block, its lists ahead of it: its numbers may be set. -/
structure RQ (w : World) (X : Nat) (r : Rl) (m : Rm) (W : World) : Prop where
  c : CF W X (rcs r m)
  old : ∃ W1 : World, W1.heap.size = X ∧ RAny W1 r m ∧ Below X W1 W
  bel : Below w.heap.size w W
  le : w.heap.size ≤ X
theorem RQ.any {w W : World} {X : Nat} {r : Rl} {m : Rm} (h : RQ w X r m W) : RAny W r m := by
  obtain ⟨W1, rfl, a, b⟩ := h.old
  exact a.on b
theorem RQ.on {w W W' : World} {X : Nat} {r : Rl} {m : Rm} (h : RQ w X r m W) (hb : Below W.heap.size W W') : RQ w X r m W' := by
  obtain ⟨W1, h1, a, b⟩ := h.old
  exact ⟨h.c.below hb, ⟨W1, h1, a, b.trans (hb.mono (Nat.le_of_lt h.c.1))⟩, bstep h.bel hb, h.le⟩
theorem RQ.put {w W : World} {X : Nat} {r r' : Rl} {m : Rm} (h : RQ w X r m W) (i : Nat) (v : Value) (hi : i < 9) (hc : rcs r' m = (rcs r m).set! i v) (h0 : r'.ds = r.ds) (h1 : r'.da = r.da) (h2 : r'.mo = r.mo) (h3 : r'.pl = r.pl) : RQ w X r' m (W.setCell ⟨X, i, none⟩ v) := by
  obtain ⟨W1, hX, a, b⟩ := h.old
  refine ⟨by rw [hc]; exact h.c.set i v (by unfold rcs; exact hi), ⟨W1, hX, ⟨by rw [h0]; exact a.l0, by rw [h1]; exact a.l1, by rw [h2]; exact a.l2, by rw [h3]; exact a.l3, ?_, a.tab⟩, b.setCell (p := ⟨X, i, none⟩) (Nat.le_refl _) v⟩, h.bel.setCell (p := ⟨X, i, none⟩) h.le v, h.le⟩
  obtain ⟨t, i1, i2, i3⟩ := a.mem
  exact ⟨by rw [h0]; exact t, by rw [h1]; exact i1, by rw [h2]; exact i2, by rw [h3]; exact i3⟩
theorem IsInts.kept {w W W' : World} {B : Nat} {a : Option Addr} {l : List Int} (h : IsInts w a l) (hb : Below w.heap.size w W) : IsInts W a l := h.below hb
theorem comes_re (f ev ct un ct' un' : Int) (ds : List (Int × Int)) (da mo pl : List Int) (wk s t : Int) : comes ⟨f, ev, ct, un, ds, da, mo, pl, wk⟩ s t = comes ⟨f, ev, ct', un', ds, da, mo, pl, wk⟩ s t := rfl
theorem may_re {f ev ct un ct' un' : Int} {ds : List (Int × Int)} {da mo pl : List Int} {wk s t : Int} (h : ofB f ev ct un wk = ofB f ev ct' un' wk) : mayB ⟨f, ev, ct, un, ds, da, mo, pl, wk⟩ s t = mayB ⟨f, ev, ct', un', ds, da, mo, pl, wk⟩ s t := by
  unfold mayB ruOf ruB
  simp only
  rw [h]
theorem of_ct {f ev wk c : Int} (h0 : 1 ≤ c) (h1 : c ≤ 9) : ofB f ev c 0 wk = ofB f ev 0 0 wk := by
  rw [Bool.eq_iff_iff, of_iff, of_iff]
  constructor
  · rintro h; omega
  · rintro h; omega
theorem count_law {f ev c : Int} {ds : List (Int × Int)} {da mo pl : List Int} {wk s t : Int} (h0 : 1 ≤ c) (h1 : c ≤ 9) : daysL ⟨f, ev, c, 0, ds, da, mo, pl, wk⟩ s t = (daysL ⟨f, ev, 0, 0, ds, da, mo, pl, wk⟩ s t).take c.toNat := by
  have hm : mayB ⟨f, ev, c, 0, ds, da, mo, pl, wk⟩ s t = mayB ⟨f, ev, 0, 0, ds, da, mo, pl, wk⟩ s t := may_re (of_ct h0 h1)
  cases hv : mayB ⟨f, ev, 0, 0, ds, da, mo, pl, wk⟩ s t with
  | false => rw [days_no hv, days_no (hm.trans hv)]; simp
  | true =>
    rw [days_eq hv, days_eq (hm.trans hv), comes_re f ev c 0 0 0]
    have e1 : (mostT ⟨f, ev, c, 0, ds, da, mo, pl, wk⟩ 200) = c := by unfold mostT; rw [if_pos]; exact ⟨by show 0 < c; omega, by show c < 200; omega⟩
    have e2 : (mostT ⟨f, ev, 0, 0, ds, da, mo, pl, wk⟩ 200) = 200 := by unfold mostT; rw [if_neg]; rintro ⟨h, _⟩; exact absurd h (by show ¬ (0 : Int) < 0; omega)
    have e3 : limT ⟨f, ev, c, 0, ds, da, mo, pl, wk⟩ t = limT ⟨f, ev, 0, 0, ds, da, mo, pl, wk⟩ t := rfl
    rw [e1, e2, e3, List.take_take]
    congr 1
    omega
end Go.Proofs.YtlfglhpepoepcaaDoor
namespace Go.Proofs.YtlfglhpepoepcaaDoor
open Go.RowKit
set_option linter.unusedVariables false
theorem until_law {f ev ct un : Int} {ds : List (Int × Int)} {da mo pl : List Int} {wk s t d : Int} (h : mayB ⟨f, ev, ct, un, ds, da, mo, pl, wk⟩ s t = true) (h0 : 1 ≤ d) (h1 : d ≤ t) : daysL ⟨f, ev, 0, d, ds, da, mo, pl, wk⟩ s t = daysL ⟨f, ev, 0, 0, ds, da, mo, pl, wk⟩ s d := by
  obtain ⟨hru, ⟨s0, s1⟩, ⟨t0, t1⟩, ht⟩ := may_ok h
  have hof : ofB f ev ct un wk = true := by unfold ruOf ruB at hru; simp only [Bool.and_eq_true] at hru; exact hru.1
  obtain ⟨a0, a1, _, _, _, a5⟩ := (of_iff _ _ _ _ _).1 hof
  have e1 : ofB f ev 0 d wk = true := (of_iff _ _ _ _ _).2 ⟨a0, a1, ⟨by omega, by omega⟩, ⟨by omega, by omega⟩, .inl rfl, a5⟩
  have e2 : ofB f ev 0 0 wk = true := (of_iff _ _ _ _ _).2 ⟨a0, a1, ⟨by omega, by omega⟩, ⟨by omega, by omega⟩, .inl rfl, a5⟩
  have m1 : mayB ⟨f, ev, 0, d, ds, da, mo, pl, wk⟩ s t = true := (may_re (by rw [e1, hof])).trans h
  have m2 : mayB ⟨f, ev, 0, 0, ds, da, mo, pl, wk⟩ s t = true := (may_re (by rw [e2, hof])).trans h
  have m3 : mayB ⟨f, ev, 0, 0, ds, da, mo, pl, wk⟩ s d = true := by
    unfold mayB
    rw [(may_ok m2).1, (in_iff _ _ _).2 ⟨s0, s1⟩, (in_iff d 0 3652058).2 ⟨by omega, by omega⟩]
    simp; omega
  rw [days_eq m1, days_eq m3, comes_re f ev 0 d 0 0]
  have q1 : limT ⟨f, ev, 0, d, ds, da, mo, pl, wk⟩ t = d := by
    unfold limT
    by_cases hd : d < t
    · rw [if_pos]; exact ⟨by show 0 < d; omega, hd⟩
    · rw [if_neg]; · omega
      · rintro ⟨_, q⟩; exact hd q
  have q2 : limT ⟨f, ev, 0, 0, ds, da, mo, pl, wk⟩ d = d := by
    unfold limT
    rw [if_neg]; rintro ⟨q, _⟩; exact absurd q (by show ¬ (0 : Int) < 0; omega)
  rw [q1, q2]
  rfl
set_option maxHeartbeats 4000000 in
theorem lawEpAsked (r : Rl) (m : Rm) (s d : Int) (w : World) (hr : RAny w r m) :
    Calls Tryd.prog 32 #[.agg #[.int .i64 r.f, .int .i64 r.ev, .int .i64 r.ct, .int .i64 r.un, .slice m.a0 r.ds.length m.c0, .slice m.a1 r.da.length m.c1, .slice m.a2 r.mo.length m.c2, .slice m.a3 r.pl.length m.c3, .int .i64 r.wk], .int .i64 s, .int .i64 d] w fun e w' => e = .returned (.bool (mayB r s d)) ∧ Below w.heap.size w w' := by
  obtain ⟨W0, hW0⟩ : ∃ W0, W0 = w.alloc (.cells #[.int .i64 r.f, .int .i64 r.ev, .int .i64 r.ct, .int .i64 r.un, .slice m.a0 r.ds.length m.c0, .slice m.a1 r.da.length m.c1, .slice m.a2 r.mo.length m.c2, .slice m.a3 r.pl.length m.c3, .int .i64 r.wk] 26) := ⟨_, rfl⟩
  have hb0 : Below w.heap.size w W0 := by rw [hW0]; exact (Below.refl _ w).alloc (Nat.le_refl _) _
  have HW0 : Hid (W0 = w.alloc (.cells #[.int .i64 r.f, .int .i64 r.ev, .int .i64 r.ct, .int .i64 r.un, .slice m.a0 r.ds.length m.c0, .slice m.a1 r.da.length m.c1, .slice m.a2 r.mo.length m.c2, .slice m.a3 r.pl.length m.c3, .int .i64 r.wk] 26)) := hW0
  have HB0 : Hid (Below w.heap.size w W0) := hb0
  have hr0 := hr.on hb0
  have HOK : Hid (Calls Tryd.prog 54 #[.agg #[.int .i64 r.f, .int .i64 r.ev, .int .i64 r.ct, .int .i64 r.un, .slice m.a0 r.ds.length m.c0, .slice m.a1 r.da.length m.c1, .slice m.a2 r.mo.length m.c2, .slice m.a3 r.pl.length m.c3, .int .i64 r.wk]] W0 fun z w' => z = .returned (.bool (ruOf r)) ∧ Below W0.heap.size W0 w') := implRuleOk _ _ _ _ _ _ _ _ _ _ _ _ _ _ _ _ _ W0 hr0.mem.t hr0.mem.d hr0.mem.o hr0.mem.p hr0.l0 hr0.l1 hr0.l2 hr0.l3
  clear hW0 hb0 hr0 hr
  cases h1 : ruOf r with
  | false =>
    rw [h1] at HOK
    have HV : Hid (mayB r s d = false) := by unfold Hid mayB; rw [h1]; rfl
    go_enter Tryd.func32, Tryd.ntmps32
    go_wp2_with fail
    rw [← HW0.out]
    refine HOK.out.mono ?_
    rintro e w1 ⟨rfl, b1⟩
    have HB1 : Hid (Below w.heap.size w w1) := bstep HB0.out b1
    clear b1
    go_wp2
    go_ret
    exact ⟨ret_b HV.out.symm, HB1.out⟩
  | true =>
    rw [h1] at HOK
    have HR : Hid (ruOf r = true) := h1
    clear h1
    by_cases s0 : s < 0
    · have hq : inB s 0 3652058 = false := (in_not _ _ _).2 (by omega)
      have HV : Hid (mayB r s d = false) := by unfold Hid mayB; rw [HR.out, hq]; rfl
      go_enter Tryd.func32, Tryd.ntmps32
      go_wp2_with fail
      rw [← HW0.out]
      refine HOK.out.mono ?_
      rintro e w1 ⟨rfl, b1⟩
      have HB1 : Hid (Below w.heap.size w w1) := bstep HB0.out b1
      clear b1
      go_wp2
      go_ret
      exact ⟨ret_b HV.out.symm, HB1.out⟩
    by_cases s1 : s > 3652058
    · have hq : inB s 0 3652058 = false := (in_not _ _ _).2 (by omega)
      have s0' : s ≥ 0 := by omega
      have HV : Hid (mayB r s d = false) := by unfold Hid mayB; rw [HR.out, hq]; rfl
      go_enter Tryd.func32, Tryd.ntmps32
      go_wp2_with fail
      rw [← HW0.out]
      refine HOK.out.mono ?_
      rintro e w1 ⟨rfl, b1⟩
      have HB1 : Hid (Below w.heap.size w w1) := bstep HB0.out b1
      clear b1
      go_wp2
      go_ret
      exact ⟨ret_b HV.out.symm, HB1.out⟩
    have hs : inB s 0 3652058 = true := (in_iff _ _ _).2 ⟨by omega, by omega⟩
    have s0' : s ≥ 0 := by omega
    have s1' : s ≤ 3652058 := by omega
    by_cases d0 : d < 0
    · have hq : inB d 0 3652058 = false := (in_not _ _ _).2 (by omega)
      have HV : Hid (mayB r s d = false) := by unfold Hid mayB; rw [HR.out, hs, hq]; rfl
      go_enter Tryd.func32, Tryd.ntmps32
      go_wp2_with fail
      rw [← HW0.out]
      refine HOK.out.mono ?_
      rintro e w1 ⟨rfl, b1⟩
      have HB1 : Hid (Below w.heap.size w w1) := bstep HB0.out b1
      clear b1
      go_wp2
      go_ret
      exact ⟨ret_b HV.out.symm, HB1.out⟩
    by_cases d1 : d > 3652058
    · have hq : inB d 0 3652058 = false := (in_not _ _ _).2 (by omega)
      have d0' : d ≥ 0 := by omega
      have HV : Hid (mayB r s d = false) := by unfold Hid mayB; rw [HR.out, hs, hq]; rfl
      go_enter Tryd.func32, Tryd.ntmps32
      go_wp2_with fail
      rw [← HW0.out]
      refine HOK.out.mono ?_
      rintro e w1 ⟨rfl, b1⟩
      have HB1 : Hid (Below w.heap.size w w1) := bstep HB0.out b1
      clear b1
      go_wp2
      go_ret
      exact ⟨ret_b HV.out.symm, HB1.out⟩
    have hd : inB d 0 3652058 = true := (in_iff _ _ _).2 ⟨by omega, by omega⟩
    have d0' : d ≥ 0 := by omega
    have d1' : d ≤ 3652058 := by omega
    have g1 := IntWalk.i64_in (d - s) (by omega)
    have HV : Hid (mayB r s d = decide (d - s ≤ 11000)) := by unfold Hid mayB; rw [HR.out, hs, hd]; rfl
    go_enter Tryd.func32, Tryd.ntmps32
    go_wp2_with fail
    rw [← HW0.out]
    refine HOK.out.mono ?_
    rintro e w1 ⟨rfl, b1⟩
    have HB1 : Hid (Below w.heap.size w w1) := bstep HB0.out b1
    clear b1
    go_wp2
    go_ret
    exact ⟨ret_b HV.out.symm, HB1.out⟩
end Go.Proofs.YtlfglhpepoepcaaDoor
namespace Go.Proofs.YtlfglhpepoepcaaDoor
open Go.RowKit
set_option linter.unusedVariables false
theorem ru_nopl {f ev ct un : Int} {ds : List (Int × Int)} {da mo pl : List Int} {wk : Int} (h : ruOf ⟨f, ev, ct, un, ds, da, mo, pl, wk⟩ = true) : ruOf ⟨f, ev, ct, un, ds, da, mo, [], wk⟩ = true := by
  unfold ruOf ruB liB at h ⊢
  simp only [Bool.and_eq_true, decide_eq_true_eq] at h ⊢
  obtain ⟨h1, h2, h3, h4, h5, h6, h7⟩ := h
  refine ⟨h1, h2, h3, ?_, h5, h6, ?_⟩
  · rintro ⟨q, _⟩; simp at q
  · rfl
theorem places_law {f ev ct un : Int} {ds : List (Int × Int)} {da mo pl : List Int} {wk s t d : Int} (h : d ∈ daysL ⟨f, ev, ct, un, ds, da, mo, pl, wk⟩ s t) (hc : ¬ 0 < ct) : onB ⟨f, ev, ct, un, ds, da, mo, [], wk⟩ s d = true := by
  obtain ⟨hm, hx⟩ := days_mem h
  have bd := days_bd h
  obtain ⟨hru, ⟨s0, s1⟩, ⟨t0, t1⟩, ht⟩ := may_ok hm
  have hX := ru_nopl hru
  have hm' : mayB ⟨f, ev, ct, un, ds, da, mo, [], wk⟩ s d = true := by
    unfold mayB
    rw [hX, (in_iff _ _ _).2 ⟨s0, s1⟩, (in_iff d 0 3652058).2 ⟨by omega, by omega⟩]
    simp; omega
  refine on_iff.2 ⟨hm', ?_⟩
  have e1 : mostT ⟨f, ev, ct, un, ds, da, mo, [], wk⟩ 20000 = 20000 := by unfold mostT; rw [if_neg]; rintro ⟨q, _⟩; exact hc q
  have e2 : limT ⟨f, ev, ct, un, ds, da, mo, [], wk⟩ d = d := by
    unfold limT
    rw [if_neg]
    rintro ⟨q1, q2⟩
    have := bd.2.2.1 q1
    exact absurd q2 (by show ¬ un < d; have : d ≤ un := this; omega)
  have hr := (ru_ok hX).1
  have ql : (comes ⟨f, ev, ct, un, ds, da, mo, [], wk⟩ s d).length ≤ (d + 1 - s).toNat := comes_len hr s0 s1
  rw [e1, e2, List.take_of_length_le (by omega)]
  refine (comes_iff hr s0 s1).2 ⟨?_, Int.le_refl _⟩
  obtain ⟨⟨a, k, hk⟩, _⟩ := (comes_iff (ru_ok hru).1 s0 s1).1 hx
  refine ⟨a, k, ?_⟩
  unfold chJ choice at hk ⊢
  rw [if_pos (show ([] : List Int).length = 0 from rfl)]
  split at hk
  · exact hk
  · exact plL_mem (Nat.le_refl _) hk
theorem implRuleOn_yes (r : Rl) (m : Rm) (s d : Int) (w : World) (hr : RAny w r m) (h : onB r s d = true) :
    Calls Tryd.prog 22 #[.agg #[.int .i64 r.f, .int .i64 r.ev, .int .i64 r.ct, .int .i64 r.un, .slice m.a0 r.ds.length m.c0, .slice m.a1 r.da.length m.c1, .slice m.a2 r.mo.length m.c2, .slice m.a3 r.pl.length m.c3, .int .i64 r.wk], .int .i64 s, .int .i64 d] w fun e w' => e = .returned (.bool true) ∧ Below w.heap.size w w' := by
  have := implRuleOn r m s d w hr
  rw [h] at this
  exact this
/-- A rule without its places, copied into a block of its own. -/
theorem RQ.nopl {w W : World} {X : Nat} {f ev ct un : Int} {ds : List (Int × Int)} {da mo pl : List Int} {wk : Int} {m : Rm} (h : RQ w X ⟨f, ev, ct, un, ds, da, mo, pl, wk⟩ m W) :
    RQ w W.heap.size ⟨f, ev, ct, un, ds, da, mo, [], wk⟩ ⟨m.a0, m.c0, m.a1, m.c1, m.a2, m.c2, none, 0⟩ (W.alloc (.cells #[.int .i64 f, .int .i64 ev, .int .i64 ct, .int .i64 un, .slice m.a0 ds.length m.c0, .slice m.a1 da.length m.c1, .slice m.a2 mo.length m.c2, .slice none 0 0, .int .i64 wk] 26)) := by
  have a := h.any
  obtain ⟨t, i1, i2, i3⟩ := a.mem
  have bA : Below W.heap.size W (W.alloc (.cells #[.int .i64 f, .int .i64 ev, .int .i64 ct, .int .i64 un, .slice m.a0 ds.length m.c0, .slice m.a1 da.length m.c1, .slice m.a2 mo.length m.c2, .slice none 0 0, .int .i64 wk] 26)) := (Below.refl _ _).alloc (Nat.le_refl _) _
  exact ⟨CF.new _ _ _, ⟨W, rfl, ⟨a.l0, a.l1, a.l2, Nat.zero_le _, ⟨t, i1, i2, .inl rfl⟩, a.tab⟩, bA⟩, bstep h.bel bA, h.bel.size⟩
end Go.Proofs.YtlfglhpepoepcaaDoor
namespace Go.Proofs.YtlfglhpepoepcaaDoor
open Go.RowKit
set_option linter.unusedVariables false
/-- Numbers in even steps, up to one. -/
def steps (s c te : Int) : List Int := (List.range ((te - s) / c + 1).toNat).map fun i : Nat => s + (i : Int) * c
theorem steps_mem {s c te x : Int} (hc : 0 < c) : x ∈ steps s c te ↔ ∃ k : Nat, x = s + (k : Int) * c ∧ x ≤ te := by
  unfold steps
  rw [List.mem_map]
  constructor
  · rintro ⟨i, hi, rfl⟩
    have hi := List.mem_range.1 hi
    have h2 : (i : Int) ≤ (te - s) / c := by omega
    have h3 := (Int.le_ediv_iff_mul_le hc).1 h2
    exact ⟨i, rfl, by omega⟩
  · rintro ⟨k, rfl, h⟩
    have h3 : (k : Int) ≤ (te - s) / c := (Int.le_ediv_iff_mul_le hc).2 (by omega)
    exact ⟨k, List.mem_range.2 (by omega), rfl⟩
theorem steps_asc {s c te : Int} (hc : 0 < c) : (steps s c te).Pairwise (· < ·) := by
  unfold steps
  rw [List.pairwise_map]
  refine List.Pairwise.imp ?_ List.pairwise_lt_range
  intro a b h
  have : (a : Int) * c < (b : Int) * c := Int.mul_lt_mul_of_pos_right (by omega) hc
  omega
/-- A rule without lists that comes every so many of its periods. -/
def plainR (f ev : Int) : Rl := ⟨f, ev, 0, 0, [], [], [], [], 0⟩
theorem fit_mem {r : Rl} {s a b x : Int} : x ∈ fitL r s a b ↔ (a ≤ x ∧ x < b) ∧ (0 ≤ x ∧ x ≤ 3652058) ∧ fitB r s x = true := by
  unfold fitL
  rw [List.mem_filter, ira_mem]
  simp only [Bool.and_eq_true, decide_eq_true_eq]
theorem plain_day {ev s x : Int} (h0 : 0 ≤ s) (hx : x ≤ 3652058) (he : 1 ≤ ev) : dayP (plainR 1 ev) s x ↔ ∃ k : Nat, x = s + (k : Int) * ev := by
  unfold dayP
  constructor
  · rintro ⟨hs, k, hk⟩
    refine ⟨k, ?_⟩
    unfold chJ choice at hk
    rw [if_pos (show (plainR 1 ev).pl.length = 0 from rfl)] at hk
    have h := (fit_mem.1 hk).1
    have e1 : spanF (plainR 1 ev) s ((k : Int) * (plainR 1 ev).ev) = s + (k : Int) * ev := rfl
    have e2 : spanL (plainR 1 ev) s ((k : Int) * (plainR 1 ev).ev) = s + (k : Int) * ev := rfl
    rw [e1, e2] at h
    omega
  · rintro ⟨k, rfl⟩
    have hk : 0 ≤ (k : Int) * ev := Int.mul_nonneg (by omega) (by omega)
    refine ⟨by omega, k, ?_⟩
    unfold chJ choice
    rw [if_pos (show (plainR 1 ev).pl.length = 0 from rfl)]
    have e1 : spanF (plainR 1 ev) s ((k : Int) * (plainR 1 ev).ev) = s + (k : Int) * ev := rfl
    have e2 : spanL (plainR 1 ev) s ((k : Int) * (plainR 1 ev).ev) = s + (k : Int) * ev := rfl
    rw [e1, e2]
    exact fit_mem.2 ⟨⟨by omega, by omega⟩, ⟨by omega, hx⟩, rfl⟩
theorem plain_week {ev s x : Int} (h0 : 0 ≤ s) (hx : x ≤ 3652058) (he : 1 ≤ ev) : dayP (plainR 2 ev) s x ↔ ∃ k : Nat, x = s + (k : Int) * (7 * ev) := by
  have f1 : ∀ k : Nat, spanF (plainR 2 ev) s ((k : Int) * (plainR 2 ev).ev) = s - (s % 7 - 0 + 7) % 7 + 7 * ((k : Int) * ev) := fun _ => rfl
  have f2 : ∀ k : Nat, spanL (plainR 2 ev) s ((k : Int) * (plainR 2 ev).ev) = s - (s % 7 - 0 + 7) % 7 + 7 * ((k : Int) * ev) + 6 := fun _ => rfl
  have f3 : ∀ y : Int, fitB (plainR 2 ev) s y = decide (y % 7 = s % 7) := fun y => by
    unfold fitB ownB
    rw [if_pos (show (plainR 2 ev).f = 2 from rfl)]
    simp [plainR]
  have f4 : ∀ k : Nat, (k : Int) * (7 * ev) = 7 * ((k : Int) * ev) := fun k => by rw [Int.mul_left_comm]
  unfold dayP
  constructor
  · rintro ⟨hs, k, hk⟩
    refine ⟨k, ?_⟩
    unfold chJ choice at hk
    rw [if_pos (show (plainR 2 ev).pl.length = 0 from rfl)] at hk
    obtain ⟨h, _, h7⟩ := fit_mem.1 hk
    rw [f1, f2] at h
    rw [f3, decide_eq_true_eq] at h7
    rw [f4]
    omega
  · rintro ⟨k, rfl⟩
    have hk : 0 ≤ (k : Int) * ev := Int.mul_nonneg (by omega) (by omega)
    rw [f4] at hx ⊢
    refine ⟨by omega, k, ?_⟩
    unfold chJ choice
    rw [if_pos (show (plainR 2 ev).pl.length = 0 from rfl), f1, f2]
    refine fit_mem.2 ⟨⟨by omega, by omega⟩, ⟨by omega, hx⟩, ?_⟩
    rw [f3, decide_eq_true_eq]
    omega
theorem plain_comes {f ev c s t : Int} (hr : ROk (plainR f ev)) (h0 : 0 ≤ s) (h1 : s ≤ 3652058) (ht : t ≤ 3652058) (hc : 0 < c) (hd : ∀ x, x ≤ 3652058 → (dayP (plainR f ev) s x ↔ ∃ k : Nat, x = s + (k : Int) * c)) : comes (plainR f ev) s t = steps s c t := by
  refine asc_ext (comes_asc hr h0 h1) (steps_asc hc) fun x => ?_
  rw [comes_iff hr h0 h1, steps_mem hc]
  constructor
  · rintro ⟨a, b⟩
    obtain ⟨k, hk⟩ := (hd x (by omega)).1 a
    exact ⟨k, hk, b⟩
  · rintro ⟨k, hk, b⟩
    exact ⟨(hd x (by omega)).2 ⟨k, hk⟩, b⟩
theorem steps_gi {s c te : Int} {n i : Nat} (h : i < ((steps s c te).take n).length) : gi ((steps s c te).take n) i = s + (i : Int) * c := by
  rw [gi_get h, List.getElem_take]
  unfold steps
  rw [List.getElem_map, List.getElem_range]
theorem every_law {f ev c s t : Int} (he : 1 ≤ ev) (hf : f = 1 ∧ c = ev ∨ f = 2 ∧ c = 7 * ev) {i : Nat} (h : i < (daysL (plainR f ev) s t).length) : gi (daysL (plainR f ev) s t) i = s + (i : Int) * c := by
  cases hm : mayB (plainR f ev) s t with
  | false => rw [days_no hm] at h; simp at h
  | true =>
    obtain ⟨hru, ⟨s0, s1⟩, ⟨t0, t1⟩, _⟩ := may_ok hm
    have hr := (ru_ok hru).1
    have e2 : limT (plainR f ev) t = t := by
      unfold limT
      rw [if_neg]; rintro ⟨q, _⟩; exact absurd q (by show ¬ (0 : Int) < 0; omega)
    have e3 : comes (plainR f ev) s t = steps s c t := by
      rcases hf with ⟨rfl, rfl⟩ | ⟨rfl, rfl⟩
      · exact plain_comes hr s0 s1 t1 (by omega) fun x hx => plain_day s0 hx he
      · exact plain_comes hr s0 s1 t1 (by omega) fun x hx => plain_week s0 hx he
    rw [days_eq hm, e2, e3] at h ⊢
    exact steps_gi h
end Go.Proofs.YtlfglhpepoepcaaDoor
namespace Go.Proofs.YtlfglhpepoepcaaDoor
open Go.RowKit
set_option linter.unusedVariables false
/-- The day behind a month's last is the first of one. -/
theorem next_first {x : Int} (h0 : 0 ≤ x) (h1 : x < 3652058) (h : dOf x = dim (yOf x) (mOf x)) : dOf (x + 1) = 1 := by
  obtain ⟨ok, e⟩ := date_ex h0 (by omega)
  obtain ⟨a0, a1, a2, a3, a4, a5⟩ := (okD_iff _ _ _).1 ok
  have hs := mfirst_succ (yOf x) (mOf x) a2 a3 a0
  have e2 : num (yOf x) (mOf x) 1 + dim (yOf x) (mOf x) = x + 1 := by unfold num at e ⊢; omega
  rw [e2] at hs
  have dm := fun y m => dim_bd y m
  by_cases h12 : mOf x = 12
  · rw [if_pos h12] at hs
    have hy : yOf x + 1 ≤ 9999 := by
      by_cases hy : yOf x + 1 ≤ 9999
      · exact hy
      · have h9 : yOf x + 1 = 10000 := by omega
        rw [h9] at hs
        have : num 10000 1 1 = fst 10000 := by unfold num; rw [cum_one]; omega
        rw [this, fst_max] at hs
        omega
    exact (date_is ((okD_iff _ _ _).2 ⟨by omega, hy, by omega, by omega, by omega, by have := (dm (yOf x + 1) 1).1; omega⟩) hs).2.2
  · rw [if_neg h12] at hs
    exact (date_is ((okD_iff _ _ _).2 ⟨a0, a1, by omega, by omega, by omega, by have := (dm (yOf x) (mOf x + 1)).1; omega⟩) hs).2.2
/-- Every month on its last day; and: of all days of every month the last. -/
def lastR : Rl := ⟨3, 1, 0, 0, [], [-1], [], [], 0⟩
def lastW : Rl := ⟨3, 1, 0, 0, [(0, 0), (0, 1), (0, 2), (0, 3), (0, 4), (0, 5), (0, 6)], [], [], [-1], 0⟩
theorem lastR_ok : ruOf lastR = true := by decide
theorem lastW_ok : ruOf lastW = true := by decide
theorem lastR_day {s t x : Int} (h : x ∈ daysL lastR s t) : dOf x = dim (yOf x) (mOf x) := by
  obtain ⟨hm, hx⟩ := days_mem h
  have bd := days_bd h
  obtain ⟨hru, ⟨s0, s1⟩, _⟩ := may_ok hm
  obtain ⟨⟨a, k, hk⟩, _⟩ := (comes_iff (ru_ok hru).1 s0 s1).1 hx
  have hf := (fit_parts (fit_of_ch hk)).2.1
  have db := date_bd bd.2.2.2.1 bd.2.2.2.2
  rcases hf with hf | hf | hf
  · exact absurd hf (by show ¬ (1 : Nat) = 0; omega)
  · have : dOf x = -1 := by simpa [lastR] using hf
    omega
  · have : dOf x - dim (yOf x) (mOf x) - 1 = -1 := by simpa [lastR] using hf
    omega
theorem lastB_mem {l : List Int} {x : Int} (ha : l.Pairwise (· < ·)) : x ∈ plL [-1] l l.length ↔ x ∈ l ∧ ∀ y ∈ l, y ≤ x := by
  unfold plL plB hasI
  rw [List.mem_map]
  constructor
  · rintro ⟨i, hi, rfl⟩
    obtain ⟨h1, h2⟩ := List.mem_filter.1 hi
    have h1 := List.mem_range.1 h1
    have h3 : i = l.length - 1 := by
      simp only [Bool.or_eq_true, decide_eq_true_eq, List.mem_singleton] at h2
      omega
    have e : l.getD i 0 = l[i] := by simp [h1]
    rw [e]
    refine ⟨List.getElem_mem h1, fun y hy => ?_⟩
    obtain ⟨j, hj, rfl⟩ := List.getElem_of_mem hy
    rcases Nat.lt_or_ge j i with hlt | hge
    · exact Int.le_of_lt (List.pairwise_iff_getElem.1 ha j i hj h1 hlt)
    · have : j = i := by omega
      subst this; exact Int.le_refl _
  · rintro ⟨hx, hm⟩
    obtain ⟨i, hi, rfl⟩ := List.getElem_of_mem hx
    have h3 : i = l.length - 1 := by
      rcases Nat.lt_or_ge i (l.length - 1) with hlt | hge
      · have h4 := List.pairwise_iff_getElem.1 ha i (l.length - 1) hi (by omega) hlt
        have h5 := hm _ (List.getElem_mem (show l.length - 1 < l.length by omega))
        omega
      · omega
    refine ⟨i, List.mem_filter.2 ⟨List.mem_range.2 hi, ?_⟩, by simp [hi]⟩
    simp only [Bool.or_eq_true, decide_eq_true_eq, List.mem_singleton]
    right; omega
theorem week_all (x past left : Int) : lastW.ds.any (byB x past left) = true := by
  have h : x % 7 = 0 ∨ x % 7 = 1 ∨ x % 7 = 2 ∨ x % 7 = 3 ∨ x % 7 = 4 ∨ x % 7 = 5 ∨ x % 7 = 6 := by omega
  unfold lastW byB
  rcases h with h | h | h | h | h | h | h <;> simp [h]
theorem lastW_fit (s x : Int) : fitB lastW s x = true := by
  unfold fitB dfB
  rw [week_all]
  simp [lastW]
theorem lastR_fit (s x : Int) (h : 1 ≤ dOf x) : fitB lastR s x = decide (dOf x = dim (yOf x) (mOf x)) := by
  unfold fitB dtB hasI
  rw [Bool.eq_iff_iff]
  simp [lastR]
  omega
theorem last_ch {s x : Int} (h0 : 0 ≤ s) (h1 : s ≤ 3652058) (k : Nat) : x ∈ chJ lastR s k ↔ x ∈ chJ lastW s k := by
  have hd := date_bd h0 h1
  obtain ⟨Y, hY⟩ : ∃ Y, Y = yOf s + (mOf s - 1 + (k : Int) * 1) / 12 := ⟨_, rfl⟩
  obtain ⟨M, hM⟩ : ∃ M, M = (mOf s - 1 + (k : Int) * 1) % 12 + 1 := ⟨_, rfl⟩
  have y1 : 1 ≤ Y := by omega
  have m1 : 1 ≤ M := by omega
  have m2 : M ≤ 12 := by omega
  have dm := dim_bd Y M
  have cb := cum_bd Y M m1 (by omega)
  have F1 : spanF lastR s ((k : Int) * lastR.ev) = num Y M 1 := by subst hY hM; rfl
  have L1 : spanL lastR s ((k : Int) * lastR.ev) = num Y M 1 + dim Y M - 1 := by subst hY hM; rfl
  have F2 : spanF lastW s ((k : Int) * lastW.ev) = num Y M 1 := by subst hY hM; rfl
  have L2 : spanL lastW s ((k : Int) * lastW.ev) = num Y M 1 + dim Y M - 1 := by subst hY hM; rfl
  have key : ∀ z, num Y M 1 ≤ z → z < num Y M 1 + dim Y M → z ≤ 3652058 → Y ≤ 9999 ∧ yOf z = Y ∧ mOf z = M ∧ dOf z = z - num Y M 1 + 1 := by
    intro z hz0 hz1 hz2
    have y9 : Y ≤ 9999 := by
      by_cases hy : Y ≤ 9999
      · exact hy
      · have := fst_mono 10000 Y (by omega) (by omega)
        have := fst_max
        unfold num at hz0; omega
    have hn : num Y M (z - num Y M 1 + 1) = z := by unfold num; omega
    exact ⟨y9, date_is ((okD_iff _ _ _).2 ⟨y1, y9, m1, m2, by omega, by omega⟩) hn⟩
  have top : num Y M 1 ≤ 3652058 → 0 ≤ num Y M 1 ∧ num Y M 1 + dim Y M - 1 ≤ 3652058 := by
    intro h
    have y9 := (key (num Y M 1) (by omega) (by omega) h).1
    have q := num_year ((okD_iff Y M (dim Y M)).2 ⟨y1, y9, m1, m2, by omega, by omega⟩)
    have := fst_mono (Y + 1) 10000 (by omega) (by omega)
    have := fst_max
    have := fst_bd Y y1 (by omega)
    unfold num at q ⊢
    omega
  unfold chJ choice
  rw [if_pos (show lastR.pl.length = 0 from rfl), if_neg (show ¬ lastW.pl.length = 0 from by decide), F1, L1, F2, L2]
  rw [show lastW.pl = [-1] from rfl, lastB_mem (fitL_asc _ _ _ _), fit_mem, fit_mem, lastW_fit]
  constructor
  · rintro ⟨⟨a, b⟩, ⟨c, d⟩, e⟩
    obtain ⟨_, ky, km, kd⟩ := key x a (by omega) d
    rw [lastR_fit s x (by omega), decide_eq_true_eq, ky, km] at e
    refine ⟨⟨⟨a, b⟩, ⟨c, d⟩, rfl⟩, fun y hy => ?_⟩
    have := (fit_mem.1 hy).1
    omega
  · rintro ⟨⟨⟨a, b⟩, ⟨c, d⟩, _⟩, e⟩
    have tp := top (by omega)
    have hL := e (num Y M 1 + dim Y M - 1) (fit_mem.2 ⟨⟨by omega, by omega⟩, ⟨by omega, by omega⟩, lastW_fit _ _⟩)
    obtain ⟨_, ky, km, kd⟩ := key x a (by omega) d
    refine ⟨⟨a, b⟩, ⟨c, d⟩, ?_⟩
    rw [lastR_fit s x (by omega), decide_eq_true_eq, ky, km]
    omega
theorem last_law (s t : Int) : daysL lastR s t = daysL lastW s t := by
  have hmm : mayB lastR s t = mayB lastW s t := by unfold mayB; rw [lastR_ok, lastW_ok]
  cases hm : mayB lastR s t with
  | false => rw [days_no hm, days_no (hmm.symm.trans hm)]
  | true =>
    have hm' := hmm.symm.trans hm
    obtain ⟨hru, ⟨s0, s1⟩, _⟩ := may_ok hm
    have hr := (ru_ok hru).1
    have hr' := (ru_ok lastW_ok).1
    rw [days_eq hm, days_eq hm']
    have el : limT lastR t = limT lastW t := rfl
    have em : mostT lastR 200 = mostT lastW 200 := rfl
    rw [el, em]
    congr 1
    refine asc_ext (comes_asc hr s0 s1) (comes_asc hr' s0 s1) fun x => ?_
    rw [comes_iff hr s0 s1, comes_iff hr' s0 s1]
    unfold dayP
    constructor
    · rintro ⟨⟨a, k, hk⟩, b⟩; exact ⟨⟨a, k, (last_ch s0 s1 k).1 hk⟩, b⟩
    · rintro ⟨⟨a, k, hk⟩, b⟩; exact ⟨⟨a, k, (last_ch s0 s1 k).2 hk⟩, b⟩
end Go.Proofs.YtlfglhpepoepcaaDoor
namespace Go.Proofs.YtlfglhpepoepcaaDoor
open Go.RowKit
set_option linter.unusedVariables false
theorem of_wk {f ev ct un wk wk' : Int} (h0 : 0 ≤ wk) (h1 : wk ≤ 6) (h0' : 0 ≤ wk') (h1' : wk' ≤ 6) : ofB f ev ct un wk = ofB f ev ct un wk' := by
  rw [Bool.eq_iff_iff, of_iff, of_iff]
  constructor
  · rintro h; omega
  · rintro h; omega
/-- Every week, whole weeks: on which days, wherever the week begins. -/
theorem week_day {ct un : Int} {ds : List (Int × Int)} {da mo : List Int} {wk s x : Int} (h0 : 0 ≤ wk) (h1 : wk ≤ 6) (x0 : 0 ≤ x) (x1 : x ≤ 3652058) : dayP ⟨2, 1, ct, un, ds, da, mo, [], wk⟩ s x ↔ s ≤ x ∧ fitB ⟨2, 1, ct, un, ds, da, mo, [], wk⟩ s x = true := by
  have f1 : ∀ k : Nat, spanF ⟨2, 1, ct, un, ds, da, mo, [], wk⟩ s ((k : Int) * 1) = s - (s % 7 - wk + 7) % 7 + 7 * ((k : Int) * 1) := fun _ => rfl
  have f2 : ∀ k : Nat, spanL ⟨2, 1, ct, un, ds, da, mo, [], wk⟩ s ((k : Int) * 1) = s - (s % 7 - wk + 7) % 7 + 7 * ((k : Int) * 1) + 6 := fun _ => rfl
  unfold dayP
  constructor
  · rintro ⟨a, k, hk⟩
    exact ⟨a, fit_of_ch hk⟩
  · rintro ⟨a, hf⟩
    refine ⟨a, ((x - (s - (s % 7 - wk + 7) % 7)) / 7).toNat, ?_⟩
    unfold chJ choice
    rw [if_pos (show ([] : List Int).length = 0 from rfl), f1, f2]
    exact fit_mem.2 ⟨⟨by omega, by omega⟩, ⟨x0, x1⟩, hf⟩
theorem week_law {ct un : Int} {ds : List (Int × Int)} {da mo : List Int} {wk wk' s t : Int} (h0 : 0 ≤ wk) (h1 : wk ≤ 6) (h0' : 0 ≤ wk') (h1' : wk' ≤ 6) : daysL ⟨2, 1, ct, un, ds, da, mo, [], wk⟩ s t = daysL ⟨2, 1, ct, un, ds, da, mo, [], wk'⟩ s t := by
  have hmm : mayB ⟨2, 1, ct, un, ds, da, mo, [], wk⟩ s t = mayB ⟨2, 1, ct, un, ds, da, mo, [], wk'⟩ s t := by
    unfold mayB ruOf ruB
    simp only
    rw [of_wk h0 h1 h0' h1']
  cases hm : mayB ⟨2, 1, ct, un, ds, da, mo, [], wk⟩ s t with
  | false => rw [days_no hm, days_no (hmm.symm.trans hm)]
  | true =>
    have hm' := hmm.symm.trans hm
    obtain ⟨hru, ⟨s0, s1⟩, ⟨t0, t1⟩, _⟩ := may_ok hm
    have hr := (ru_ok hru).1
    have hr' := (ru_ok (may_ok hm').1).1
    rw [days_eq hm, days_eq hm']
    have el : limT ⟨2, 1, ct, un, ds, da, mo, [], wk⟩ t = limT ⟨2, 1, ct, un, ds, da, mo, [], wk'⟩ t := rfl
    have em : mostT ⟨2, 1, ct, un, ds, da, mo, [], wk⟩ 200 = mostT ⟨2, 1, ct, un, ds, da, mo, [], wk'⟩ 200 := rfl
    have ll := lim_le ⟨2, 1, ct, un, ds, da, mo, [], wk'⟩ t
    rw [el, em]
    congr 1
    refine asc_ext (comes_asc hr s0 s1) (comes_asc hr' s0 s1) fun x => ?_
    rw [comes_iff hr s0 s1, comes_iff hr' s0 s1]
    constructor
    · rintro ⟨a, b⟩
      have a0 := a.1
      have q := (week_day h0 h1 (by omega) (by omega)).1 a
      exact ⟨(week_day h0' h1' (by omega) (by omega)).2 ⟨q.1, q.2⟩, b⟩
    · rintro ⟨a, b⟩
      have a0 := a.1
      have q := (week_day h0' h1' (by omega) (by omega)).1 a
      exact ⟨(week_day h0 h1 (by omega) (by omega)).2 ⟨q.1, q.2⟩, b⟩
/-- Every month on one of its so many days of the week. -/
def nthR (num wd : Int) : Rl := ⟨3, 1, 0, 0, [(num, wd)], [], [], [], 0⟩
theorem nth_fit {num wd s t x : Int} (h : x ∈ daysL (nthR num wd) s t) : wd = x % 7 ∧ (num = 0 ∨ num = (dOf x - 1) / 7 + 1 ∨ num = -((dim (yOf x) (mOf x) - dOf x) / 7 + 1)) ∧ 1 ≤ dOf x ∧ dOf x ≤ dim (yOf x) (mOf x) ∧ s ≤ x ∧ x ≤ t ∧ 0 ≤ x ∧ x ≤ 3652058 := by
  obtain ⟨hm, hx⟩ := days_mem h
  have bd := days_bd h
  obtain ⟨hru, ⟨s0, s1⟩, _⟩ := may_ok hm
  obtain ⟨⟨a, k, hk⟩, _⟩ := (comes_iff (ru_ok hru).1 s0 s1).1 hx
  have hf := (fit_parts (fit_of_ch hk)).2.2.1
  have db := date_bd bd.2.2.2.1 bd.2.2.2.2
  have hdf : dfB (nthR num wd) x = true := by
    rcases hf with hf | hf
    · exact absurd hf (by show ¬ (1 : Nat) = 0; omega)
    · exact hf
  have e : dfB (nthR num wd) x = byB x (dOf x - 1) (dim (yOf x) (mOf x) - dOf x) (num, wd) := by
    unfold dfB
    have p1 : pastOf (nthR num wd) x = dOf x - 1 := rfl
    have p2 : leftOf (nthR num wd) x = dim (yOf x) (mOf x) - dOf x := rfl
    rw [p1, p2]
    simp [nthR]
  rw [e] at hdf
  unfold byB at hdf
  rw [decide_eq_true_eq] at hdf
  exact ⟨hdf.1, hdf.2, db.2.2.2.2.1, db.2.2.2.2.2.1, bd.1, bd.2.1, bd.2.2.2.1, bd.2.2.2.2⟩
theorem nth_pos {num wd s t x : Int} (hn : 1 ≤ num) (h : x ∈ daysL (nthR num wd) s t) : wd = x % 7 ∧ 7 * num - 6 ≤ dOf x ∧ dOf x ≤ 7 * num := by
  obtain ⟨a, b, c, d, _⟩ := nth_fit h
  refine ⟨a, ?_, ?_⟩ <;> (rcases b with b | b | b <;> omega)
theorem nth_neg {num wd s t x : Int} (hn : 1 ≤ num) (h : x ∈ daysL (nthR (-num) wd) s t) : wd = x % 7 ∧ 7 * num - 7 ≤ dim (yOf x) (mOf x) - dOf x ∧ dim (yOf x) (mOf x) - dOf x < 7 * num := by
  obtain ⟨a, b, c, d, _⟩ := nth_fit h
  refine ⟨a, ?_, ?_⟩ <;> (rcases b with b | b | b <;> omega)
end Go.Proofs.YtlfglhpepoepcaaDoor
namespace Go.Proofs.YtlfglhpepoepcaaDoor
open Go.RowKit
set_option linter.unusedVariables false
set_option maxHeartbeats 400000 in
theorem implWeekDay_in (d : Int) (w : World) (h0 : 0 ≤ d) (h1 : d ≤ 3652058) :
    Calls Tryd.prog 26 #[.int .i64 d] w fun e w' => e = .returned (.int .i64 (d % 7)) ∧ w' = w := by
  go_enter Tryd.func26, Tryd.ntmps26
  go_wp2_with (first | (go_at_call 44; refine (implDayR d _ true ((in_iff _ _ _).2 ⟨h0, h1⟩)).mono ?_; rintro e w' ⟨rfl, rfl⟩) | (go_at_call 47; refine (implWd d _ h0 (by omega)).mono ?_; rintro e w' ⟨rfl, rfl⟩))
  go_ret
  exact ⟨rfl, rfl⟩
end Go.Proofs.YtlfglhpepoepcaaDoor
namespace Go.Proofs.YtlfglhpepoepcaaDoor
open Go.RowKit
set_option linter.unusedVariables false
theorem ru_nomo {f ev ct un : Int} {ds : List (Int × Int)} {da mo : List Int} {wk : Int} (hf : f ≤ 2) (h : ruOf ⟨f, ev, ct, un, ds, da, mo, [], wk⟩ = true) : ruOf ⟨f, ev, ct, un, ds, da, [], [], wk⟩ = true := by
  unfold ruOf ruB liB at h ⊢
  simp only [Bool.and_eq_true, decide_eq_true_eq] at h ⊢
  obtain ⟨h1, h2, h3, h4, h5, h6, h7⟩ := h
  have e1 : numM f mo.length = 0 := by unfold numM; rw [if_neg (by omega), if_neg (by omega)]
  have e2 : numM f ([] : List Int).length = 0 := by unfold numM; rw [if_neg (by omega), if_neg (by omega)]
  rw [e1] at h2
  refine ⟨h1, by rw [e2]; exact h2, h3, ?_, h5, rfl, rfl⟩
  rintro ⟨q, _⟩; simp at q
/-- In days and weeks no day of the week has a number. -/
theorem nums_zero {f ev ct un : Int} {ds : List (Int × Int)} {da mo pl : List Int} {wk : Int} (hf : f ≤ 2) (h : ruOf ⟨f, ev, ct, un, ds, da, mo, pl, wk⟩ = true) : ∀ b ∈ ds, b.1 = 0 := by
  unfold ruOf ruB dsB at h
  simp only [Bool.and_eq_true, decide_eq_true_eq] at h
  obtain ⟨h1, ⟨_, h2⟩, _⟩ := h
  have e1 : numM f mo.length = 0 := by unfold numM; rw [if_neg (by omega), if_neg (by omega)]
  rw [e1] at h2
  intro b hb
  obtain ⟨i, hi, rfl⟩ := List.getElem_of_mem hb
  have q := (dsA_iff ds 0).1 h2 i hi
  unfold dstB at q
  simp only [Bool.and_eq_true, decide_eq_true_eq] at q
  have e : tAt ds i = ds[i].1 := by unfold tAt; simp [hi]
  rw [e] at q
  have := (in_iff _ _ _).1 q.2.1
  omega
theorem any_nums {ds : List (Int × Int)} (hz : ∀ b ∈ ds, b.1 = 0) (x p l p' l' : Int) : ds.any (byB x p l) = ds.any (byB x p' l') := by
  rw [Bool.eq_iff_iff, List.any_eq_true, List.any_eq_true]
  unfold byB
  simp only [decide_eq_true_eq]
  constructor
  · rintro ⟨b, hb, h, _⟩; exact ⟨b, hb, h, .inl (hz b hb)⟩
  · rintro ⟨b, hb, h, _⟩; exact ⟨b, hb, h, .inl (hz b hb)⟩
theorem fit_mo {f ev ct un : Int} {ds : List (Int × Int)} {da mo : List Int} {wk : Int} (hf : f ≤ 2) (hz : ∀ b ∈ ds, b.1 = 0) (hm : mo.length ≠ 0) (s x : Int) :
    fitB ⟨f, ev, ct, un, ds, da, mo, [], wk⟩ s x = true ↔ mOf x ∈ mo ∧ fitB ⟨f, ev, ct, un, ds, da, [], [], wk⟩ s x = true := by
  have e1 : dfB ⟨f, ev, ct, un, ds, da, mo, [], wk⟩ x = dfB ⟨f, ev, ct, un, ds, da, [], [], wk⟩ x := any_nums hz _ _ _ _ _
  have e2 : ownB ⟨f, ev, ct, un, ds, da, mo, [], wk⟩ s x = ownB ⟨f, ev, ct, un, ds, da, [], [], wk⟩ s x := by
    unfold ownB
    simp only
    rw [if_neg (show ¬ f = 3 by omega), if_neg (show ¬ f = 4 by omega), if_neg (show ¬ f = 3 by omega), if_neg (show ¬ f = 4 by omega)]
  have e3 : dtB ⟨f, ev, ct, un, ds, da, mo, [], wk⟩ x = dtB ⟨f, ev, ct, un, ds, da, [], [], wk⟩ x := rfl
  unfold fitB
  rw [e1, e2, e3]
  have hm' : (decide (mo.length = 0)) = false := decide_eq_false hm
  simp only [hm', Bool.false_or, List.length_nil, decide_true, Bool.true_or, Bool.true_and, Bool.and_eq_true]
  unfold hasI
  rw [decide_eq_true_eq]
theorem chJ_nopl {r : Rl} {s : Int} {k : Nat} (h : r.pl.length = 0) : chJ r s k = fitL r s (spanF r s (k * r.ev)) (spanL r s (k * r.ev) + 1) := by
  unfold chJ choice; rw [if_pos h]
theorem months_law {f ev un : Int} {ds : List (Int × Int)} {da mo : List Int} {wk s t : Int} (hf : f ≤ 2) (hm : mo.length ≠ 0) (h : mayB ⟨f, ev, 0, un, ds, da, mo, [], wk⟩ s t = true) (hw : (daysL ⟨f, ev, 0, un, ds, da, [], [], wk⟩ s t).length < 200) :
    daysL ⟨f, ev, 0, un, ds, da, mo, [], wk⟩ s t = (daysL ⟨f, ev, 0, un, ds, da, [], [], wk⟩ s t).filter fun x => decide (mOf x ∈ mo) := by
  obtain ⟨hru, ⟨s0, s1⟩, ⟨t0, t1⟩, ht⟩ := may_ok h
  have hru' := ru_nomo hf hru
  have hz := nums_zero hf hru
  have h' : mayB ⟨f, ev, 0, un, ds, da, [], [], wk⟩ s t = true := by
    unfold mayB
    rw [hru', (in_iff _ _ _).2 ⟨s0, s1⟩, (in_iff _ _ _).2 ⟨t0, t1⟩]
    simp; omega
  have hr := (ru_ok hru).1
  have hr' := (ru_ok hru').1
  have em : (mostT ⟨f, ev, 0, un, ds, da, [], [], wk⟩ 200).toNat = 200 := by unfold mostT; rw [if_neg (by rintro ⟨q, _⟩; exact absurd q (by show ¬ (0 : Int) < 0; omega))]; rfl
  have em' : (mostT ⟨f, ev, 0, un, ds, da, mo, [], wk⟩ 200).toNat = 200 := by unfold mostT; rw [if_neg (by rintro ⟨q, _⟩; exact absurd q (by show ¬ (0 : Int) < 0; omega))]; rfl
  have el : limT ⟨f, ev, 0, un, ds, da, mo, [], wk⟩ t = limT ⟨f, ev, 0, un, ds, da, [], [], wk⟩ t := rfl
  rw [days_eq h', em, List.length_take] at hw
  rw [days_eq h, days_eq h', em, em', el, List.take_of_length_le (l := comes ⟨f, ev, 0, un, ds, da, [], [], wk⟩ s _) (by omega)]
  have key : comes ⟨f, ev, 0, un, ds, da, mo, [], wk⟩ s (limT ⟨f, ev, 0, un, ds, da, [], [], wk⟩ t) = (comes ⟨f, ev, 0, un, ds, da, [], [], wk⟩ s (limT ⟨f, ev, 0, un, ds, da, [], [], wk⟩ t)).filter fun x => decide (mOf x ∈ mo) := by
    refine asc_ext (comes_asc hr s0 s1) ((comes_asc hr' s0 s1).filter _) fun x => ?_
    rw [List.mem_filter, comes_iff hr s0 s1, comes_iff hr' s0 s1, decide_eq_true_eq]
    unfold dayP
    constructor
    · rintro ⟨⟨a, k, hk⟩, b⟩
      rw [chJ_nopl rfl] at hk
      obtain ⟨h1, h2, h3⟩ := fit_mem.1 hk
      obtain ⟨h4, h5⟩ := (fit_mo hf hz hm s x).1 h3
      exact ⟨⟨⟨a, k, by rw [chJ_nopl rfl]; exact fit_mem.2 ⟨h1, h2, h5⟩⟩, b⟩, h4⟩
    · rintro ⟨⟨⟨a, k, hk⟩, b⟩, h4⟩
      rw [chJ_nopl rfl] at hk
      obtain ⟨h1, h2, h5⟩ := fit_mem.1 hk
      exact ⟨⟨a, k, by rw [chJ_nopl rfl]; exact fit_mem.2 ⟨h1, h2, (fit_mo hf hz hm s x).2 ⟨h4, h5⟩⟩⟩, b⟩
  rw [key, List.take_of_length_le]
  exact Nat.le_trans (List.length_filter_le _ _) (by omega)
end Go.Proofs.YtlfglhpepoepcaaDoor
namespace Go.Proofs.YtlfglhpepoepcaaDoor
open Go.RowKit
set_option linter.unusedVariables false
theorem ru_one {f ev ct un : Int} {ds : List (Int × Int)} {da mo : List Int} {wk : Int} {b : Int × Int} (hb : b ∈ ds) (h : ruOf ⟨f, ev, ct, un, ds, da, mo, [], wk⟩ = true) : ruOf ⟨f, ev, ct, un, [b], da, mo, [], wk⟩ = true := by
  unfold ruOf ruB at h ⊢
  simp only [Bool.and_eq_true] at h ⊢
  obtain ⟨h1, h2, h3⟩ := h
  refine ⟨h1, ?_, ?_⟩
  · unfold dsB at h2 ⊢
    simp only [Bool.and_eq_true, decide_eq_true_eq] at h2 ⊢
    refine ⟨by simp, (dsA_iff _ _).2 fun i hi => ?_⟩
    have hi0 : i = 0 := by simp at hi; omega
    subst hi0
    obtain ⟨j, hj, rfl⟩ := List.getElem_of_mem hb
    have q := (dsA_iff ds _).1 h2.2 j hj
    unfold dstB at q ⊢
    simp only [Bool.and_eq_true, decide_eq_true_eq] at q ⊢
    have e1 : tAt ds j = ds[j].1 := by unfold tAt; simp [hj]
    have e2 : tSh ds j = ds[j].2 := by unfold tSh; simp [hj]
    rw [e1, e2] at q
    exact ⟨q.1, q.2.1, fun q => absurd q (by omega)⟩
  · unfold liB at h3 ⊢
    simp only [Bool.and_eq_true, decide_eq_true_eq] at h3 ⊢
    exact ⟨h3.1, fun q => absurd q.1 (by simp), h3.2.2⟩
theorem fit_one {f ev ct un : Int} {ds : List (Int × Int)} {da mo : List Int} {wk : Int} {b : Int × Int} (hb : b ∈ ds) (s x : Int) :
    fitB ⟨f, ev, ct, un, [b], da, mo, [], wk⟩ s x = true ↔ byB x (pastOf ⟨f, ev, ct, un, ds, da, mo, [], wk⟩ x) (leftOf ⟨f, ev, ct, un, ds, da, mo, [], wk⟩ x) b = true ∧ fitB ⟨f, ev, ct, un, ds, da, mo, [], wk⟩ s x = true := by
  have hp : 0 < ds.length := List.length_pos_of_mem hb
  have e1 : dfB ⟨f, ev, ct, un, [b], da, mo, [], wk⟩ x = byB x (pastOf ⟨f, ev, ct, un, ds, da, mo, [], wk⟩ x) (leftOf ⟨f, ev, ct, un, ds, da, mo, [], wk⟩ x) b := by
    show [b].any _ = _
    rw [List.any_cons, List.any_nil, Bool.or_false]; rfl
  have e2 : byB x (pastOf ⟨f, ev, ct, un, ds, da, mo, [], wk⟩ x) (leftOf ⟨f, ev, ct, un, ds, da, mo, [], wk⟩ x) b = true → dfB ⟨f, ev, ct, un, ds, da, mo, [], wk⟩ x = true := fun q => by
    unfold dfB; exact List.any_eq_true.2 ⟨b, hb, q⟩
  have e3 : dtB ⟨f, ev, ct, un, [b], da, mo, [], wk⟩ x = dtB ⟨f, ev, ct, un, ds, da, mo, [], wk⟩ x := rfl
  unfold fitB
  rw [e1, e3]
  simp only [Bool.and_eq_true, Bool.or_eq_true, decide_eq_true_eq]
  have z1 : ¬ [b].length = 0 := by simp
  have z2 : ¬ ds.length = 0 := by omega
  have z3 : 0 < [b].length := by simp
  simp only [z1, z2, hp, z3, false_or, true_or, and_true]
  constructor
  · rintro ⟨a, c, d⟩; exact ⟨d, a, c, e2 d⟩
  · rintro ⟨d, a, c, _⟩; exact ⟨a, c, d⟩
theorem union_law {f ev un : Int} {ds : List (Int × Int)} {da mo : List Int} {wk s t : Int} {b : Int × Int} (hb : b ∈ ds) (h : mayB ⟨f, ev, 0, un, ds, da, mo, [], wk⟩ s t = true) (hw : (daysL ⟨f, ev, 0, un, ds, da, mo, [], wk⟩ s t).length < 200) :
    daysL ⟨f, ev, 0, un, [b], da, mo, [], wk⟩ s t = (daysL ⟨f, ev, 0, un, ds, da, mo, [], wk⟩ s t).filter fun x => byB x (pastOf ⟨f, ev, 0, un, ds, da, mo, [], wk⟩ x) (leftOf ⟨f, ev, 0, un, ds, da, mo, [], wk⟩ x) b := by
  obtain ⟨hru, ⟨s0, s1⟩, ⟨t0, t1⟩, ht⟩ := may_ok h
  have hru' := ru_one hb hru
  have h' : mayB ⟨f, ev, 0, un, [b], da, mo, [], wk⟩ s t = true := by
    unfold mayB
    rw [hru', (in_iff _ _ _).2 ⟨s0, s1⟩, (in_iff _ _ _).2 ⟨t0, t1⟩]
    simp; omega
  have hr := (ru_ok hru).1
  have hr' := (ru_ok hru').1
  have em : (mostT ⟨f, ev, 0, un, ds, da, mo, [], wk⟩ 200).toNat = 200 := by unfold mostT; rw [if_neg (by rintro ⟨q, _⟩; exact absurd q (by show ¬ (0 : Int) < 0; omega))]; rfl
  have em' : (mostT ⟨f, ev, 0, un, [b], da, mo, [], wk⟩ 200).toNat = 200 := by unfold mostT; rw [if_neg (by rintro ⟨q, _⟩; exact absurd q (by show ¬ (0 : Int) < 0; omega))]; rfl
  have el : limT ⟨f, ev, 0, un, [b], da, mo, [], wk⟩ t = limT ⟨f, ev, 0, un, ds, da, mo, [], wk⟩ t := rfl
  rw [days_eq h, em, List.length_take] at hw
  rw [days_eq h, days_eq h', em, em', el, List.take_of_length_le (l := comes ⟨f, ev, 0, un, ds, da, mo, [], wk⟩ s _) (by omega)]
  have key : comes ⟨f, ev, 0, un, [b], da, mo, [], wk⟩ s (limT ⟨f, ev, 0, un, ds, da, mo, [], wk⟩ t) = (comes ⟨f, ev, 0, un, ds, da, mo, [], wk⟩ s (limT ⟨f, ev, 0, un, ds, da, mo, [], wk⟩ t)).filter fun x => byB x (pastOf ⟨f, ev, 0, un, ds, da, mo, [], wk⟩ x) (leftOf ⟨f, ev, 0, un, ds, da, mo, [], wk⟩ x) b := by
    refine asc_ext (comes_asc hr' s0 s1) ((comes_asc hr s0 s1).filter _) fun x => ?_
    rw [List.mem_filter, comes_iff hr s0 s1, comes_iff hr' s0 s1]
    unfold dayP
    constructor
    · rintro ⟨⟨a, k, hk⟩, c⟩
      rw [chJ_nopl rfl] at hk
      obtain ⟨h1, h2, h3⟩ := fit_mem.1 hk
      obtain ⟨h4, h5⟩ := (fit_one hb s x).1 h3
      exact ⟨⟨⟨a, k, by rw [chJ_nopl rfl]; exact fit_mem.2 ⟨h1, h2, h5⟩⟩, c⟩, h4⟩
    · rintro ⟨⟨⟨a, k, hk⟩, c⟩, h4⟩
      rw [chJ_nopl rfl] at hk
      obtain ⟨h1, h2, h5⟩ := fit_mem.1 hk
      exact ⟨⟨a, k, by rw [chJ_nopl rfl]; exact fit_mem.2 ⟨h1, h2, (fit_one hb s x).2 ⟨h4, h5⟩⟩⟩, c⟩
  rw [key, List.take_of_length_le]
  exact Nat.le_trans (List.length_filter_le _ _) (by omega)
theorem filter_or (p q : Int → Bool) : ∀ l : List Int, (l.filter fun x => p x || q x).length ≤ (l.filter p).length + (l.filter q).length
  | [] => by simp
  | a :: l => by
    have := filter_or p q l
    simp only [List.filter_cons]
    cases p a <;> cases q a <;> simp <;> omega
/-- How many of a rule's days come of the first so many of its days of the week. -/
def unN (r : Rl) (s t : Int) (k : Nat) : Nat := ((daysL r s t).filter fun x => (r.ds.take k).any (byB x (pastOf r x) (leftOf r x))).length
theorem unN_zero (r : Rl) (s t : Int) : unN r s t 0 = 0 := by unfold unN; simp
theorem unN_succ {f ev un : Int} {ds : List (Int × Int)} {da mo : List Int} {wk s t : Int} {k : Nat} (hk : k < ds.length) (h : mayB ⟨f, ev, 0, un, ds, da, mo, [], wk⟩ s t = true) (hw : (daysL ⟨f, ev, 0, un, ds, da, mo, [], wk⟩ s t).length < 200) :
    unN ⟨f, ev, 0, un, ds, da, mo, [], wk⟩ s t (k + 1) ≤ unN ⟨f, ev, 0, un, ds, da, mo, [], wk⟩ s t k + (daysL ⟨f, ev, 0, un, [ds[k]], da, mo, [], wk⟩ s t).length := by
  rw [union_law (List.getElem_mem hk) h hw]
  unfold unN
  refine Nat.le_trans (Nat.le_of_eq ?_) (filter_or _ _ _)
  congr 2
  funext x
  show (ds.take (k + 1)).any _ = _
  rw [List.take_succ_eq_append_getElem hk, List.any_append, List.any_cons, List.any_nil, Bool.or_false]
theorem unN_all {f ev un : Int} {ds : List (Int × Int)} {da mo : List Int} {wk s t : Int} (hl : 0 < ds.length) (h : mayB ⟨f, ev, 0, un, ds, da, mo, [], wk⟩ s t = true) :
    unN ⟨f, ev, 0, un, ds, da, mo, [], wk⟩ s t ds.length = (daysL ⟨f, ev, 0, un, ds, da, mo, [], wk⟩ s t).length := by
  unfold unN
  congr 1
  rw [List.filter_eq_self]
  intro x hx
  show (ds.take ds.length).any _ = true
  rw [List.take_length]
  obtain ⟨hru, ⟨s0, s1⟩, _⟩ := may_ok h
  obtain ⟨⟨_, k, hk⟩, _⟩ := (comes_iff (ru_ok hru).1 s0 s1).1 (days_mem hx).2
  rcases (fit_parts (fit_of_ch hk)).2.2.1 with q | q
  · exact absurd q (by show ¬ ds.length = 0; omega)
  · exact q
/-- What comes of one of its days of the week comes of the rule. -/
theorem un_sub {f ev un : Int} {ds : List (Int × Int)} {da mo : List Int} {wk s t : Int} {b : Int × Int} (hb : b ∈ ds) (h : mayB ⟨f, ev, 0, un, ds, da, mo, [], wk⟩ s t = true) (hw : (daysL ⟨f, ev, 0, un, ds, da, mo, [], wk⟩ s t).length < 200) :
    ∀ x ∈ daysL ⟨f, ev, 0, un, [b], da, mo, [], wk⟩ s t, x ∈ daysL ⟨f, ev, 0, un, ds, da, mo, [], wk⟩ s t := by
  rw [union_law hb h hw]; intro x hx; exact (List.mem_filter.1 hx).1
end Go.Proofs.YtlfglhpepoepcaaDoor
namespace Go.Proofs.YtlfglhpepoepcaaDoor
open Go.RowKit
set_option linter.unusedVariables false
/-- A day's month, months counted on and on. -/
def qOf (x : Int) : Int := 12 * yOf x + (mOf x - 1)
theorem q_in {x : Int} (h0 : 0 ≤ x) (h1 : x ≤ 3652058) : 12 ≤ qOf x ∧ mfirst (qOf x) ≤ x ∧ x < mfirst (qOf x) + mdim (qOf x) ∧ x = mfirst (qOf x) + dOf x - 1 := by
  obtain ⟨a, b⟩ := date_ex h0 h1
  obtain ⟨a0, a1, a2, a3, a4, a5⟩ := (okD_iff _ _ _).1 a
  have e := @span_month x 0
  rw [Int.add_zero] at e
  have e1 : (mOf x - 1) / 12 = 0 := by omega
  have e2 : (mOf x - 1) % 12 + 1 = mOf x := by omega
  rw [e1, e2, Int.add_zero] at e
  unfold qOf
  rw [← e.1, ← e.2]
  unfold num at b ⊢
  omega
theorem q_mono {s x : Int} (s0 : 0 ≤ s) (s1 : s ≤ 3652058) (x1 : x ≤ 3652058) (h : s ≤ x) : qOf s ≤ qOf x := by
  obtain ⟨a, b, c, _⟩ := q_in s0 s1
  obtain ⟨a', b', c', _⟩ := q_in (x := x) (by omega) x1
  rcases Int.lt_or_le (qOf x) (qOf s) with hl | hl
  · exfalso
    have := mfirst_far (qOf x) a' (qOf s - qOf x - 1).toNat
    rw [show qOf x + 1 + (((qOf s - qOf x - 1).toNat : Nat) : Int) = qOf s by omega] at this
    omega
  · exact hl
theorem plain_month {s x : Int} (s0 : 0 ≤ s) (s1 : s ≤ 3652058) (x1 : x ≤ 3652058) : dayP (plainR 3 1) s x ↔ s ≤ x ∧ dOf x = dOf s := by
  have f1 : ∀ k : Nat, spanF (plainR 3 1) s ((k : Int) * (plainR 3 1).ev) = mfirst (qOf s + k) := fun k => by
    show spanF (plainR 3 1) s ((k : Int) * 1) = _
    have e := (@span_month s ((k : Int) * 1)).1
    show num _ _ 1 = _
    rw [e]; congr 1; unfold qOf; omega
  have f2 : ∀ k : Nat, spanL (plainR 3 1) s ((k : Int) * (plainR 3 1).ev) = mfirst (qOf s + k) + mdim (qOf s + k) - 1 := fun k => by
    show spanL (plainR 3 1) s ((k : Int) * 1) = _
    have e := @span_month s ((k : Int) * 1)
    show num _ _ 1 + dim _ _ - 1 = _
    rw [e.1, e.2, show 12 * yOf s + (mOf s - 1 + (k : Int) * 1) = qOf s + k by unfold qOf; omega]
  have f3 : ∀ y : Int, fitB (plainR 3 1) s y = decide (dOf y = dOf s) := fun y => by
    unfold fitB ownB
    rw [if_neg (show ¬ (plainR 3 1).f = 2 by decide), if_pos (show (plainR 3 1).f = 3 from rfl)]
    simp [plainR]
  unfold dayP
  constructor
  · rintro ⟨hs, k, hk⟩
    rw [chJ_nopl rfl] at hk
    have h := (fit_mem.1 hk).2.2
    rw [f3, decide_eq_true_eq] at h
    exact ⟨hs, h⟩
  · rintro ⟨hs, hd⟩
    have hq := q_mono s0 s1 x1 hs
    obtain ⟨a', b', c', _⟩ := q_in (x := x) (by omega) x1
    refine ⟨hs, (qOf x - qOf s).toNat, ?_⟩
    rw [chJ_nopl rfl, f1, f2, show qOf s + (((qOf x - qOf s).toNat : Nat) : Int) = qOf x by omega]
    exact fit_mem.2 ⟨⟨b', by omega⟩, ⟨by omega, x1⟩, by rw [f3, decide_eq_true_eq]; exact hd⟩
/-- The days from one to ahead of another one that are their month's same day as the first. -/
def monL (s t : Int) : List Int := (ira s t).filter fun x => decide (dOf x = dOf s)
theorem monL_nil {s t : Int} (h : t ≤ s) : monL s t = [] := by unfold monL; rw [ira_nil h]; rfl
theorem monL_yes {s t : Int} (h : s ≤ t) (hd : dOf t = dOf s) : monL s (t + 1) = monL s t ++ [t] := by
  unfold monL; rw [ira_snoc h, List.filter_append]; simp [hd]
theorem monL_no {s t : Int} (h : s ≤ t) (hd : ¬ dOf t = dOf s) : monL s (t + 1) = monL s t := by
  unfold monL; rw [ira_snoc h, List.filter_append]; simp [hd]
theorem monL_pre {s t t' : Int} (h : t ≤ t') : monL s t <+: monL s t' := by
  unfold monL
  by_cases h0 : s ≤ t
  · rw [ira_split h0 h, List.filter_append]; exact List.prefix_append _ _
  · rw [ira_nil (by omega)]; exact List.nil_prefix
theorem month_law {s t : Int} (s0 : 0 ≤ s) (t1 : t ≤ 3652058) (ht : t - s ≤ 2000) : daysL (plainR 3 1) s t = (monL s (t + 1)).take 200 := by
  by_cases hst : s ≤ t
  · have h : mayB (plainR 3 1) s t = true := by
      unfold mayB
      rw [show ruOf (plainR 3 1) = true by decide, (in_iff _ _ _).2 (show 0 ≤ s ∧ s ≤ 3652058 by omega), (in_iff _ _ _).2 (show 0 ≤ t ∧ t ≤ 3652058 by omega)]
      simp; omega
    have hr := (ru_ok (may_ok h).1).1
    have em : (mostT (plainR 3 1) 200).toNat = 200 := rfl
    have el : limT (plainR 3 1) t = t := rfl
    rw [days_eq h, em, el]
    congr 1
    refine asc_ext (comes_asc hr s0 (by omega)) ((ira_asc s (t + 1)).filter _) fun x => ?_
    unfold monL
    rw [comes_iff hr s0 (by omega), List.mem_filter, ira_mem, decide_eq_true_eq]
    constructor
    · rintro ⟨a, b⟩
      have := (plain_month s0 (by omega) (by omega)).1 a
      exact ⟨⟨this.1, by omega⟩, this.2⟩
    · rintro ⟨⟨a, b⟩, c⟩
      exact ⟨(plain_month s0 (by omega) (by omega)).2 ⟨a, c⟩, by omega⟩
  · rw [monL_nil (by omega), List.take_nil]
    cases h : daysL (plainR 3 1) s t with
    | nil => rfl
    | cons x l =>
      have := (days_bd (show x ∈ daysL (plainR 3 1) s t by rw [h]; exact List.mem_cons_self ..))
      omega
/-- What stands at a day that is the start's day of its month. -/
theorem mon_at {s t x : Int} (s0 : 0 ≤ s) (t1 : t ≤ 3652058) (ht : t - s ≤ 2000) (h0 : s ≤ x) (h1 : x ≤ t) (hd : dOf x = dOf s) (hn : (monL s x).length < 200) :
    (monL s x).length < (daysL (plainR 3 1) s t).length ∧ gi (daysL (plainR 3 1) s t) (monL s x).length = x := by
  rw [month_law s0 t1 ht]
  obtain ⟨Z, hZ⟩ := monL_pre (s := s) (t := x + 1) (t' := t + 1) (by omega)
  rw [monL_yes h0 hd] at hZ
  have hl : (monL s x).length < (monL s (t + 1)).length := by rw [← hZ]; simp
  refine ⟨by rw [List.length_take]; omega, ?_⟩
  rw [gi_get (by rw [List.length_take]; omega), List.getElem_take]
  simp only [← hZ]
  rw [List.getElem_append_left (by simp), List.getElem_append_right (by simp)]
  simp
/-- At the end as many days were told as come. -/
theorem mon_end {s t x : Int} (s0 : 0 ≤ s) (t1 : t ≤ 3652058) (ht : t - s ≤ 2000) (h1 : x ≤ t + 1) (hn : (monL s x).length ≤ 200) (he : t < x ∨ (monL s x).length = 200) :
    (monL s x).length = (daysL (plainR 3 1) s t).length := by
  rw [month_law s0 t1 ht, List.length_take]
  obtain ⟨Z, hZ⟩ := monL_pre (s := s) h1
  rcases he with he | he
  · have : x = t + 1 := by omega
    subst this; omega
  · have : (monL s x).length ≤ (monL s (t + 1)).length := by rw [← hZ]; simp
    omega
theorem year_law {s t x ev : Int} (s1 : s ≤ 3652058) (h : x ∈ daysL (plainR 4 ev) s t) : dOf x = dOf s ∧ mOf x = mOf s ∧ (yOf x - yOf s).tmod ev = 0 := by
  obtain ⟨hm, hc⟩ := days_mem h
  obtain ⟨hru, ⟨s0, _⟩, ⟨t0, t1⟩, ht⟩ := may_ok hm
  have hr := (ru_ok hru).1
  have e0 : 1 ≤ ev := hr.e0
  obtain ⟨⟨a, k, hk⟩, b⟩ := (comes_iff hr s0 s1).1 hc
  rw [chJ_nopl rfl] at hk
  obtain ⟨⟨h1, h2⟩, ⟨h3, h4⟩, h5⟩ := fit_mem.1 hk
  obtain ⟨a0, _⟩ := (okD_iff _ _ _).1 (date_ex s0 s1).1
  have e1 : spanF (plainR 4 ev) s ((k : Int) * (plainR 4 ev).ev) = fst (yOf s + (k : Int) * ev) := rfl
  have e2 : spanL (plainR 4 ev) s ((k : Int) * (plainR 4 ev).ev) = fst (yOf s + (k : Int) * ev + 1) - 1 := rfl
  have hk0 : 0 ≤ (k : Int) * ev := Int.mul_nonneg (by omega) (by omega)
  rw [e1] at h1
  rw [e2] at h2
  have hy : yOf x = yOf s + (k : Int) * ev := by
    refine yOf_is (by omega) ?_ h1 (by omega)
    rcases Int.lt_or_le 9999 (yOf s + (k : Int) * ev) with hl | hl
    · have := fst_mono 10000 (yOf s + (k : Int) * ev) (by omega) (by omega); have := fst_max; omega
    · exact hl
  have f3 : fitB (plainR 4 ev) s x = decide (dOf x = dOf s ∧ mOf x = mOf s) := by
    unfold fitB ownB
    rw [if_neg (show ¬ (plainR 4 ev).f = 2 by show ¬ (4 : Int) = 2; decide), if_neg (show ¬ (plainR 4 ev).f = 3 by show ¬ (4 : Int) = 3; decide), if_pos (show (plainR 4 ev).f = 4 from rfl)]
    simp [plainR]
  rw [f3, decide_eq_true_eq] at h5
  refine ⟨h5.1, h5.2, ?_⟩
  rw [hy, show yOf s + (k : Int) * ev - yOf s = (k : Int) * ev by omega]
  exact Int.mul_tmod_left _ _
end Go.Proofs.YtlfglhpepoepcaaDoor
namespace Go.Proofs.YtlfglhpepoepcaaDoor
open Go.RowKit
set_option linter.unusedVariables false
theorem implDays_plain (f ev s d : Int) (w : World) (ht : Tab w) :
    Calls Tryd.prog 18 #[.agg #[.int .i64 f, .int .i64 ev, .int .i64 0, .int .i64 0, .slice none 0 0, .slice none 0 0, .slice none 0 0, .slice none 0 0, .int .i64 0], .int .i64 s, .int .i64 d] w fun e w' => (∃ v, e = .returned v ∧ OI w' w.heap.size v (daysL (plainR f ev) s d)) ∧ Below w.heap.size w w' :=
  implRuleDays (plainR f ev) ⟨none, 0, none, 0, none, 0, none, 0⟩ s d w ⟨Nat.zero_le _, Nat.zero_le _, Nat.zero_le _, Nat.zero_le _, ⟨.inl rfl, .inl rfl, .inl rfl, .inl rfl⟩, ht⟩
theorem specOk_any {r : Rl} {m : Rm} {w : World} (h : RAny w r m) :
    Calls Tryd.prog 28 #[.agg #[.int .i64 r.f, .int .i64 r.ev, .int .i64 r.ct, .int .i64 r.un, .slice m.a0 r.ds.length m.c0, .slice m.a1 r.da.length m.c1, .slice m.a2 r.mo.length m.c2, .slice m.a3 r.pl.length m.c3, .int .i64 r.wk]] w fun z w' => z = .returned (.bool (ruOf r)) ∧ Below w.heap.size w w' :=
  specRuleOk _ _ _ _ _ _ _ _ _ _ _ _ _ _ _ _ _ w h.mem.t h.mem.d h.mem.o h.mem.p h.l0 h.l1 h.l2 h.l3
theorem implDateOf_is (n M D : Int) (w : World) (ht : Tab w) (h0 : 0 ≤ n) (h1 : n ≤ 3652058) (hm : mOf n = M) (hd : dOf n = D) :
    Calls Tryd.prog 25 #[.int .i64 n] w fun e w' => e = .returned (.agg #[.int .i64 (yOf n), .int .i64 M, .int .i64 D]) ∧ Below w.heap.size w w' := by
  refine (implDateOf_yes n w ht h0 h1).mono fun e w' hh => ⟨?_, hh.2⟩
  obtain ⟨y, m, d, rfl, ok, e⟩ := hh.1
  obtain ⟨a, b, c⟩ := date_is ok e
  rw [← hm, ← hd, a, b, c]
set_option maxRecDepth 100000 in
set_option maxHeartbeats 16000000 in
theorem lawRuleMonth (a : Option Addr) (len cap : Nat) (w : World) (h : IsCode w a len cap) (ht : Tab w) :
    Calls Tryd.prog 6 #[.slice a len cap] w fun e w' => e = .returned (.bool true) ∧ Below w.heap.size w w' := by
  have hlen := h.1
  have HTB : Hid (Tab w) := ht
  clear ht
  by_cases hl : (len : Int) > 1048576
  · go_enter Tryd.func6, Tryd.ntmps6
    go_wp2
    go_ret
    exact ⟨rfl, Below.refl _ _⟩
  go_enter Tryd.func6, Tryd.ntmps6
  go_wp2_with fail
  refine (drawRuleDays w a len cap h).mono ?_
  rintro e w1 ⟨r, m, s, t, rfl, O1, sm, sb, tb, b1⟩
  obtain ⟨f, ev, ct, un, ds, da, mo, pl, wk⟩ := r
  have hrc : rcs ⟨f, ev, ct, un, ds, da, mo, pl, wk⟩ m = #[.int .i64 f, .int .i64 ev, .int .i64 ct, .int .i64 un, .slice m.a0 ds.length m.c0, .slice m.a1 da.length m.c1, .slice m.a2 mo.length m.c2, .slice m.a3 pl.length m.c3, .int .i64 wk] := rfl
  rw [hrc]
  clear hrc h
  have bA : Below w1.heap.size w1 (w1.alloc (.cells #[.int .i64 f, .int .i64 ev, .int .i64 ct, .int .i64 un, .slice m.a0 ds.length m.c0, .slice m.a1 da.length m.c1, .slice m.a2 mo.length m.c2, .slice m.a3 pl.length m.c3, .int .i64 wk] 26)) := (Below.refl _ _).alloc (Nat.le_refl _) _
  have K2 : RQ w w1.heap.size (⟨f, ev, ct, un, ds, da, mo, pl, wk⟩ : Rl) m (w1.alloc (.cells #[.int .i64 f, .int .i64 ev, .int .i64 ct, .int .i64 un, .slice m.a0 ds.length m.c0, .slice m.a1 da.length m.c1, .slice m.a2 mo.length m.c2, .slice m.a3 pl.length m.c3, .int .i64 wk] 26)) := ⟨CF.new _ _ _, ⟨w1, rfl, any_of (w := w) (B := w.heap.size) (r := ⟨f, ev, ct, un, ds, da, mo, pl, wk⟩) (O1.re rfl rfl rfl rfl) sm (HTB.out.on b1), bA⟩, b1.trans (bA.mono b1.size), b1.size⟩
  have HK2 : Hid (RQ w w1.heap.size (⟨f, ev, ct, un, ds, da, mo, pl, wk⟩ : Rl) m (w1.alloc (.cells #[.int .i64 f, .int .i64 ev, .int .i64 ct, .int .i64 un, .slice m.a0 ds.length m.c0, .slice m.a1 da.length m.c1, .slice m.a2 mo.length m.c2, .slice m.a3 pl.length m.c3, .int .i64 wk] 26))) := K2
  have SM : Hid (Sml 4 (⟨f, ev, ct, un, ds, da, mo, pl, wk⟩ : Rl)) := sm
  clear K2 bA O1 sm b1
  have t0 : 0 ≤ t := tb.1
  have t1 : t ≤ 3652058 := tb.2
  have s0 : -1 ≤ s := sb.1
  have s1 : s ≤ 3652058 := sb.2
  have tn : ¬ t > 3652058 := by omega
  have g1 := IntWalk.i64_in (t - s) (by omega)
  clear tb sb
  go_wp2_with fail
  generalize w1.alloc (.cells #[.int .i64 f, .int .i64 ev, .int .i64 ct, .int .i64 un, .slice m.a0 ds.length m.c0, .slice m.a1 da.length m.c1, .slice m.a2 mo.length m.c2, .slice m.a3 pl.length m.c3, .int .i64 wk] 26) = W2 at HK2 ⊢
  generalize w1.heap.size = X at HK2 ⊢
  refine (implRuleDays ⟨f, ev, ct, un, ds, da, mo, pl, wk⟩ m s t W2 HK2.out.any).mono ?_
  rintro e w3 ⟨⟨v3, rfl, O3⟩, b3⟩
  obtain ⟨va, vc, rfl, I3, _, _⟩ := O3.val
  have K3 : RQ w X (⟨f, ev, ct, un, ds, da, mo, pl, wk⟩ : Rl) m w3 := HK2.out.on b3
  have J3 : IsInts w3 va (daysL ⟨f, ev, ct, un, ds, da, mo, pl, wk⟩ s t) := I3
  have HL : Hid ((daysL ⟨f, ev, ct, un, ds, da, mo, pl, wk⟩ s t).length ≤ 200) := days_len _ _ _
  clear O3 I3 b3 HK2
  have x0 : World.cell? w3 ⟨X, 0, none⟩ = some (.int .i64 f) := (K3.c.2 0 _ rfl).1
  have x1 : World.cell? w3 ⟨X, 1, none⟩ = some (.int .i64 ev) := (K3.c.2 1 _ rfl).1
  have x2 : World.cell? w3 ⟨X, 2, none⟩ = some (.int .i64 ct) := (K3.c.2 2 _ rfl).1
  have x3 : World.cell? w3 ⟨X, 3, none⟩ = some (.int .i64 un) := (K3.c.2 3 _ rfl).1
  have x4 : World.cell? w3 ⟨X, 4, none⟩ = some (.slice m.a0 ds.length m.c0) := (K3.c.2 4 _ rfl).1
  have x5 : World.cell? w3 ⟨X, 5, none⟩ = some (.slice m.a1 da.length m.c1) := (K3.c.2 5 _ rfl).1
  have x6 : World.cell? w3 ⟨X, 6, none⟩ = some (.slice m.a2 mo.length m.c2) := (K3.c.2 6 _ rfl).1
  have x7 : World.cell? w3 ⟨X, 7, none⟩ = some (.slice m.a3 pl.length m.c3) := (K3.c.2 7 _ rfl).1
  have x8 : World.cell? w3 ⟨X, 8, none⟩ = some (.int .i64 wk) := (K3.c.2 8 _ rfl).1
  go_wp2_with fail
  refine (specRuleDays ⟨f, ev, ct, un, ds, da, mo, pl, wk⟩ m s t w3 K3.any).mono ?_
  rintro e w4 ⟨⟨v4, rfl, O4⟩, b4⟩
  obtain ⟨vb, vd, rfl, I4, _, _⟩ := O4.val
  have K4 := K3.on b4
  have J4 := J3.below b4
  clear K3 J3 O4 b4 x0 x1 x2 x3 x4 x5 x6 x7 x8
  go_wp2_with fail
  refine (lawEpInts _ _ _ _ _ _ J4 I4 (by have := HL.out; omega)).mono ?_
  rintro e w5 ⟨rfl, b5⟩
  have K5 := K4.on b5
  have J5 := J4.below b5
  clear K4 J4 I4 b5
  have x0 : World.cell? w5 ⟨X, 0, none⟩ = some (.int .i64 f) := (K5.c.2 0 _ rfl).1
  have x1 : World.cell? w5 ⟨X, 1, none⟩ = some (.int .i64 ev) := (K5.c.2 1 _ rfl).1
  have x2 : World.cell? w5 ⟨X, 2, none⟩ = some (.int .i64 ct) := (K5.c.2 2 _ rfl).1
  have x3 : World.cell? w5 ⟨X, 3, none⟩ = some (.int .i64 un) := (K5.c.2 3 _ rfl).1
  have x4 : World.cell? w5 ⟨X, 4, none⟩ = some (.slice m.a0 ds.length m.c0) := (K5.c.2 4 _ rfl).1
  have x5 : World.cell? w5 ⟨X, 5, none⟩ = some (.slice m.a1 da.length m.c1) := (K5.c.2 5 _ rfl).1
  have x6 : World.cell? w5 ⟨X, 6, none⟩ = some (.slice m.a2 mo.length m.c2) := (K5.c.2 6 _ rfl).1
  have x7 : World.cell? w5 ⟨X, 7, none⟩ = some (.slice m.a3 pl.length m.c3) := (K5.c.2 7 _ rfl).1
  have x8 : World.cell? w5 ⟨X, 8, none⟩ = some (.int .i64 wk) := (K5.c.2 8 _ rfl).1
  go_wp2_with fail
  cases hm : ruOf ⟨f, ev, ct, un, ds, da, mo, pl, wk⟩ with
  | false =>
    refine (specOk_any K5.any).mono ?_
    rintro e w6 ⟨rfl, b6⟩
    have K6 := K5.on b6
    have J6 := J5.below b6
    clear J5 K5 b6 x0 x1 x2 x3 x4 x5 x6 x7 x8
    rw [hm]
    have x0 : World.cell? w6 ⟨X, 0, none⟩ = some (.int .i64 f) := (K6.c.2 0 _ rfl).1
    have x1 : World.cell? w6 ⟨X, 1, none⟩ = some (.int .i64 ev) := (K6.c.2 1 _ rfl).1
    have x2 : World.cell? w6 ⟨X, 2, none⟩ = some (.int .i64 ct) := (K6.c.2 2 _ rfl).1
    have x3 : World.cell? w6 ⟨X, 3, none⟩ = some (.int .i64 un) := (K6.c.2 3 _ rfl).1
    have x4 : World.cell? w6 ⟨X, 4, none⟩ = some (.slice m.a0 ds.length m.c0) := (K6.c.2 4 _ rfl).1
    have x5 : World.cell? w6 ⟨X, 5, none⟩ = some (.slice m.a1 da.length m.c1) := (K6.c.2 5 _ rfl).1
    have x6 : World.cell? w6 ⟨X, 6, none⟩ = some (.slice m.a2 mo.length m.c2) := (K6.c.2 6 _ rfl).1
    have x7 : World.cell? w6 ⟨X, 7, none⟩ = some (.slice m.a3 pl.length m.c3) := (K6.c.2 7 _ rfl).1
    have x8 : World.cell? w6 ⟨X, 8, none⟩ = some (.int .i64 wk) := (K6.c.2 8 _ rfl).1
    go_wp2_with fail
    refine (specRuleDays ⟨f, ev, ct, un, ds, da, mo, pl, wk⟩ m s t w6 K6.any).mono ?_
    rintro e w7 ⟨⟨v7, rfl, O7⟩, b7⟩
    obtain ⟨ub, ud, rfl, I7, _, _⟩ := O7.val
    have J7 := J6.below b7
    have HB7 : Hid (Below w.heap.size w w7) := bstep K6.bel b7
    clear O7 b7 J6 K6 x0 x1 x2 x3 x4 x5 x6 x7 x8
    go_wp2_with fail
    refine (lawEpInts _ _ _ _ _ _ J7 I7 (by have := HL.out; omega)).mono ?_
    rintro e w8 ⟨rfl, b8⟩
    have B8 := bstep HB7.out b8
    clear b8 J7 I7
    go_wp2
    go_ret
    exact ⟨rfl, B8⟩
  | true =>
    refine (specOk_any K5.any).mono ?_
    rintro e w6 ⟨rfl, b6⟩
    have K6 := K5.on b6
    have J6 := J5.below b6
    clear J5 K5 b6 x0 x1 x2 x3 x4 x5 x6 x7 x8
    rw [hm]
    have HM : Hid (ruOf ⟨f, ev, ct, un, ds, da, mo, pl, wk⟩ = true) := hm
    clear hm
    have x0 : World.cell? w6 ⟨X, 0, none⟩ = some (.int .i64 f) := (K6.c.2 0 _ rfl).1
    have x1 : World.cell? w6 ⟨X, 1, none⟩ = some (.int .i64 ev) := (K6.c.2 1 _ rfl).1
    have x2 : World.cell? w6 ⟨X, 2, none⟩ = some (.int .i64 ct) := (K6.c.2 2 _ rfl).1
    have x3 : World.cell? w6 ⟨X, 3, none⟩ = some (.int .i64 un) := (K6.c.2 3 _ rfl).1
    have x4 : World.cell? w6 ⟨X, 4, none⟩ = some (.slice m.a0 ds.length m.c0) := (K6.c.2 4 _ rfl).1
    have x5 : World.cell? w6 ⟨X, 5, none⟩ = some (.slice m.a1 da.length m.c1) := (K6.c.2 5 _ rfl).1
    have x6 : World.cell? w6 ⟨X, 6, none⟩ = some (.slice m.a2 mo.length m.c2) := (K6.c.2 6 _ rfl).1
    have x7 : World.cell? w6 ⟨X, 7, none⟩ = some (.slice m.a3 pl.length m.c3) := (K6.c.2 7 _ rfl).1
    have x8 : World.cell? w6 ⟨X, 8, none⟩ = some (.int .i64 wk) := (K6.c.2 8 _ rfl).1
    by_cases hs : s < 0
    · go_wp2_with fail
      refine (specRuleDays ⟨f, ev, ct, un, ds, da, mo, pl, wk⟩ m s t w6 K6.any).mono ?_
      rintro e w7 ⟨⟨v7, rfl, O7⟩, b7⟩
      obtain ⟨ub, ud, rfl, I7, _, _⟩ := O7.val
      have J7 := J6.below b7
      have HB7 : Hid (Below w.heap.size w w7) := bstep K6.bel b7
      clear O7 b7 J6 K6 x0 x1 x2 x3 x4 x5 x6 x7 x8
      go_wp2_with fail
      refine (lawEpInts _ _ _ _ _ _ J7 I7 (by have := HL.out; omega)).mono ?_
      rintro e w8 ⟨rfl, b8⟩
      have B8 := bstep HB7.out b8
      clear b8 J7 I7
      go_wp2
      go_ret
      exact ⟨rfl, B8⟩
    by_cases hd : t - s > 2000
    · go_wp2_with fail
      refine (specRuleDays ⟨f, ev, ct, un, ds, da, mo, pl, wk⟩ m s t w6 K6.any).mono ?_
      rintro e w7 ⟨⟨v7, rfl, O7⟩, b7⟩
      obtain ⟨ub, ud, rfl, I7, _, _⟩ := O7.val
      have J7 := J6.below b7
      have HB7 : Hid (Below w.heap.size w w7) := bstep K6.bel b7
      clear O7 b7 J6 K6 x0 x1 x2 x3 x4 x5 x6 x7 x8
      go_wp2_with fail
      refine (lawEpInts _ _ _ _ _ _ J7 I7 (by have := HL.out; omega)).mono ?_
      rintro e w8 ⟨rfl, b8⟩
      have B8 := bstep HB7.out b8
      clear b8 J7 I7
      go_wp2
      go_ret
      exact ⟨rfl, B8⟩
    have e0 : 1 ≤ ev := (ru_ok HM.out).1.e0
    have e1 : ev ≤ 100 := (ru_ok HM.out).1.e1
    have q0 : 0 ≤ s := by omega
    clear J6 x0 x1 x2 x3 x4 x5 x6 x7 x8
    have HT6 : Hid (Tab w6) := K6.any.tab
    have HK6 : Hid (RQ w X (⟨f, ev, ct, un, ds, da, mo, pl, wk⟩ : Rl) m w6) := K6
    clear K6
    have HS : Hid (t - s ≤ 2000) := by unfold Hid; omega
    obtain ⟨D, hDD⟩ : ∃ D, D = dOf s := ⟨_, rfl⟩
    obtain ⟨MS, hMS⟩ : ∃ M, M = mOf s := ⟨_, rfl⟩
    have HDS : Hid (D = dOf s) := hDD
    have HMS : Hid (MS = mOf s) := hMS
    go_wp2_with fail
    refine (implDateOf_is s MS D w6 HT6.out q0 s1 hMS.symm hDD.symm).mono ?_
    rintro e w7 ⟨rfl, b7⟩
    have bz : Below w7.heap.size w7 (w7.alloc (.cells #[.int .i64 (yOf s), .int .i64 MS, .int .i64 D] 35)) := (Below.refl _ _).alloc (Nat.le_refl _) _
    have HZ : Hid (CF (w7.alloc (.cells #[.int .i64 (yOf s), .int .i64 MS, .int .i64 D] 35)) w7.heap.size #[.int .i64 (yOf s), .int .i64 MS, .int .i64 D]) := CF.new _ _ _
    have q7 := bstep b7 bz
    have HKD : Hid (RQ w X (⟨f, ev, ct, un, ds, da, mo, pl, wk⟩ : Rl) m (w7.alloc (.cells #[.int .i64 (yOf s), .int .i64 MS, .int .i64 D] 35))) := HK6.out.on q7
    clear hDD hMS b7 bz q7 HK6 HT6
    go_wp2_with fail
    generalize w7.alloc (.cells #[.int .i64 (yOf s), .int .i64 MS, .int .i64 D] 35) = W7 at HZ HKD ⊢
    generalize w7.heap.size = Z at HZ ⊢
    refine (implDays_plain 3 1 s t W7 HKD.out.any.tab).mono ?_
    rintro e w8 ⟨⟨v8, rfl, O8⟩, b8⟩
    obtain ⟨ya, yc, rfl, I8, _, _⟩ := O8.val
    have HK8 : Hid (RQ w X (⟨f, ev, ct, un, ds, da, mo, pl, wk⟩ : Rl) m w8) := HKD.out.on b8
    have HZ8 : Hid (CF w8 Z #[.int .i64 (yOf s), .int .i64 MS, .int .i64 D]) := HZ.out.below b8
    have HI8 : Hid (IsInts w8 ya (daysL (plainR 3 1) s t)) := I8
    have HLM : Hid ((daysL (plainR 3 1) s t).length ≤ 200) := days_len _ _ _
    have HAT : Hid (∀ x, s ≤ x → x ≤ t → dOf x = dOf s → (monL s x).length < 200 → (monL s x).length < (daysL (plainR 3 1) s t).length ∧ gi (daysL (plainR 3 1) s t) (monL s x).length = x) := fun x a b c d => mon_at q0 t1 HS.out a b c d
    have HEN : Hid (∀ x, (x ≤ t + 1 ∨ x = s) → (monL s x).length ≤ 200 → (t < x ∨ (monL s x).length = 200) → (monL s x).length = (daysL (plainR 3 1) s t).length) := fun x a b c => by
      by_cases h : x ≤ t + 1
      · exact mon_end q0 t1 HS.out h b c
      · have hx : x = s := by omega
        subst hx
        rw [month_law q0 t1 HS.out, monL_nil (by omega), monL_nil (by omega)]; rfl
    clear O8 I8 b8 HZ HKD
    generalize daysL (plainR 3 1) s t = MO at *
    go_wp2
    go_loopw [9, 10] (fun n d wr => ∃ x : Int, s ≤ x ∧ (x ≤ t + 1 ∨ x = s) ∧ n = .int .i64 ((monL s x).length : Int) ∧ d = .int .i64 x ∧ (monL s x).length ≤ 200 ∧ Below w8.heap.size w8 wr) (fun _ d _ => (t + 1 - intOf d).toNat)
    case atStart => exact ⟨s, by omega, .inr rfl, by rw [monL_nil (Int.le_refl _)]; rfl, rfl, by rw [monL_nil (Int.le_refl _)]; simp, Below.refl _ _⟩
    case round =>
      obtain ⟨x, hx0, hx1, rfl, rfl, hn, hb⟩ := hrel
      have HTr : Hid (Tab wr) := HK8.out.any.tab.on hb
      have hZl : Z < wr.heap.size := Nat.lt_of_lt_of_le HZ8.out.1 hb.size
      have hz2 : World.cell? wr ⟨Z, 2, none⟩ = some (.int .i64 D) := ((HZ8.out.below hb).2 2 _ rfl).1
      have HIr : Hid (IsInts wr ya MO) := HI8.out.below hb
      have HB : Hid (Below w8.heap.size w8 wr) := hb
      have hat := HAT.out x
      have hen := HEN.out x hx1 hn
      have HY : Hid (dOf x = dOf s → monL s (x + 1) = monL s x ++ [x]) := fun h => monL_yes hx0 h
      have HN : Hid (¬ dOf x = dOf s → monL s (x + 1) = monL s x) := fun h => monL_no hx0 h
      clear hb
      by_cases hxt : x ≤ t
      · by_cases hn2 : (monL s x).length < 200
        · have x0 : 0 ≤ x := by omega
          have x1 : x ≤ 3652058 := by omega
          have gx := IntWalk.i64_in (x + 1) (by omega)
          have n200 : ((monL s x).length : Int) < 200 := by omega
          clear hen hx1
          obtain ⟨MM, hMM⟩ : ∃ M, M = mOf x := ⟨_, rfl⟩
          have HMM : Hid (mOf x = MM) := hMM.symm
          clear hMM
          by_cases hd2 : dOf x = dOf s
          · have HDX : Hid (dOf x = dOf s) := hd2
            have hq := hat hx0 hxt hd2 (by omega)
            have HGI : Hid (gi MO (List.length (monL s x)) = x) := hq.2
            have hlt := hq.1
            have HDD : Hid (dOf x = D) := by unfold Hid; rw [HDS.out]; exact HDX.out
            clear hat hq hd2
            generalize hML : (monL s x).length = n at *
            have HML : Hid (List.length (monL s x) = n) := hML
            clear hML
            have hfld : ∀ w : World, (Instr.field 35 (.agg #[.int .i64 (yOf x), .int .i64 MM, .int .i64 D]) 2).run Tryd.prog w = .ok (.int .i64 D) w := fun _ => by kernel_rfl
            go_wp2
            refine wp_region_cl (fun w' => Below wr.heap.size wr w') (by kernel_rfl) (by kernel_rfl) (Below.refl _ _).drew ?_
            repeat (first
              | go_big_quiet_skip
              | (go_big_quiet_want; go_big_quiet_op; go_big_quiet_on)
              | (go_big_quiet_want
                 apply Exists.intro
                 refine ⟨fun w9 hC9 => ?_, ?_⟩
                 · (have b9 := hC9
                    have z2 : World.cell? w9 ⟨Z, 2, none⟩ = some (.int .i64 D) := (hC9.cell (p := ⟨Z, 2, none⟩) hZl).trans hz2
                    have HT9 : Hid (Tab w9) := HTr.out.on hC9
                    clear hC9
                    go_simp
                    first
                      | done
                      | rfl
                      | exact ⟨rfl, rfl⟩
                      | (with_reducible refine (implDateOf_is x MM D w9 HT9.out x0 x1 HMM.out HDD.out).mono ?_
                         rintro e w10 ⟨rfl, hb10⟩
                         have b10 := bstep b9 hb10
                         first | exact ⟨rfl, b10⟩ | (go_simp; exact b10)))
                 (go_simp; go_big_quiet_on)))
            refine wpQuiet_nil ?_
            intro w9 b9
            obtain ⟨mb, moff, rfl, hbs, hc⟩ := (HIr.out.below b9).cell (show 0 < MO.length by omega)
            have c0 := hc n hlt
            rw [HGI.out] at c0
            clear hc
            have i0 : (0 : Int) ≤ (n : Int) := by omega
            have i1 : (n : Int) < (MO.length : Int) := by omega
            have HB9 : Hid (Below w8.heap.size w8 w9) := bstep HB.out b9
            clear b9
            go_wp2
            go_roundw
            case rel => exact ⟨x + 1, by omega, by omega, by rw [HY.out HDX.out, List.length_append, HML.out]; go_num, by go_num, by rw [HY.out HDX.out, List.length_append, HML.out]; simp; omega, HB9.out⟩
            case measure => simp [intOf]; omega
          · have HDX : Hid (¬ dOf x = dOf s) := hd2
            obtain ⟨DD, hDD⟩ : ∃ d, d = dOf x := ⟨_, rfl⟩
            have HDD : Hid (dOf x = DD) := hDD.symm
            have hne : ¬ DD = D := by rw [hDD, HDS.out]; exact hd2
            have hne1 : (DD == D) = false := beq_eq_false_iff_ne.2 hne
            have hne2 := decide_eq_false hne
            clear hat hd2 hDD hne
            have hfld : ∀ w : World, (Instr.field 35 (.agg #[.int .i64 (yOf x), .int .i64 MM, .int .i64 DD]) 2).run Tryd.prog w = .ok (.int .i64 DD) w := fun _ => by kernel_rfl
            go_wp2
            refine wp_region_cl (fun w' => Below wr.heap.size wr w') (by kernel_rfl) (by kernel_rfl) (Below.refl _ _).drew ?_
            repeat (first
              | go_big_quiet_skip
              | (go_big_quiet_want; go_big_quiet_op; go_big_quiet_on)
              | (go_big_quiet_want
                 apply Exists.intro
                 refine ⟨fun w9 hC9 => ?_, ?_⟩
                 · (have b9 := hC9
                    have z2 : World.cell? w9 ⟨Z, 2, none⟩ = some (.int .i64 D) := (hC9.cell (p := ⟨Z, 2, none⟩) hZl).trans hz2
                    have HT9 : Hid (Tab w9) := HTr.out.on hC9
                    clear hC9
                    go_simp
                    first
                      | done
                      | rfl
                      | exact ⟨rfl, rfl⟩
                      | (with_reducible refine (implDateOf_is x MM DD w9 HT9.out x0 x1 HMM.out HDD.out).mono ?_
                         rintro e w10 ⟨rfl, hb10⟩
                         have b10 := bstep b9 hb10
                         first | exact ⟨rfl, b10⟩ | (go_simp; exact b10)))
                 (go_simp; go_big_quiet_on)))
            refine wpQuiet_nil ?_
            intro w9 b9
            have HB9 : Hid (Below w8.heap.size w8 w9) := bstep HB.out b9
            clear b9
            go_wp2
            go_roundw
            case rel => exact ⟨x + 1, by omega, by omega, by rw [HN.out HDX.out], by go_num, by rw [HN.out HDX.out]; exact hn, HB9.out⟩
            case measure => simp [intOf]; omega
        · have n200 : ¬ ((monL s x).length : Int) < 200 := by omega
          have hnn : (monL s x).length = 200 := by omega
          have HE : Hid (List.length (monL s x) = MO.length) := hen (by omega)
          have ml2 : ¬ (MO.length : Int) < 200 := by have := HE.out; omega
          rw [HE.out]
          clear hat hen HY HN hn
          have HKr : Hid (RQ w X (⟨f, ev, ct, un, ds, da, mo, pl, wk⟩ : Rl) m wr) := HK8.out.on HB.out
          have HZr : Hid (CF wr Z #[.int .i64 (yOf s), .int .i64 MS, .int .i64 D]) := HZ8.out.below HB.out
          clear HE
          have xx1 : World.cell? wr ⟨X, 1, none⟩ = some (.int .i64 ev) := (HKr.out.c.2 1 _ rfl).1
          go_wp2_with fail
          refine (implDays_plain 4 ev s t wr HTr.out).mono ?_
          rintro e w10 ⟨⟨v10, rfl, O10⟩, b10⟩
          obtain ⟨za, zc, rfl, I10, _, _⟩ := O10.val
          have HK10 : Hid (RQ w X (⟨f, ev, ct, un, ds, da, mo, pl, wk⟩ : Rl) m w10) := HKr.out.on b10
          have HZ10 : Hid (CF w10 Z #[.int .i64 (yOf s), .int .i64 MS, .int .i64 D]) := HZr.out.below b10
          have HI10 : Hid (IsInts w10 za (daysL (plainR 4 ev) s t)) := I10
          have HLY : Hid ((daysL (plainR 4 ev) s t).length ≤ 200) := days_len _ _ _
          have HYL : Hid (∀ x, x ∈ daysL (plainR 4 ev) s t → (dOf x = D ∧ mOf x = MS ∧ (yOf x - yOf s).tmod ev = 0) ∧ 0 ≤ x ∧ x ≤ 3652058) := fun x hx => ⟨by rw [HDS.out, HMS.out]; exact year_law s1 hx, (days_bd hx).2.2.2⟩
          clear O10 I10 b10 HKr HZr HIr HTr hz2 hZl xx1 HB
          generalize daysL (plainR 4 ev) s t = YE at *
          go_wp2
          go_loopw [12] (fun i wr => ∃ k : Nat, k ≤ YE.length ∧ i = .int .i64 k ∧ Below w10.heap.size w10 wr) (fun i _ => YE.length - (intOf i).toNat)
          case atStart => exact ⟨0, by omega, rfl, Below.refl _ _⟩
          case round =>
            obtain ⟨k, hk, rfl, hb⟩ := hrel
            by_cases hlt : k < YE.length
            · have J := HI10.out.below hb
              obtain ⟨b, off, rfl, hbs, hc⟩ := J.cell (by omega)
              have c0 := hc k hlt
              have HT11 : Hid (Tab wr) := HK10.out.any.tab.on hb
              have hn : (YE.length : Int) ≤ 200 := by have := HLY.out; omega
              have hi0 : (0 : Int) ≤ (k : Int) := by omega
              have hi1 : (k : Int) < (YE.length : Int) := by omega
              have q := HYL.out _ (gi_mem hlt)
              generalize gi YE k = V at *
              obtain ⟨⟨v1, v2, v3⟩, v4, v5⟩ := q
              have dbs := date_bd q0 s1
              have dbv := date_bd v4 v5
              have y0 : 1 ≤ yOf s := dbs.1
              have y1 : yOf s ≤ 9999 := dbs.2.1
              have y2 : 1 ≤ yOf V := dbv.1
              have y3 : yOf V ≤ 9999 := dbv.2.1
              clear dbs dbv
              have g6 := IntWalk.i64_in (yOf V - yOf s) (by omega)
              have HV1 : Hid (dOf V = D) := v1
              have HV2 : Hid (mOf V = MS) := v2
              have HV3 : Hid ((yOf V - yOf s).tmod ev = 0) := v3
              clear v1 v2 v3 J hc
              have HB11 : Hid (Below w10.heap.size w10 wr) := hb
              clear hb
              go_wp2_with fail
              refine (implDateOf_is V MS D wr HT11.out v4 v5 HV2.out HV1.out).mono ?_
              rintro e w12 ⟨rfl, b12⟩
              have HB12 : Hid (Below w10.heap.size w10 w12) := bstep HB11.out b12
              have v3 := HV3.out
              have ev0 : (ev == 0) = false := beq_eq_false_iff_ne.2 (by omega)
              have K12 := HK10.out.on HB12.out
              have Z12 := HZ10.out.below HB12.out
              have lX : X < w12.heap.size := K12.c.1
              have lZ : Z < w12.heap.size := Z12.1
              have xx1 : World.cell? w12 ⟨X, 1, none⟩ = some (.int .i64 ev) := (K12.c.2 1 _ rfl).1
              have z0 : World.cell? w12 ⟨Z, 0, none⟩ = some (.int .i64 (yOf s)) := (Z12.2 0 _ rfl).1
              have z1 : World.cell? w12 ⟨Z, 1, none⟩ = some (.int .i64 MS) := (Z12.2 1 _ rfl).1
              have z2 : World.cell? w12 ⟨Z, 2, none⟩ = some (.int .i64 D) := (Z12.2 2 _ rfl).1
              clear K12 Z12 b12 c0
              go_wp2
              go_roundw
              case rel => exact ⟨k + 1, by omega, by go_num, HB12.out.alloc HB12.out.size _⟩
              case measure => simp [intOf]; omega
            · have Bf := (HK10.out.on hb).bel
              go_wp2
              go_ret
              exact ⟨rfl, Bf⟩
      · have HE : Hid (List.length (monL s x) = MO.length) := hen (by omega)
        rw [HE.out]
        clear hat hen HY HN hn
        have HKr : Hid (RQ w X (⟨f, ev, ct, un, ds, da, mo, pl, wk⟩ : Rl) m wr) := HK8.out.on HB.out
        have HZr : Hid (CF wr Z #[.int .i64 (yOf s), .int .i64 MS, .int .i64 D]) := HZ8.out.below HB.out
        clear HE
        have xx1 : World.cell? wr ⟨X, 1, none⟩ = some (.int .i64 ev) := (HKr.out.c.2 1 _ rfl).1
        go_wp2_with fail
        refine (implDays_plain 4 ev s t wr HTr.out).mono ?_
        rintro e w10 ⟨⟨v10, rfl, O10⟩, b10⟩
        obtain ⟨za, zc, rfl, I10, _, _⟩ := O10.val
        have HK10 : Hid (RQ w X (⟨f, ev, ct, un, ds, da, mo, pl, wk⟩ : Rl) m w10) := HKr.out.on b10
        have HZ10 : Hid (CF w10 Z #[.int .i64 (yOf s), .int .i64 MS, .int .i64 D]) := HZr.out.below b10
        have HI10 : Hid (IsInts w10 za (daysL (plainR 4 ev) s t)) := I10
        have HLY : Hid ((daysL (plainR 4 ev) s t).length ≤ 200) := days_len _ _ _
        have HYL : Hid (∀ x, x ∈ daysL (plainR 4 ev) s t → (dOf x = D ∧ mOf x = MS ∧ (yOf x - yOf s).tmod ev = 0) ∧ 0 ≤ x ∧ x ≤ 3652058) := fun x hx => ⟨by rw [HDS.out, HMS.out]; exact year_law s1 hx, (days_bd hx).2.2.2⟩
        clear O10 I10 b10 HKr HZr HIr HTr hz2 hZl xx1 HB
        generalize daysL (plainR 4 ev) s t = YE at *
        go_wp2
        go_loopw [12] (fun i wr => ∃ k : Nat, k ≤ YE.length ∧ i = .int .i64 k ∧ Below w10.heap.size w10 wr) (fun i _ => YE.length - (intOf i).toNat)
        case atStart => exact ⟨0, by omega, rfl, Below.refl _ _⟩
        case round =>
          obtain ⟨k, hk, rfl, hb⟩ := hrel
          by_cases hlt : k < YE.length
          · have J := HI10.out.below hb
            obtain ⟨b, off, rfl, hbs, hc⟩ := J.cell (by omega)
            have c0 := hc k hlt
            have HT11 : Hid (Tab wr) := HK10.out.any.tab.on hb
            have hn : (YE.length : Int) ≤ 200 := by have := HLY.out; omega
            have hi0 : (0 : Int) ≤ (k : Int) := by omega
            have hi1 : (k : Int) < (YE.length : Int) := by omega
            have q := HYL.out _ (gi_mem hlt)
            generalize gi YE k = V at *
            obtain ⟨⟨v1, v2, v3⟩, v4, v5⟩ := q
            have dbs := date_bd q0 s1
            have dbv := date_bd v4 v5
            have y0 : 1 ≤ yOf s := dbs.1
            have y1 : yOf s ≤ 9999 := dbs.2.1
            have y2 : 1 ≤ yOf V := dbv.1
            have y3 : yOf V ≤ 9999 := dbv.2.1
            clear dbs dbv
            have g6 := IntWalk.i64_in (yOf V - yOf s) (by omega)
            have HV1 : Hid (dOf V = D) := v1
            have HV2 : Hid (mOf V = MS) := v2
            have HV3 : Hid ((yOf V - yOf s).tmod ev = 0) := v3
            clear v1 v2 v3 J hc
            have HB11 : Hid (Below w10.heap.size w10 wr) := hb
            clear hb
            go_wp2_with fail
            refine (implDateOf_is V MS D wr HT11.out v4 v5 HV2.out HV1.out).mono ?_
            rintro e w12 ⟨rfl, b12⟩
            have HB12 : Hid (Below w10.heap.size w10 w12) := bstep HB11.out b12
            have v3 := HV3.out
            have ev0 : (ev == 0) = false := beq_eq_false_iff_ne.2 (by omega)
            have K12 := HK10.out.on HB12.out
            have Z12 := HZ10.out.below HB12.out
            have lX : X < w12.heap.size := K12.c.1
            have lZ : Z < w12.heap.size := Z12.1
            have xx1 : World.cell? w12 ⟨X, 1, none⟩ = some (.int .i64 ev) := (K12.c.2 1 _ rfl).1
            have z0 : World.cell? w12 ⟨Z, 0, none⟩ = some (.int .i64 (yOf s)) := (Z12.2 0 _ rfl).1
            have z1 : World.cell? w12 ⟨Z, 1, none⟩ = some (.int .i64 MS) := (Z12.2 1 _ rfl).1
            have z2 : World.cell? w12 ⟨Z, 2, none⟩ = some (.int .i64 D) := (Z12.2 2 _ rfl).1
            clear K12 Z12 b12 c0
            go_wp2
            go_roundw
            case rel => exact ⟨k + 1, by omega, by go_num, HB12.out.alloc HB12.out.size _⟩
            case measure => simp [intOf]; omega
          · have Bf := (HK10.out.on hb).bel
            go_wp2
            go_ret
            exact ⟨rfl, Bf⟩
end Go.Proofs.YtlfglhpepoepcaaDoor
