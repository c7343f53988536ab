/- Lists of numbers held against each other. -/
import Derived.Test.YtlfglhpepoepcaaDoorOi
import Derived.Test.YtlfglhpepoepcaaDoorJWi
import Derived.Test.YtlfglhpepoepcaaDoorJWa
namespace Go.Proofs.YtlfglhpepoepcaaDoor
open Go.RowKit
set_option linter.unusedVariables false
set_option maxHeartbeats 2000000 in
theorem lawEpInts (a a' : Option Addr) (cap cap' : Nat) (l : List Int) (w : World) (h : IsInts w a l) (h' : IsInts w a' l) (hl : l.length ≤ 4000000) :
    Calls Tryd.prog 19 #[.slice a l.length cap, .slice a' l.length cap'] w fun e w' => e = .returned (.bool true) ∧ Below w.heap.size w w' := by
  have H1 : Hid (IsInts w a l) := h
  have H2 : Hid (IsInts w a' l) := h'
  clear h h'
  go_enter Tryd.func19, Tryd.ntmps19
  go_wp2
  go_loopw [5] (fun i wr => ∃ k : Nat, k ≤ l.length ∧ i = .int .i64 k ∧ Below w.heap.size w wr) (fun i _ => l.length - (intOf i).toNat)
  case atStart => exact ⟨0, by omega, rfl, Below.refl _ _⟩
  case round =>
    obtain ⟨k, hk, rfl, hb⟩ := hrel
    by_cases hlt : k < l.length
    · have G1 := H1.out
      have G2 := H2.out
      rcases G1 with G1 | ⟨b, o, rfl, hbs, hc⟩
      · rw [G1] at hlt; simp at hlt
      rcases G2 with G2 | ⟨b', o', rfl, hbs', hc'⟩
      · rw [G2] at hlt; simp at hlt
      have c0 : wr.cell? ⟨b, o + k, none⟩ = some (.int .i64 (gi l k)) := by rw [hb.cell (p := ⟨b, o + k, none⟩) hbs]; exact hc k hlt
      have c1 : wr.cell? ⟨b', o' + k, none⟩ = some (.int .i64 (gi l k)) := by rw [hb.cell (p := ⟨b', o' + k, none⟩) hbs']; exact hc' k hlt
      clear hc hc'
      have hi1 : (k : Int) < (l.length : Int) := by omega
      have hi0 : (0 : Int) ≤ (k : Int) := by omega
      go_wp2
      go_quiet (fail)
      go_wp2
      go_roundw
      case rel => exact ⟨k + 1, by omega, by go_num, Below.drewN' hb _⟩
      case measure => simp [intOf]; omega
    · go_wp2
      go_ret
      exact ⟨rfl, hb⟩
end Go.Proofs.YtlfglhpepoepcaaDoor
namespace Go.Proofs.YtlfglhpepoepcaaDoor
open Go.RowKit
set_option linter.unusedVariables false
structure RR (w : World) (X : Nat) (r : Rl) (m : Rm) (W : World) : Prop where
  c : CF W X (rcs r m)
  any : RAny W r m
  bel : Below w.heap.size w W
theorem RR.on {w W W' : World} {X : Nat} {r : Rl} {m : Rm} (h : RR w X r m W) (hb : Below W.heap.size W W') : RR w X r m W' := ⟨h.c.below hb, h.any.on hb, bstep h.bel hb⟩
structure RW (w : World) (X : Nat) (r : Rl) (m : Rm) (a : Option Addr) (L : List Int) (W : World) : Prop where
  k : RR w X r m W
  l : IsInts W a L
theorem RW.on {w W W' : World} {X : Nat} {r : Rl} {m : Rm} {a : Option Addr} {L : List Int} (h : RW w X r m a L W) (hb : Below W.heap.size W W') : RW w X r m a L W' := ⟨h.k.on hb, h.l.below hb⟩
theorem any_of {w W : World} {B : Nat} {r : Rl} {m : Rm} (h : OL B r m W) (sm : Sml 4 r) (ht : Tab W) : RAny W r m := ⟨by have := sm.1; omega, by have := sm.2.1; omega, by have := sm.2.2.1; omega, by have := sm.2.2.2; omega, h.mem, ht⟩
theorem IsInts.cell {w : World} {a : Option Addr} {l : List Int} (h : IsInts w a l) (hl : 0 < l.length) : ∃ b off, a = some ⟨b, off, none⟩ ∧ b < w.heap.size ∧ ∀ i, i < l.length → w.cell? ⟨b, off + i, none⟩ = some (.int .i64 (gi l i)) := by
  rcases h with h | h
  · rw [h] at hl; simp at hl
  · exact h
theorem may_same {r : Rl} {s t t' : Int} (hs : 0 ≤ s) (ht : t ≤ 3652058) (hd : t - s ≤ 11000) (h : t' ≤ t) : mayB r s t = true ∨ mayB r s t' = false := by
  cases hm : mayB r s t with
  | true => exact .inl rfl
  | false =>
    right
    cases hm' : mayB r s t' with
    | false => rfl
    | true =>
      obtain ⟨a, b, c, d⟩ := may_ok hm'
      have : mayB r s t = true := by
        unfold mayB at hm' ⊢
        simp only [Bool.and_eq_true, decide_eq_true_eq] at hm' ⊢
        exact ⟨hm'.1, hm'.2.1, (in_iff _ _ _).2 ⟨by omega, ht⟩, hd⟩
      rw [hm] at this; cases this
theorem gi_take {l : List Int} {n i : Nat} (h : i < n) (h2 : i < l.length) : gi (l.take n) i = gi l i := by unfold gi; simp [h, h2]
theorem ints_take {w : World} {a : Option Addr} {l : List Int} (h : IsInts w a l) (n : Nat) : IsInts w a (l.take n) := by
  rcases h with h | ⟨b, off, h1, h2, h3⟩
  · left; rw [h]; simp
  · refine .inr ⟨b, off, h1, h2, fun i hi => ?_⟩
    have h4 : i < n ∧ i < l.length := by rw [List.length_take] at hi; omega
    rw [gi_take h4.1 h4.2]; exact h3 i h4.2
theorem pre_eq {l m : List Int} (h : l <+: m) : m.take l.length = l := by
  obtain ⟨k, rfl⟩ := h
  simp
end Go.Proofs.YtlfglhpepoepcaaDoor
namespace Go.Proofs.YtlfglhpepoepcaaDoor
open Go.RowKit
set_option linter.unusedVariables false
/-- A rule in its own block, its lists ahead of it: its numbers may be set. -/
structure RQ (w : World) (X : Nat) (r : Rl) (m : Rm) (W : World) : Prop where
  c : CF W X (rcs r m)
  old : ∃ W1 : World, W1.heap.size = X ∧ RAny W1 r m ∧ Below X W1 W
  bel : Below w.heap.size w W
  le : w.heap.size ≤ X
theorem RQ.any {w W : World} {X : Nat} {r : Rl} {m : Rm} (h : RQ w X r m W) : RAny W r m := by
  obtain ⟨W1, rfl, a, b⟩ := h.old
  exact a.on b
theorem RQ.on {w W W' : World} {X : Nat} {r : Rl} {m : Rm} (h : RQ w X r m W) (hb : Below W.heap.size W W') : RQ w X r m W' := by
  obtain ⟨W1, h1, a, b⟩ := h.old
  exact ⟨h.c.below hb, ⟨W1, h1, a, b.trans (hb.mono (Nat.le_of_lt h.c.1))⟩, bstep h.bel hb, h.le⟩
theorem RQ.put {w W : World} {X : Nat} {r r' : Rl} {m : Rm} (h : RQ w X r m W) (i : Nat) (v : Value) (hi : i < 9) (hc : rcs r' m = (rcs r m).set! i v) (h0 : r'.ds = r.ds) (h1 : r'.da = r.da) (h2 : r'.mo = r.mo) (h3 : r'.pl = r.pl) : RQ w X r' m (W.setCell ⟨X, i, none⟩ v) := by
  obtain ⟨W1, hX, a, b⟩ := h.old
  refine ⟨by rw [hc]; exact h.c.set i v (by unfold rcs; exact hi), ⟨W1, hX, ⟨by rw [h0]; exact a.l0, by rw [h1]; exact a.l1, by rw [h2]; exact a.l2, by rw [h3]; exact a.l3, ?_, a.tab⟩, b.setCell (p := ⟨X, i, none⟩) (Nat.le_refl _) v⟩, h.bel.setCell (p := ⟨X, i, none⟩) h.le v, h.le⟩
  obtain ⟨t, i1, i2, i3⟩ := a.mem
  exact ⟨by rw [h0]; exact t, by rw [h1]; exact i1, by rw [h2]; exact i2, by rw [h3]; exact i3⟩
theorem IsInts.kept {w W W' : World} {B : Nat} {a : Option Addr} {l : List Int} (h : IsInts w a l) (hb : Below w.heap.size w W) : IsInts W a l := h.below hb
theorem comes_re (f ev ct un ct' un' : Int) (ds : List (Int × Int)) (da mo pl : List Int) (wk s t : Int) : comes ⟨f, ev, ct, un, ds, da, mo, pl, wk⟩ s t = comes ⟨f, ev, ct', un', ds, da, mo, pl, wk⟩ s t := rfl
theorem may_re {f ev ct un ct' un' : Int} {ds : List (Int × Int)} {da mo pl : List Int} {wk s t : Int} (h : ofB f ev ct un wk = ofB f ev ct' un' wk) : mayB ⟨f, ev, ct, un, ds, da, mo, pl, wk⟩ s t = mayB ⟨f, ev, ct', un', ds, da, mo, pl, wk⟩ s t := by
  unfold mayB ruOf ruB
  simp only
  rw [h]
theorem of_ct {f ev wk c : Int} (h0 : 1 ≤ c) (h1 : c ≤ 9) : ofB f ev c 0 wk = ofB f ev 0 0 wk := by
  rw [Bool.eq_iff_iff, of_iff, of_iff]
  constructor
  · rintro h; omega
  · rintro h; omega
theorem count_law {f ev c : Int} {ds : List (Int × Int)} {da mo pl : List Int} {wk s t : Int} (h0 : 1 ≤ c) (h1 : c ≤ 9) : daysL ⟨f, ev, c, 0, ds, da, mo, pl, wk⟩ s t = (daysL ⟨f, ev, 0, 0, ds, da, mo, pl, wk⟩ s t).take c.toNat := by
  have hm : mayB ⟨f, ev, c, 0, ds, da, mo, pl, wk⟩ s t = mayB ⟨f, ev, 0, 0, ds, da, mo, pl, wk⟩ s t := may_re (of_ct h0 h1)
  cases hv : mayB ⟨f, ev, 0, 0, ds, da, mo, pl, wk⟩ s t with
  | false => rw [days_no hv, days_no (hm.trans hv)]; simp
  | true =>
    rw [days_eq hv, days_eq (hm.trans hv), comes_re f ev c 0 0 0]
    have e1 : (mostT ⟨f, ev, c, 0, ds, da, mo, pl, wk⟩ 200) = c := by unfold mostT; rw [if_pos]; exact ⟨by show 0 < c; omega, by show c < 200; omega⟩
    have e2 : (mostT ⟨f, ev, 0, 0, ds, da, mo, pl, wk⟩ 200) = 200 := by unfold mostT; rw [if_neg]; rintro ⟨h, _⟩; exact absurd h (by show ¬ (0 : Int) < 0; omega)
    have e3 : limT ⟨f, ev, c, 0, ds, da, mo, pl, wk⟩ t = limT ⟨f, ev, 0, 0, ds, da, mo, pl, wk⟩ t := rfl
    rw [e1, e2, e3, List.take_take]
    congr 1
    omega
end Go.Proofs.YtlfglhpepoepcaaDoor
namespace Go.Proofs.YtlfglhpepoepcaaDoor
open Go.RowKit
set_option linter.unusedVariables false
theorem until_law {f ev ct un : Int} {ds : List (Int × Int)} {da mo pl : List Int} {wk s t d : Int} (h : mayB ⟨f, ev, ct, un, ds, da, mo, pl, wk⟩ s t = true) (h0 : 1 ≤ d) (h1 : d ≤ t) : daysL ⟨f, ev, 0, d, ds, da, mo, pl, wk⟩ s t = daysL ⟨f, ev, 0, 0, ds, da, mo, pl, wk⟩ s d := by
  obtain ⟨hru, ⟨s0, s1⟩, ⟨t0, t1⟩, ht⟩ := may_ok h
  have hof : ofB f ev ct un wk = true := by unfold ruOf ruB at hru; simp only [Bool.and_eq_true] at hru; exact hru.1
  obtain ⟨a0, a1, _, _, _, a5⟩ := (of_iff _ _ _ _ _).1 hof
  have e1 : ofB f ev 0 d wk = true := (of_iff _ _ _ _ _).2 ⟨a0, a1, ⟨by omega, by omega⟩, ⟨by omega, by omega⟩, .inl rfl, a5⟩
  have e2 : ofB f ev 0 0 wk = true := (of_iff _ _ _ _ _).2 ⟨a0, a1, ⟨by omega, by omega⟩, ⟨by omega, by omega⟩, .inl rfl, a5⟩
  have m1 : mayB ⟨f, ev, 0, d, ds, da, mo, pl, wk⟩ s t = true := (may_re (by rw [e1, hof])).trans h
  have m2 : mayB ⟨f, ev, 0, 0, ds, da, mo, pl, wk⟩ s t = true := (may_re (by rw [e2, hof])).trans h
  have m3 : mayB ⟨f, ev, 0, 0, ds, da, mo, pl, wk⟩ s d = true := by
    unfold mayB
    rw [(may_ok m2).1, (in_iff _ _ _).2 ⟨s0, s1⟩, (in_iff d 0 3652058).2 ⟨by omega, by omega⟩]
    simp; omega
  rw [days_eq m1, days_eq m3, comes_re f ev 0 d 0 0]
  have q1 : limT ⟨f, ev, 0, d, ds, da, mo, pl, wk⟩ t = d := by
    unfold limT
    by_cases hd : d < t
    · rw [if_pos]; exact ⟨by show 0 < d; omega, hd⟩
    · rw [if_neg]; · omega
      · rintro ⟨_, q⟩; exact hd q
  have q2 : limT ⟨f, ev, 0, 0, ds, da, mo, pl, wk⟩ d = d := by
    unfold limT
    rw [if_neg]; rintro ⟨q, _⟩; exact absurd q (by show ¬ (0 : Int) < 0; omega)
  rw [q1, q2]
  rfl
set_option maxHeartbeats 4000000 in
theorem lawEpAsked (r : Rl) (m : Rm) (s d : Int) (w : World) (hr : RAny w r m) :
    Calls Tryd.prog 32 #[.agg #[.int .i64 r.f, .int .i64 r.ev, .int .i64 r.ct, .int .i64 r.un, .slice m.a0 r.ds.length m.c0, .slice m.a1 r.da.length m.c1, .slice m.a2 r.mo.length m.c2, .slice m.a3 r.pl.length m.c3, .int .i64 r.wk], .int .i64 s, .int .i64 d] w fun e w' => e = .returned (.bool (mayB r s d)) ∧ Below w.heap.size w w' := by
  obtain ⟨W0, hW0⟩ : ∃ W0, W0 = w.alloc (.cells #[.int .i64 r.f, .int .i64 r.ev, .int .i64 r.ct, .int .i64 r.un, .slice m.a0 r.ds.length m.c0, .slice m.a1 r.da.length m.c1, .slice m.a2 r.mo.length m.c2, .slice m.a3 r.pl.length m.c3, .int .i64 r.wk] 26) := ⟨_, rfl⟩
  have hb0 : Below w.heap.size w W0 := by rw [hW0]; exact (Below.refl _ w).alloc (Nat.le_refl _) _
  have HW0 : Hid (W0 = w.alloc (.cells #[.int .i64 r.f, .int .i64 r.ev, .int .i64 r.ct, .int .i64 r.un, .slice m.a0 r.ds.length m.c0, .slice m.a1 r.da.length m.c1, .slice m.a2 r.mo.length m.c2, .slice m.a3 r.pl.length m.c3, .int .i64 r.wk] 26)) := hW0
  have HB0 : Hid (Below w.heap.size w W0) := hb0
  have hr0 := hr.on hb0
  have HOK : Hid (Calls Tryd.prog 54 #[.agg #[.int .i64 r.f, .int .i64 r.ev, .int .i64 r.ct, .int .i64 r.un, .slice m.a0 r.ds.length m.c0, .slice m.a1 r.da.length m.c1, .slice m.a2 r.mo.length m.c2, .slice m.a3 r.pl.length m.c3, .int .i64 r.wk]] W0 fun z w' => z = .returned (.bool (ruOf r)) ∧ Below W0.heap.size W0 w') := implRuleOk _ _ _ _ _ _ _ _ _ _ _ _ _ _ _ _ _ W0 hr0.mem.t hr0.mem.d hr0.mem.o hr0.mem.p hr0.l0 hr0.l1 hr0.l2 hr0.l3
  clear hW0 hb0 hr0 hr
  cases h1 : ruOf r with
  | false =>
    rw [h1] at HOK
    have HV : Hid (mayB r s d = false) := by unfold Hid mayB; rw [h1]; rfl
    go_enter Tryd.func32, Tryd.ntmps32
    go_wp2_with fail
    rw [← HW0.out]
    refine HOK.out.mono ?_
    rintro e w1 ⟨rfl, b1⟩
    have HB1 : Hid (Below w.heap.size w w1) := bstep HB0.out b1
    clear b1
    go_wp2
    go_ret
    exact ⟨ret_b HV.out.symm, HB1.out⟩
  | true =>
    rw [h1] at HOK
    have HR : Hid (ruOf r = true) := h1
    clear h1
    by_cases s0 : s < 0
    · have hq : inB s 0 3652058 = false := (in_not _ _ _).2 (by omega)
      have HV : Hid (mayB r s d = false) := by unfold Hid mayB; rw [HR.out, hq]; rfl
      go_enter Tryd.func32, Tryd.ntmps32
      go_wp2_with fail
      rw [← HW0.out]
      refine HOK.out.mono ?_
      rintro e w1 ⟨rfl, b1⟩
      have HB1 : Hid (Below w.heap.size w w1) := bstep HB0.out b1
      clear b1
      go_wp2
      go_ret
      exact ⟨ret_b HV.out.symm, HB1.out⟩
    by_cases s1 : s > 3652058
    · have hq : inB s 0 3652058 = false := (in_not _ _ _).2 (by omega)
      have s0' : s ≥ 0 := by omega
      have HV : Hid (mayB r s d = false) := by unfold Hid mayB; rw [HR.out, hq]; rfl
      go_enter Tryd.func32, Tryd.ntmps32
      go_wp2_with fail
      rw [← HW0.out]
      refine HOK.out.mono ?_
      rintro e w1 ⟨rfl, b1⟩
      have HB1 : Hid (Below w.heap.size w w1) := bstep HB0.out b1
      clear b1
      go_wp2
      go_ret
      exact ⟨ret_b HV.out.symm, HB1.out⟩
    have hs : inB s 0 3652058 = true := (in_iff _ _ _).2 ⟨by omega, by omega⟩
    have s0' : s ≥ 0 := by omega
    have s1' : s ≤ 3652058 := by omega
    by_cases d0 : d < 0
    · have hq : inB d 0 3652058 = false := (in_not _ _ _).2 (by omega)
      have HV : Hid (mayB r s d = false) := by unfold Hid mayB; rw [HR.out, hs, hq]; rfl
      go_enter Tryd.func32, Tryd.ntmps32
      go_wp2_with fail
      rw [← HW0.out]
      refine HOK.out.mono ?_
      rintro e w1 ⟨rfl, b1⟩
      have HB1 : Hid (Below w.heap.size w w1) := bstep HB0.out b1
      clear b1
      go_wp2
      go_ret
      exact ⟨ret_b HV.out.symm, HB1.out⟩
    by_cases d1 : d > 3652058
    · have hq : inB d 0 3652058 = false := (in_not _ _ _).2 (by omega)
      have d0' : d ≥ 0 := by omega
      have HV : Hid (mayB r s d = false) := by unfold Hid mayB; rw [HR.out, hs, hq]; rfl
      go_enter Tryd.func32, Tryd.ntmps32
      go_wp2_with fail
      rw [← HW0.out]
      refine HOK.out.mono ?_
      rintro e w1 ⟨rfl, b1⟩
      have HB1 : Hid (Below w.heap.size w w1) := bstep HB0.out b1
      clear b1
      go_wp2
      go_ret
      exact ⟨ret_b HV.out.symm, HB1.out⟩
    have hd : inB d 0 3652058 = true := (in_iff _ _ _).2 ⟨by omega, by omega⟩
    have d0' : d ≥ 0 := by omega
    have d1' : d ≤ 3652058 := by omega
    have g1 := IntWalk.i64_in (d - s) (by omega)
    have HV : Hid (mayB r s d = decide (d - s ≤ 11000)) := by unfold Hid mayB; rw [HR.out, hs, hd]; rfl
    go_enter Tryd.func32, Tryd.ntmps32
    go_wp2_with fail
    rw [← HW0.out]
    refine HOK.out.mono ?_
    rintro e w1 ⟨rfl, b1⟩
    have HB1 : Hid (Below w.heap.size w w1) := bstep HB0.out b1
    clear b1
    go_wp2
    go_ret
    exact ⟨ret_b HV.out.symm, HB1.out⟩
end Go.Proofs.YtlfglhpepoepcaaDoor
namespace Go.Proofs.YtlfglhpepoepcaaDoor
open Go.RowKit
set_option linter.unusedVariables false
theorem ru_nopl {f ev ct un : Int} {ds : List (Int × Int)} {da mo pl : List Int} {wk : Int} (h : ruOf ⟨f, ev, ct, un, ds, da, mo, pl, wk⟩ = true) : ruOf ⟨f, ev, ct, un, ds, da, mo, [], wk⟩ = true := by
  unfold ruOf ruB liB at h ⊢
  simp only [Bool.and_eq_true, decide_eq_true_eq] at h ⊢
  obtain ⟨h1, h2, h3, h4, h5, h6, h7⟩ := h
  refine ⟨h1, h2, h3, ?_, h5, h6, ?_⟩
  · rintro ⟨q, _⟩; simp at q
  · rfl
theorem places_law {f ev ct un : Int} {ds : List (Int × Int)} {da mo pl : List Int} {wk s t d : Int} (h : d ∈ daysL ⟨f, ev, ct, un, ds, da, mo, pl, wk⟩ s t) (hc : ¬ 0 < ct) : onB ⟨f, ev, ct, un, ds, da, mo, [], wk⟩ s d = true := by
  obtain ⟨hm, hx⟩ := days_mem h
  have bd := days_bd h
  obtain ⟨hru, ⟨s0, s1⟩, ⟨t0, t1⟩, ht⟩ := may_ok hm
  have hX := ru_nopl hru
  have hm' : mayB ⟨f, ev, ct, un, ds, da, mo, [], wk⟩ s d = true := by
    unfold mayB
    rw [hX, (in_iff _ _ _).2 ⟨s0, s1⟩, (in_iff d 0 3652058).2 ⟨by omega, by omega⟩]
    simp; omega
  refine on_iff.2 ⟨hm', ?_⟩
  have e1 : mostT ⟨f, ev, ct, un, ds, da, mo, [], wk⟩ 20000 = 20000 := by unfold mostT; rw [if_neg]; rintro ⟨q, _⟩; exact hc q
  have e2 : limT ⟨f, ev, ct, un, ds, da, mo, [], wk⟩ d = d := by
    unfold limT
    rw [if_neg]
    rintro ⟨q1, q2⟩
    have := bd.2.2.1 q1
    exact absurd q2 (by show ¬ un < d; have : d ≤ un := this; omega)
  have hr := (ru_ok hX).1
  have ql : (comes ⟨f, ev, ct, un, ds, da, mo, [], wk⟩ s d).length ≤ (d + 1 - s).toNat := comes_len hr s0 s1
  rw [e1, e2, List.take_of_length_le (by omega)]
  refine (comes_iff hr s0 s1).2 ⟨?_, Int.le_refl _⟩
  obtain ⟨⟨a, k, hk⟩, _⟩ := (comes_iff (ru_ok hru).1 s0 s1).1 hx
  refine ⟨a, k, ?_⟩
  unfold chJ choice at hk ⊢
  rw [if_pos (show ([] : List Int).length = 0 from rfl)]
  split at hk
  · exact hk
  · exact plL_mem (Nat.le_refl _) hk
theorem implRuleOn_yes (r : Rl) (m : Rm) (s d : Int) (w : World) (hr : RAny w r m) (h : onB r s d = true) :
    Calls Tryd.prog 22 #[.agg #[.int .i64 r.f, .int .i64 r.ev, .int .i64 r.ct, .int .i64 r.un, .slice m.a0 r.ds.length m.c0, .slice m.a1 r.da.length m.c1, .slice m.a2 r.mo.length m.c2, .slice m.a3 r.pl.length m.c3, .int .i64 r.wk], .int .i64 s, .int .i64 d] w fun e w' => e = .returned (.bool true) ∧ Below w.heap.size w w' := by
  have := implRuleOn r m s d w hr
  rw [h] at this
  exact this
/-- A rule without its places, copied into a block of its own. -/
theorem RQ.nopl {w W : World} {X : Nat} {f ev ct un : Int} {ds : List (Int × Int)} {da mo pl : List Int} {wk : Int} {m : Rm} (h : RQ w X ⟨f, ev, ct, un, ds, da, mo, pl, wk⟩ m W) :
    RQ w W.heap.size ⟨f, ev, ct, un, ds, da, mo, [], wk⟩ ⟨m.a0, m.c0, m.a1, m.c1, m.a2, m.c2, none, 0⟩ (W.alloc (.cells #[.int .i64 f, .int .i64 ev, .int .i64 ct, .int .i64 un, .slice m.a0 ds.length m.c0, .slice m.a1 da.length m.c1, .slice m.a2 mo.length m.c2, .slice none 0 0, .int .i64 wk] 26)) := by
  have a := h.any
  obtain ⟨t, i1, i2, i3⟩ := a.mem
  have bA : Below W.heap.size W (W.alloc (.cells #[.int .i64 f, .int .i64 ev, .int .i64 ct, .int .i64 un, .slice m.a0 ds.length m.c0, .slice m.a1 da.length m.c1, .slice m.a2 mo.length m.c2, .slice none 0 0, .int .i64 wk] 26)) := (Below.refl _ _).alloc (Nat.le_refl _) _
  exact ⟨CF.new _ _ _, ⟨W, rfl, ⟨a.l0, a.l1, a.l2, Nat.zero_le _, ⟨t, i1, i2, .inl rfl⟩, a.tab⟩, bA⟩, bstep h.bel bA, h.bel.size⟩
end Go.Proofs.YtlfglhpepoepcaaDoor
namespace Go.Proofs.YtlfglhpepoepcaaDoor
open Go.RowKit
set_option linter.unusedVariables false
theorem implOn_nopl (f ev ct un : Int) (ds : List (Int × Int)) (da mo : List Int) (wk : Int) (m : Rm) (s d : Int) (w : World) (hr : RAny w ⟨f, ev, ct, un, ds, da, mo, [], wk⟩ ⟨m.a0, m.c0, m.a1, m.c1, m.a2, m.c2, none, 0⟩) (h : onB ⟨f, ev, ct, un, ds, da, mo, [], wk⟩ s d = true) :
    Calls Tryd.prog 22 #[.agg #[.int .i64 f, .int .i64 ev, .int .i64 ct, .int .i64 un, .slice m.a0 ds.length m.c0, .slice m.a1 da.length m.c1, .slice m.a2 mo.length m.c2, .slice none 0 0, .int .i64 wk], .int .i64 s, .int .i64 d] w fun e w' => e = .returned (.bool true) ∧ Below w.heap.size w w' :=
  implRuleOn_yes ⟨f, ev, ct, un, ds, da, mo, [], wk⟩ ⟨m.a0, m.c0, m.a1, m.c1, m.a2, m.c2, none, 0⟩ s d w hr h
set_option maxRecDepth 100000 in
set_option maxHeartbeats 16000000 in
theorem lawRulePlaces (a : Option Addr) (len cap : Nat) (w : World) (h : IsCode w a len cap) (ht : Tab w) :
    Calls Tryd.prog 7 #[.slice a len cap] w fun e w' => e = .returned (.bool true) ∧ Below w.heap.size w w' := by
  have hlen := h.1
  have HTB : Hid (Tab w) := ht
  clear ht
  by_cases hl : (len : Int) > 1048576
  · go_enter Tryd.func7, Tryd.ntmps7
    go_wp2
    go_ret
    exact ⟨rfl, Below.refl _ _⟩
  go_enter Tryd.func7, Tryd.ntmps7
  go_wp2_with fail
  refine (drawRuleDays w a len cap h).mono ?_
  rintro e w1 ⟨r, m, s, t, rfl, O1, sm, sb, tb, b1⟩
  obtain ⟨f, ev, ct, un, ds, da, mo, pl, wk⟩ := r
  have hrc : rcs ⟨f, ev, ct, un, ds, da, mo, pl, wk⟩ m = #[.int .i64 f, .int .i64 ev, .int .i64 ct, .int .i64 un, .slice m.a0 ds.length m.c0, .slice m.a1 da.length m.c1, .slice m.a2 mo.length m.c2, .slice m.a3 pl.length m.c3, .int .i64 wk] := rfl
  rw [hrc]
  clear hrc h
  have bA : Below w1.heap.size w1 (w1.alloc (.cells #[.int .i64 f, .int .i64 ev, .int .i64 ct, .int .i64 un, .slice m.a0 ds.length m.c0, .slice m.a1 da.length m.c1, .slice m.a2 mo.length m.c2, .slice m.a3 pl.length m.c3, .int .i64 wk] 26)) := (Below.refl _ _).alloc (Nat.le_refl _) _
  have K2 : RQ w w1.heap.size (⟨f, ev, ct, un, ds, da, mo, pl, wk⟩ : Rl) m (w1.alloc (.cells #[.int .i64 f, .int .i64 ev, .int .i64 ct, .int .i64 un, .slice m.a0 ds.length m.c0, .slice m.a1 da.length m.c1, .slice m.a2 mo.length m.c2, .slice m.a3 pl.length m.c3, .int .i64 wk] 26)) := ⟨CF.new _ _ _, ⟨w1, rfl, any_of (w := w) (B := w.heap.size) (r := ⟨f, ev, ct, un, ds, da, mo, pl, wk⟩) (O1.re rfl rfl rfl rfl) sm (HTB.out.on b1), bA⟩, b1.trans (bA.mono b1.size), b1.size⟩
  have HK2 : Hid (RQ w w1.heap.size (⟨f, ev, ct, un, ds, da, mo, pl, wk⟩ : Rl) m (w1.alloc (.cells #[.int .i64 f, .int .i64 ev, .int .i64 ct, .int .i64 un, .slice m.a0 ds.length m.c0, .slice m.a1 da.length m.c1, .slice m.a2 mo.length m.c2, .slice m.a3 pl.length m.c3, .int .i64 wk] 26))) := K2
  have SM : Hid (Sml 4 (⟨f, ev, ct, un, ds, da, mo, pl, wk⟩ : Rl)) := sm
  clear K2 bA O1 sm b1
  go_wp2_with fail
  generalize w1.alloc (.cells #[.int .i64 f, .int .i64 ev, .int .i64 ct, .int .i64 un, .slice m.a0 ds.length m.c0, .slice m.a1 da.length m.c1, .slice m.a2 mo.length m.c2, .slice m.a3 pl.length m.c3, .int .i64 wk] 26) = W2 at HK2 ⊢
  generalize w1.heap.size = X at HK2 ⊢
  refine (implRuleDays ⟨f, ev, ct, un, ds, da, mo, pl, wk⟩ m s t W2 HK2.out.any).mono ?_
  rintro e w3 ⟨⟨v3, rfl, O3⟩, b3⟩
  obtain ⟨va, vc, rfl, I3, _, _⟩ := O3.val
  have K3 : RQ w X (⟨f, ev, ct, un, ds, da, mo, pl, wk⟩ : Rl) m w3 := HK2.out.on b3
  have J3 : IsInts w3 va (daysL ⟨f, ev, ct, un, ds, da, mo, pl, wk⟩ s t) := I3
  have HL : Hid ((daysL ⟨f, ev, ct, un, ds, da, mo, pl, wk⟩ s t).length ≤ 200) := days_len _ _ _
  clear O3 I3 b3 HK2
  have x0 : World.cell? w3 ⟨X, 0, none⟩ = some (.int .i64 f) := (K3.c.2 0 _ rfl).1
  have x1 : World.cell? w3 ⟨X, 1, none⟩ = some (.int .i64 ev) := (K3.c.2 1 _ rfl).1
  have x2 : World.cell? w3 ⟨X, 2, none⟩ = some (.int .i64 ct) := (K3.c.2 2 _ rfl).1
  have x3 : World.cell? w3 ⟨X, 3, none⟩ = some (.int .i64 un) := (K3.c.2 3 _ rfl).1
  have x4 : World.cell? w3 ⟨X, 4, none⟩ = some (.slice m.a0 ds.length m.c0) := (K3.c.2 4 _ rfl).1
  have x5 : World.cell? w3 ⟨X, 5, none⟩ = some (.slice m.a1 da.length m.c1) := (K3.c.2 5 _ rfl).1
  have x6 : World.cell? w3 ⟨X, 6, none⟩ = some (.slice m.a2 mo.length m.c2) := (K3.c.2 6 _ rfl).1
  have x7 : World.cell? w3 ⟨X, 7, none⟩ = some (.slice m.a3 pl.length m.c3) := (K3.c.2 7 _ rfl).1
  have x8 : World.cell? w3 ⟨X, 8, none⟩ = some (.int .i64 wk) := (K3.c.2 8 _ rfl).1
  go_wp2_with fail
  refine (specRuleDays ⟨f, ev, ct, un, ds, da, mo, pl, wk⟩ m s t w3 K3.any).mono ?_
  rintro e w4 ⟨⟨v4, rfl, O4⟩, b4⟩
  obtain ⟨vb, vd, rfl, I4, _, _⟩ := O4.val
  have K4 := K3.on b4
  have J4 := J3.below b4
  clear K3 J3 O4 b4 x0 x1 x2 x3 x4 x5 x6 x7 x8
  go_wp2_with fail
  refine (lawEpInts _ _ _ _ _ _ J4 I4 (by have := HL.out; omega)).mono ?_
  rintro e w5 ⟨rfl, b5⟩
  have K5 := K4.on b5
  have J5 := J4.below b5
  clear K4 J4 I4 b5
  have HB5 : Hid (RQ w X (⟨f, ev, ct, un, ds, da, mo, pl, wk⟩ : Rl) m w5) := K5
  have x0 : World.cell? w5 ⟨X, 0, none⟩ = some (.int .i64 f) := (K5.c.2 0 _ rfl).1
  have x1 : World.cell? w5 ⟨X, 1, none⟩ = some (.int .i64 ev) := (K5.c.2 1 _ rfl).1
  have x2 : World.cell? w5 ⟨X, 2, none⟩ = some (.int .i64 ct) := (K5.c.2 2 _ rfl).1
  have x3 : World.cell? w5 ⟨X, 3, none⟩ = some (.int .i64 un) := (K5.c.2 3 _ rfl).1
  have x4 : World.cell? w5 ⟨X, 4, none⟩ = some (.slice m.a0 ds.length m.c0) := (K5.c.2 4 _ rfl).1
  have x5 : World.cell? w5 ⟨X, 5, none⟩ = some (.slice m.a1 da.length m.c1) := (K5.c.2 5 _ rfl).1
  have x6 : World.cell? w5 ⟨X, 6, none⟩ = some (.slice m.a2 mo.length m.c2) := (K5.c.2 6 _ rfl).1
  have x7 : World.cell? w5 ⟨X, 7, none⟩ = some (.slice m.a3 pl.length m.c3) := (K5.c.2 7 _ rfl).1
  have x8 : World.cell? w5 ⟨X, 8, none⟩ = some (.int .i64 wk) := (K5.c.2 8 _ rfl).1
  by_cases hp : (pl.length : Int) = 0
  · go_wp2_with fail
    refine (specRuleDays ⟨f, ev, ct, un, ds, da, mo, pl, wk⟩ m s t w5 HB5.out.any).mono ?_
    rintro e w7 ⟨⟨v7, rfl, O7⟩, b7⟩
    obtain ⟨ub, ud, rfl, I7, _, _⟩ := O7.val
    have J7 := J5.below b7
    have HB7 : Hid (Below w.heap.size w w7) := bstep HB5.out.bel b7
    clear O7 b7 J5 K5 x0 x1 x2 x3 x4 x5 x6 x7 x8
    go_wp2_with fail
    refine (lawEpInts _ _ _ _ _ _ J7 I7 (by have := HL.out; omega)).mono ?_
    rintro e w8 ⟨rfl, b8⟩
    have B8 := bstep HB7.out b8
    clear b8 J7 I7
    go_wp2
    go_ret
    exact ⟨rfl, B8⟩
  have g3 : ((pl.length : Int) == 0) = false := beq_eq_false_iff_ne.2 hp
  clear hp
  by_cases hc : 0 < ct
  · go_wp2_with fail
    refine (specRuleDays ⟨f, ev, ct, un, ds, da, mo, pl, wk⟩ m s t w5 HB5.out.any).mono ?_
    rintro e w7 ⟨⟨v7, rfl, O7⟩, b7⟩
    obtain ⟨ub, ud, rfl, I7, _, _⟩ := O7.val
    have J7 := J5.below b7
    have HB7 : Hid (Below w.heap.size w w7) := bstep HB5.out.bel b7
    clear O7 b7 J5 K5 x0 x1 x2 x3 x4 x5 x6 x7 x8
    go_wp2_with fail
    refine (lawEpInts _ _ _ _ _ _ J7 I7 (by have := HL.out; omega)).mono ?_
    rintro e w8 ⟨rfl, b8⟩
    have B8 := bstep HB7.out b8
    clear b8 J7 I7
    go_wp2
    go_ret
    exact ⟨rfl, B8⟩
  by_cases hz : ((daysL (⟨f, ev, ct, un, ds, da, mo, pl, wk⟩ : Rl) s t).length : Int) = 0
  · go_wp2_with fail
    refine (specRuleDays ⟨f, ev, ct, un, ds, da, mo, pl, wk⟩ m s t w5 HB5.out.any).mono ?_
    rintro e w7 ⟨⟨v7, rfl, O7⟩, b7⟩
    obtain ⟨ub, ud, rfl, I7, _, _⟩ := O7.val
    have J7 := J5.below b7
    have HB7 : Hid (Below w.heap.size w w7) := bstep HB5.out.bel b7
    clear O7 b7 J5 K5 x0 x1 x2 x3 x4 x5 x6 x7 x8
    go_wp2_with fail
    refine (lawEpInts _ _ _ _ _ _ J7 I7 (by have := HL.out; omega)).mono ?_
    rintro e w8 ⟨rfl, b8⟩
    have B8 := bstep HB7.out b8
    clear b8 J7 I7
    go_wp2
    go_ret
    exact ⟨rfl, B8⟩
  have g5 : (((daysL (⟨f, ev, ct, un, ds, da, mo, pl, wk⟩ : Rl) s t).length : Int) == 0) = false := beq_eq_false_iff_ne.2 hz
  clear hz
  have HX := Hid.mk' (RQ.nopl K5)
  have HC : Hid (¬ 0 < ct) := hc
  generalize hD : (daysL (⟨f, ev, ct, un, ds, da, mo, pl, wk⟩ : Rl) s t) = DL at *
  have HD : Hid ((daysL (⟨f, ev, ct, un, ds, da, mo, pl, wk⟩ : Rl) s t) = DL) := hD
  have HJ : Hid (IsInts w5 va DL) := J5
  clear K5 J5 hD
  have BA6 : Hid (Below w5.heap.size w5 (w5.alloc (.cells #[.int .i64 f, .int .i64 ev, .int .i64 ct, .int .i64 un, .slice m.a0 ds.length m.c0, .slice m.a1 da.length m.c1, .slice m.a2 mo.length m.c2, .slice none 0 0, .int .i64 wk] 26))) := (Below.refl _ _).alloc (Nat.le_refl _) _
  go_wp2
  generalize w5.alloc (.cells #[.int .i64 f, .int .i64 ev, .int .i64 ct, .int .i64 un, .slice m.a0 ds.length m.c0, .slice m.a1 da.length m.c1, .slice m.a2 mo.length m.c2, .slice none 0 0, .int .i64 wk] 26) = W6 at HX BA6 ⊢
  generalize hY : w5.heap.size = Y at HX BA6 ⊢
  have HJ6 : Hid (IsInts W6 va DL) := HJ.out.below (by rw [hY]; exact BA6.out)
  go_loopw [8] (fun i wr => ∃ k : Nat, k ≤ DL.length ∧ i = .int .i64 k ∧ Below W6.heap.size W6 wr) (fun i _ => DL.length - (intOf i).toNat)
  case atStart => exact ⟨0, by omega, rfl, Below.refl _ _⟩
  case round =>
    obtain ⟨k, hk, rfl, hb⟩ := hrel
    by_cases hlt : k < DL.length
    · have J := HJ6.out.below hb
      obtain ⟨b, off, rfl, hbs, hc⟩ := J.cell (by omega)
      have e0 := hc k hlt
      have K := HX.out.on hb
      have hn : (DL.length : Int) ≤ 200 := by have := HL.out; omega
      have hi0 : (0 : Int) ≤ (k : Int) := by omega
      have hi1 : (k : Int) < (DL.length : Int) := by omega
      have HON : Hid (onB (⟨f, ev, ct, un, ds, da, mo, [], wk⟩ : Rl) s (gi DL k) = true) := by have q := gi_mem hlt; rw [← HD.out] at q; rw [← HD.out]; exact places_law q (by have := HC.out; omega)
      generalize gi DL k = D at *
      clear J hc
      go_wp2
      refine wp_region_cl (fun w' => (w'.cell? ⟨b, off + k, none⟩ = some (.int .i64 D) ∧ RQ w Y (⟨f, ev, ct, un, ds, da, mo, [], wk⟩ : Rl) ⟨m.a0, m.c0, m.a1, m.c1, m.a2, m.c2, none, 0⟩ w') ∧ Below W6.heap.size W6 w') (by kernel_rfl) (by kernel_rfl) ⟨⟨by simpa using e0, K.on (Below.refl _ _).drew⟩, hb.drew⟩ ?_
      clear e0 K hb hbs
      repeat (first
        | go_big_quiet_skip
        | (go_big_quiet_want; go_big_quiet_op; go_big_quiet_on)
        | (go_big_quiet_want
           apply Exists.intro
           refine ⟨fun w7 hC7 => ?_, ?_⟩
           · (have hC8 := hC7
              obtain ⟨⟨e0, k7⟩, b7⟩ := hC7
              have x0 : World.cell? w7 ⟨Y, 0, none⟩ = some (.int .i64 f) := (k7.c.2 0 _ rfl).1
              have x1 : World.cell? w7 ⟨Y, 1, none⟩ = some (.int .i64 ev) := (k7.c.2 1 _ rfl).1
              have x2 : World.cell? w7 ⟨Y, 2, none⟩ = some (.int .i64 ct) := (k7.c.2 2 _ rfl).1
              have x3 : World.cell? w7 ⟨Y, 3, none⟩ = some (.int .i64 un) := (k7.c.2 3 _ rfl).1
              have x4 : World.cell? w7 ⟨Y, 4, none⟩ = some (.slice m.a0 ds.length m.c0) := (k7.c.2 4 _ rfl).1
              have x5 : World.cell? w7 ⟨Y, 5, none⟩ = some (.slice m.a1 da.length m.c1) := (k7.c.2 5 _ rfl).1
              have x6 : World.cell? w7 ⟨Y, 6, none⟩ = some (.slice m.a2 mo.length m.c2) := (k7.c.2 6 _ rfl).1
              have x7 : World.cell? w7 ⟨Y, 7, none⟩ = some (.slice none 0 0) := (k7.c.2 7 _ rfl).1
              have x8 : World.cell? w7 ⟨Y, 8, none⟩ = some (.int .i64 wk) := (k7.c.2 8 _ rfl).1
              go_simp
              first
                | done
                | rfl
                | exact ⟨rfl, rfl⟩
                | (with_reducible refine (implOn_nopl f ev ct un ds da mo wk m s D w7 k7.any HON.out).mono ?_
                   rintro e w8 ⟨rfl, hb8⟩
                   have k8 := k7.on hb8
                   have c8 : w8.cell? ⟨b, off + k, none⟩ = some (.int .i64 D) := (hb8.cell (p := ⟨b, off + k, none⟩) (cell_lt e0)).trans e0
                   have b8 := bstep b7 hb8
                   first | exact ⟨rfl, ⟨c8, k8⟩, b8⟩ | (go_simp; exact ⟨⟨c8, k8⟩, b8⟩) | (go_simp; exact ⟨c8, k8, b8⟩)))
           (go_simp; go_big_quiet_on)))
      refine wpQuiet_nil ?_
      intro w7 K7
      have hb := K7.2
      clear K7
      go_wp2
      go_roundw
      case rel => exact ⟨k + 1, by omega, by go_num, hb⟩
      case measure => simp [intOf]; omega
    · have Bf := (HX.out.on hb).bel
      go_wp2
      go_ret
      exact ⟨rfl, Bf⟩
end Go.Proofs.YtlfglhpepoepcaaDoor
