/- Lists of numbers held against each other. -/
import Derived.Test.YtlfglhpepoepcaaDoorOi
import Derived.Test.YtlfglhpepoepcaaDoorJWi
import Derived.Test.YtlfglhpepoepcaaDoorJWa
namespace Go.Proofs.YtlfglhpepoepcaaDoor
open Go.RowKit
set_option linter.unusedVariables false
set_option maxHeartbeats 2000000 in
theorem lawEpInts (a a' : Option Addr) (cap cap' : Nat) (l : List Int) (w : World) (h : IsInts w a l) (h' : IsInts w a' l) (hl : l.length ≤ 4000000) :
    Calls Tryd.prog 19 #[.slice a l.length cap, .slice a' l.length cap'] w fun e w' => e = .returned (.bool true) ∧ Below w.heap.size w w' := by
  have H1 : Hid (IsInts w a l) := h
  have H2 : Hid (IsInts w a' l) := h'
  clear h h'
  go_enter Tryd.func19, Tryd.ntmps19
  go_wp2
  go_loopw [5] (fun i wr => ∃ k : Nat, k ≤ l.length ∧ i = .int .i64 k ∧ Below w.heap.size w wr) (fun i _ => l.length - (intOf i).toNat)
  case atStart => exact ⟨0, by omega, rfl, Below.refl _ _⟩
  case round =>
    obtain ⟨k, hk, rfl, hb⟩ := hrel
    by_cases hlt : k < l.length
    · have G1 := H1.out
      have G2 := H2.out
      rcases G1 with G1 | ⟨b, o, rfl, hbs, hc⟩
      · rw [G1] at hlt; simp at hlt
      rcases G2 with G2 | ⟨b', o', rfl, hbs', hc'⟩
      · rw [G2] at hlt; simp at hlt
      have c0 : wr.cell? ⟨b, o + k, none⟩ = some (.int .i64 (gi l k)) := by rw [hb.cell (p := ⟨b, o + k, none⟩) hbs]; exact hc k hlt
      have c1 : wr.cell? ⟨b', o' + k, none⟩ = some (.int .i64 (gi l k)) := by rw [hb.cell (p := ⟨b', o' + k, none⟩) hbs']; exact hc' k hlt
      clear hc hc'
      have hi1 : (k : Int) < (l.length : Int) := by omega
      have hi0 : (0 : Int) ≤ (k : Int) := by omega
      go_wp2
      go_quiet (fail)
      go_wp2
      go_roundw
      case rel => exact ⟨k + 1, by omega, by go_num, Below.drewN' hb _⟩
      case measure => simp [intOf]; omega
    · go_wp2
      go_ret
      exact ⟨rfl, hb⟩
end Go.Proofs.YtlfglhpepoepcaaDoor
namespace Go.Proofs.YtlfglhpepoepcaaDoor
open Go.RowKit
set_option linter.unusedVariables false
structure RR (w : World) (X : Nat) (r : Rl) (m : Rm) (W : World) : Prop where
  c : CF W X (rcs r m)
  any : RAny W r m
  bel : Below w.heap.size w W
theorem RR.on {w W W' : World} {X : Nat} {r : Rl} {m : Rm} (h : RR w X r m W) (hb : Below W.heap.size W W') : RR w X r m W' := ⟨h.c.below hb, h.any.on hb, bstep h.bel hb⟩
structure RW (w : World) (X : Nat) (r : Rl) (m : Rm) (a : Option Addr) (L : List Int) (W : World) : Prop where
  k : RR w X r m W
  l : IsInts W a L
theorem RW.on {w W W' : World} {X : Nat} {r : Rl} {m : Rm} {a : Option Addr} {L : List Int} (h : RW w X r m a L W) (hb : Below W.heap.size W W') : RW w X r m a L W' := ⟨h.k.on hb, h.l.below hb⟩
theorem any_of {w W : World} {B : Nat} {r : Rl} {m : Rm} (h : OL B r m W) (sm : Sml 4 r) (ht : Tab W) : RAny W r m := ⟨by have := sm.1; omega, by have := sm.2.1; omega, by have := sm.2.2.1; omega, by have := sm.2.2.2; omega, h.mem, ht⟩
theorem IsInts.cell {w : World} {a : Option Addr} {l : List Int} (h : IsInts w a l) (hl : 0 < l.length) : ∃ b off, a = some ⟨b, off, none⟩ ∧ b < w.heap.size ∧ ∀ i, i < l.length → w.cell? ⟨b, off + i, none⟩ = some (.int .i64 (gi l i)) := by
  rcases h with h | h
  · rw [h] at hl; simp at hl
  · exact h
theorem may_same {r : Rl} {s t t' : Int} (hs : 0 ≤ s) (ht : t ≤ 3652058) (hd : t - s ≤ 11000) (h : t' ≤ t) : mayB r s t = true ∨ mayB r s t' = false := by
  cases hm : mayB r s t with
  | true => exact .inl rfl
  | false =>
    right
    cases hm' : mayB r s t' with
    | false => rfl
    | true =>
      obtain ⟨a, b, c, d⟩ := may_ok hm'
      have : mayB r s t = true := by
        unfold mayB at hm' ⊢
        simp only [Bool.and_eq_true, decide_eq_true_eq] at hm' ⊢
        exact ⟨hm'.1, hm'.2.1, (in_iff _ _ _).2 ⟨by omega, ht⟩, hd⟩
      rw [hm] at this; cases this
theorem gi_take {l : List Int} {n i : Nat} (h : i < n) (h2 : i < l.length) : gi (l.take n) i = gi l i := by unfold gi; simp [h, h2]
theorem ints_take {w : World} {a : Option Addr} {l : List Int} (h : IsInts w a l) (n : Nat) : IsInts w a (l.take n) := by
  rcases h with h | ⟨b, off, h1, h2, h3⟩
  · left; rw [h]; simp
  · refine .inr ⟨b, off, h1, h2, fun i hi => ?_⟩
    have h4 : i < n ∧ i < l.length := by rw [List.length_take] at hi; omega
    rw [gi_take h4.1 h4.2]; exact h3 i h4.2
theorem pre_eq {l m : List Int} (h : l <+: m) : m.take l.length = l := by
  obtain ⟨k, rfl⟩ := h
  simp
end Go.Proofs.YtlfglhpepoepcaaDoor
namespace Go.Proofs.YtlfglhpepoepcaaDoor
open Go.RowKit
set_option linter.unusedVariables false
/-- A rule in its own block, its lists ahead of it: its numbers may be set. -/
structure RQ (w : World) (X : Nat) (r : Rl) (m : Rm) (W : World) : Prop where
  c : CF W X (rcs r m)
  old : ∃ W1 : World, W1.heap.size = X ∧ RAny W1 r m ∧ Below X W1 W
  bel : Below w.heap.size w W
  le : w.heap.size ≤ X
theorem RQ.any {w W : World} {X : Nat} {r : Rl} {m : Rm} (h : RQ w X r m W) : RAny W r m := by
  obtain ⟨W1, rfl, a, b⟩ := h.old
  exact a.on b
theorem RQ.on {w W W' : World} {X : Nat} {r : Rl} {m : Rm} (h : RQ w X r m W) (hb : Below W.heap.size W W') : RQ w X r m W' := by
  obtain ⟨W1, h1, a, b⟩ := h.old
  exact ⟨h.c.below hb, ⟨W1, h1, a, b.trans (hb.mono (Nat.le_of_lt h.c.1))⟩, bstep h.bel hb, h.le⟩
theorem RQ.put {w W : World} {X : Nat} {r r' : Rl} {m : Rm} (h : RQ w X r m W) (i : Nat) (v : Value) (hi : i < 9) (hc : rcs r' m = (rcs r m).set! i v) (h0 : r'.ds = r.ds) (h1 : r'.da = r.da) (h2 : r'.mo = r.mo) (h3 : r'.pl = r.pl) : RQ w X r' m (W.setCell ⟨X, i, none⟩ v) := by
  obtain ⟨W1, hX, a, b⟩ := h.old
  refine ⟨by rw [hc]; exact h.c.set i v (by unfold rcs; exact hi), ⟨W1, hX, ⟨by rw [h0]; exact a.l0, by rw [h1]; exact a.l1, by rw [h2]; exact a.l2, by rw [h3]; exact a.l3, ?_, a.tab⟩, b.setCell (p := ⟨X, i, none⟩) (Nat.le_refl _) v⟩, h.bel.setCell (p := ⟨X, i, none⟩) h.le v, h.le⟩
  obtain ⟨t, i1, i2, i3⟩ := a.mem
  exact ⟨by rw [h0]; exact t, by rw [h1]; exact i1, by rw [h2]; exact i2, by rw [h3]; exact i3⟩
theorem IsInts.kept {w W W' : World} {B : Nat} {a : Option Addr} {l : List Int} (h : IsInts w a l) (hb : Below w.heap.size w W) : IsInts W a l := h.below hb
theorem comes_re (f ev ct un ct' un' : Int) (ds : List (Int × Int)) (da mo pl : List Int) (wk s t : Int) : comes ⟨f, ev, ct, un, ds, da, mo, pl, wk⟩ s t = comes ⟨f, ev, ct', un', ds, da, mo, pl, wk⟩ s t := rfl
theorem may_re {f ev ct un ct' un' : Int} {ds : List (Int × Int)} {da mo pl : List Int} {wk s t : Int} (h : ofB f ev ct un wk = ofB f ev ct' un' wk) : mayB ⟨f, ev, ct, un, ds, da, mo, pl, wk⟩ s t = mayB ⟨f, ev, ct', un', ds, da, mo, pl, wk⟩ s t := by
  unfold mayB ruOf ruB
  simp only
  rw [h]
theorem of_ct {f ev wk c : Int} (h0 : 1 ≤ c) (h1 : c ≤ 9) : ofB f ev c 0 wk = ofB f ev 0 0 wk := by
  rw [Bool.eq_iff_iff, of_iff, of_iff]
  constructor
  · rintro h; omega
  · rintro h; omega
theorem count_law {f ev c : Int} {ds : List (Int × Int)} {da mo pl : List Int} {wk s t : Int} (h0 : 1 ≤ c) (h1 : c ≤ 9) : daysL ⟨f, ev, c, 0, ds, da, mo, pl, wk⟩ s t = (daysL ⟨f, ev, 0, 0, ds, da, mo, pl, wk⟩ s t).take c.toNat := by
  have hm : mayB ⟨f, ev, c, 0, ds, da, mo, pl, wk⟩ s t = mayB ⟨f, ev, 0, 0, ds, da, mo, pl, wk⟩ s t := may_re (of_ct h0 h1)
  cases hv : mayB ⟨f, ev, 0, 0, ds, da, mo, pl, wk⟩ s t with
  | false => rw [days_no hv, days_no (hm.trans hv)]; simp
  | true =>
    rw [days_eq hv, days_eq (hm.trans hv), comes_re f ev c 0 0 0]
    have e1 : (mostT ⟨f, ev, c, 0, ds, da, mo, pl, wk⟩ 200) = c := by unfold mostT; rw [if_pos]; exact ⟨by show 0 < c; omega, by show c < 200; omega⟩
    have e2 : (mostT ⟨f, ev, 0, 0, ds, da, mo, pl, wk⟩ 200) = 200 := by unfold mostT; rw [if_neg]; rintro ⟨h, _⟩; exact absurd h (by show ¬ (0 : Int) < 0; omega)
    have e3 : limT ⟨f, ev, c, 0, ds, da, mo, pl, wk⟩ t = limT ⟨f, ev, 0, 0, ds, da, mo, pl, wk⟩ t := rfl
    rw [e1, e2, e3, List.take_take]
    congr 1
    omega
end Go.Proofs.YtlfglhpepoepcaaDoor
namespace Go.Proofs.YtlfglhpepoepcaaDoor
open Go.RowKit
set_option linter.unusedVariables false
set_option maxRecDepth 100000 in
set_option maxHeartbeats 16000000 in
theorem lawRuleCount (a : Option Addr) (len cap : Nat) (a' : Option Addr) (len' cap' : Nat) (w : World) (h : IsCode w a len cap) (h' : IsCode w a' len' cap') (ht : Tab w) :
    Calls Tryd.prog 9 #[.slice a len cap, .slice a' len' cap'] w fun e w' => e = .returned (.bool true) ∧ Below w.heap.size w w' := by
  have hlen := h.1
  have hlen' := h'.1
  clear h'
  have HTB : Hid (Tab w) := ht
  clear ht
  by_cases hl : (len : Int) > 1048576
  · go_enter Tryd.func9, Tryd.ntmps9
    go_wp2
    go_ret
    exact ⟨rfl, Below.refl _ _⟩
  by_cases hl' : (len' : Int) > 1048576
  · go_enter Tryd.func9, Tryd.ntmps9
    go_wp2
    go_ret
    exact ⟨rfl, Below.refl _ _⟩
  go_enter Tryd.func9, Tryd.ntmps9
  go_wp2_with fail
  refine (drawRuleDays w a len cap h).mono ?_
  rintro e w1 ⟨r, m, s, t, rfl, O1, sm, sb, tb, b1⟩
  obtain ⟨f, ev, ct, un, ds, da, mo, pl, wk⟩ := r
  have hrc : rcs ⟨f, ev, ct, un, ds, da, mo, pl, wk⟩ m = #[.int .i64 f, .int .i64 ev, .int .i64 ct, .int .i64 un, .slice m.a0 ds.length m.c0, .slice m.a1 da.length m.c1, .slice m.a2 mo.length m.c2, .slice m.a3 pl.length m.c3, .int .i64 wk] := rfl
  rw [hrc]
  clear hrc h
  have bA : Below w1.heap.size w1 (w1.alloc (.cells #[.int .i64 f, .int .i64 ev, .int .i64 0, .int .i64 un, .slice m.a0 ds.length m.c0, .slice m.a1 da.length m.c1, .slice m.a2 mo.length m.c2, .slice m.a3 pl.length m.c3, .int .i64 wk] 26)) := (Below.refl _ _).alloc (Nat.le_refl _) _
  have K2 : RQ w w1.heap.size (⟨f, ev, 0, un, ds, da, mo, pl, wk⟩ : Rl) m (w1.alloc (.cells #[.int .i64 f, .int .i64 ev, .int .i64 0, .int .i64 un, .slice m.a0 ds.length m.c0, .slice m.a1 da.length m.c1, .slice m.a2 mo.length m.c2, .slice m.a3 pl.length m.c3, .int .i64 wk] 26)) := ⟨CF.new _ _ _, ⟨w1, rfl, any_of (w := w) (B := w.heap.size) (r := ⟨f, ev, 0, un, ds, da, mo, pl, wk⟩) (O1.re rfl rfl rfl rfl) sm (HTB.out.on b1), bA⟩, b1.trans (bA.mono b1.size), b1.size⟩
  have HK2 : Hid (RQ w w1.heap.size (⟨f, ev, 0, un, ds, da, mo, pl, wk⟩ : Rl) m (w1.alloc (.cells #[.int .i64 f, .int .i64 ev, .int .i64 0, .int .i64 un, .slice m.a0 ds.length m.c0, .slice m.a1 da.length m.c1, .slice m.a2 mo.length m.c2, .slice m.a3 pl.length m.c3, .int .i64 wk] 26))) := K2
  have SM : Hid (Sml 4 (⟨f, ev, ct, un, ds, da, mo, pl, wk⟩ : Rl)) := sm
  clear K2 bA O1 sm b1
  go_wp2_with fail
  generalize w1.alloc (.cells #[.int .i64 f, .int .i64 ev, .int .i64 0, .int .i64 un, .slice m.a0 ds.length m.c0, .slice m.a1 da.length m.c1, .slice m.a2 mo.length m.c2, .slice m.a3 pl.length m.c3, .int .i64 wk] 26) = W2 at HK2 ⊢
  generalize w1.heap.size = X at HK2 ⊢
  refine (implRuleDays ⟨f, ev, 0, un, ds, da, mo, pl, wk⟩ m s t W2 HK2.out.any).mono ?_
  rintro e w3 ⟨⟨v3, rfl, O3⟩, b3⟩
  obtain ⟨va, vc, rfl, I3, _, _⟩ := O3.val
  have K3 : RQ w X (⟨f, ev, 0, un, ds, da, mo, pl, wk⟩ : Rl) m w3 := HK2.out.on b3
  have J3 : IsInts w3 va (daysL ⟨f, ev, 0, un, ds, da, mo, pl, wk⟩ s t) := I3
  have HL : Hid ((daysL ⟨f, ev, 0, un, ds, da, mo, pl, wk⟩ s t).length ≤ 200) := days_len _ _ _
  clear O3 I3 b3 HK2
  have x0 : World.cell? w3 ⟨X, 0, none⟩ = some (.int .i64 f) := (K3.c.2 0 _ rfl).1
  have x1 : World.cell? w3 ⟨X, 1, none⟩ = some (.int .i64 ev) := (K3.c.2 1 _ rfl).1
  have x2 : World.cell? w3 ⟨X, 2, none⟩ = some (.int .i64 0) := (K3.c.2 2 _ rfl).1
  have x3 : World.cell? w3 ⟨X, 3, none⟩ = some (.int .i64 un) := (K3.c.2 3 _ rfl).1
  have x4 : World.cell? w3 ⟨X, 4, none⟩ = some (.slice m.a0 ds.length m.c0) := (K3.c.2 4 _ rfl).1
  have x5 : World.cell? w3 ⟨X, 5, none⟩ = some (.slice m.a1 da.length m.c1) := (K3.c.2 5 _ rfl).1
  have x6 : World.cell? w3 ⟨X, 6, none⟩ = some (.slice m.a2 mo.length m.c2) := (K3.c.2 6 _ rfl).1
  have x7 : World.cell? w3 ⟨X, 7, none⟩ = some (.slice m.a3 pl.length m.c3) := (K3.c.2 7 _ rfl).1
  have x8 : World.cell? w3 ⟨X, 8, none⟩ = some (.int .i64 wk) := (K3.c.2 8 _ rfl).1
  go_wp2_with fail
  refine (specRuleDays ⟨f, ev, 0, un, ds, da, mo, pl, wk⟩ m s t w3 K3.any).mono ?_
  rintro e w4 ⟨⟨v4, rfl, O4⟩, b4⟩
  obtain ⟨vb, vd, rfl, I4, _, _⟩ := O4.val
  have K4 := K3.on b4
  have J4 := J3.below b4
  clear K3 J3 O4 b4 x0 x1 x2 x3 x4 x5 x6 x7 x8
  go_wp2_with fail
  refine (lawEpInts _ _ _ _ _ _ J4 I4 (by have := HL.out; omega)).mono ?_
  rintro e w5 ⟨rfl, b5⟩
  have K5 := K4.on b5
  have J5 := J4.below b5
  clear K4 J4 I4 b5
  clear J5 HL
  have x0 : World.cell? w5 ⟨X, 0, none⟩ = some (.int .i64 f) := (K5.c.2 0 _ rfl).1
  have x1 : World.cell? w5 ⟨X, 1, none⟩ = some (.int .i64 ev) := (K5.c.2 1 _ rfl).1
  have x2 : World.cell? w5 ⟨X, 2, none⟩ = some (.int .i64 0) := (K5.c.2 2 _ rfl).1
  have x3 : World.cell? w5 ⟨X, 3, none⟩ = some (.int .i64 un) := (K5.c.2 3 _ rfl).1
  have x4 : World.cell? w5 ⟨X, 4, none⟩ = some (.slice m.a0 ds.length m.c0) := (K5.c.2 4 _ rfl).1
  have x5 : World.cell? w5 ⟨X, 5, none⟩ = some (.slice m.a1 da.length m.c1) := (K5.c.2 5 _ rfl).1
  have x6 : World.cell? w5 ⟨X, 6, none⟩ = some (.slice m.a2 mo.length m.c2) := (K5.c.2 6 _ rfl).1
  have x7 : World.cell? w5 ⟨X, 7, none⟩ = some (.slice m.a3 pl.length m.c3) := (K5.c.2 7 _ rfl).1
  have x8 : World.cell? w5 ⟨X, 8, none⟩ = some (.int .i64 wk) := (K5.c.2 8 _ rfl).1
  have f3 : World.frozen? w5 ⟨X, 3, none⟩ = false := (K5.c.2 3 _ rfl).2
  have KS6 : Hid (RQ w X (⟨f, ev, 0, 0, ds, da, mo, pl, wk⟩ : Rl) m (w5.setCell ⟨X, 3, none⟩ (.int .i64 0))) := RQ.put K5 3 (.int .i64 0) (by omega) rfl rfl rfl rfl rfl
  go_wp2_with fail
  generalize w5.setCell ⟨X, 3, none⟩ (.int .i64 0) = W6 at *
  clear x0 x1 x2 x3 x4 x5 x6 x7 x8 f3
  refine (implRuleDays ⟨f, ev, 0, 0, ds, da, mo, pl, wk⟩ m s t W6 KS6.out.any).mono ?_
  rintro e w6 ⟨⟨v6, rfl, O6⟩, b6⟩
  obtain ⟨ya, yc, rfl, I6, hc6, _⟩ := O6.val
  have hX6 := KS6.out.c.1
  have K6 := KS6.out.on b6
  have HL6 : Hid (List.length (daysL (⟨f, ev, 0, 0, ds, da, mo, pl, wk⟩ : Rl) s t) ≤ 200) := days_len _ _ _
  clear I6 b6 KS6 K5
  have n0 : 0 ≤ (len' : Int) % 9 := by omega
  have n1 : (len' : Int) % 9 ≤ 8 := by omega
  have g1 := IntWalk.i64_in (1 + (len' : Int) % 9) (by omega)
  obtain ⟨C, hcc⟩ : ∃ C : Nat, 1 + (len' : Int) % 9 = (C : Int) := ⟨(1 + (len' : Int) % 9).toNat, by omega⟩
  have HCC : Hid (1 + (len' : Int) % 9 = (C : Int)) := hcc
  have c0 : 1 ≤ (C : Int) := by omega
  have c1 : (C : Int) ≤ 9 := by omega
  clear hcc
  have HE : Hid (daysL (⟨f, ev, (C : Int), 0, ds, da, mo, pl, wk⟩ : Rl) s t = List.take C (daysL (⟨f, ev, 0, 0, ds, da, mo, pl, wk⟩ : Rl) s t)) := by have q := count_law (f := f) (ev := ev) (ds := ds) (da := da) (mo := mo) (pl := pl) (wk := wk) (s := s) (t := t) c0 c1; unfold Hid; simpa using q
  have x0 : World.cell? w6 ⟨X, 0, none⟩ = some (.int .i64 f) := (K6.c.2 0 _ rfl).1
  have x1 : World.cell? w6 ⟨X, 1, none⟩ = some (.int .i64 ev) := (K6.c.2 1 _ rfl).1
  have x2 : World.cell? w6 ⟨X, 2, none⟩ = some (.int .i64 0) := (K6.c.2 2 _ rfl).1
  have x3 : World.cell? w6 ⟨X, 3, none⟩ = some (.int .i64 0) := (K6.c.2 3 _ rfl).1
  have x4 : World.cell? w6 ⟨X, 4, none⟩ = some (.slice m.a0 ds.length m.c0) := (K6.c.2 4 _ rfl).1
  have x5 : World.cell? w6 ⟨X, 5, none⟩ = some (.slice m.a1 da.length m.c1) := (K6.c.2 5 _ rfl).1
  have x6 : World.cell? w6 ⟨X, 6, none⟩ = some (.slice m.a2 mo.length m.c2) := (K6.c.2 6 _ rfl).1
  have x7 : World.cell? w6 ⟨X, 7, none⟩ = some (.slice m.a3 pl.length m.c3) := (K6.c.2 7 _ rfl).1
  have x8 : World.cell? w6 ⟨X, 8, none⟩ = some (.int .i64 wk) := (K6.c.2 8 _ rfl).1
  have f2 : World.frozen? w6 ⟨X, 2, none⟩ = false := (K6.c.2 2 _ rfl).2
  have KS7 : Hid (RQ w X (⟨f, ev, (1 + (len' : Int) % 9), 0, ds, da, mo, pl, wk⟩ : Rl) m (w6.setCell ⟨X, 2, none⟩ (.int .i64 (1 + (len' : Int) % 9)))) := RQ.put K6 2 (.int .i64 (1 + (len' : Int) % 9)) (by omega) rfl rfl rfl rfl rfl
  have J6s : Hid (IsInts (w6.setCell ⟨X, 2, none⟩ (.int .i64 (1 + (len' : Int) % 9))) ya (daysL (⟨f, ev, 0, 0, ds, da, mo, pl, wk⟩ : Rl) s t)) := (O6.keep fun k hk => Below.heap_setCell _ _ _ _ (by have := (O6.lt k hk).1; show k ≠ X; omega)).ints
  clear O6
  go_wp2_with fail
  generalize w6.setCell ⟨X, 2, none⟩ (.int .i64 (1 + (len' : Int) % 9)) = W7 at *
  clear x0 x1 x2 x3 x4 x5 x6 x7 x8 f2
  refine (implRuleDays ⟨f, ev, (1 + (len' : Int) % 9), 0, ds, da, mo, pl, wk⟩ m s t W7 KS7.out.any).mono ?_
  rintro e w7 ⟨⟨v7, rfl, O7⟩, b7⟩
  rw [HCC.out] at O7
  rw [HE.out] at O7
  have K7 := KS7.out.on b7
  have J7 : Hid (IsInts w7 ya (daysL (⟨f, ev, 0, 0, ds, da, mo, pl, wk⟩ : Rl) s t)) := J6s.out.below b7
  have y2 : World.cell? w7 ⟨X, 2, none⟩ = some (.int .i64 (C : Int)) := by rw [← HCC.out]; exact (K7.c.2 2 _ rfl).1
  have HB7 : Hid (Below w.heap.size w w7) := K7.bel
  clear b7 KS7 J6s K7 K6
  generalize (daysL (⟨f, ev, 0, 0, ds, da, mo, pl, wk⟩ : Rl) s t) = L1 at *
  by_cases hgt : (C : Int) < (L1.length : Int)
  · have hlen : (L1.take C).length = C := by rw [List.length_take]; omega
    obtain ⟨za, zc, hv7, I7, _, _⟩ := O7.val
    rw [hlen] at hv7
    subst hv7
    have hcap : (C : Int) ≤ (yc : Int) := by omega
    have hC0 : (0 : Int) ≤ (C : Int) := by omega
    have EP := lawEpInts za ya zc yc (L1.take C) w7 I7 (ints_take J7.out C) (by omega)
    rw [hlen] at EP
    clear O7 I7 HE
    go_wp2_with fail
    refine EP.mono ?_
    rintro e w8 ⟨rfl, b8⟩
    have B8 := bstep HB7.out b8
    clear b8 EP
    go_wp2
    go_ret
    exact ⟨rfl, B8⟩
  · have ht1 : L1.take C = L1 := List.take_of_length_le (by omega)
    rw [ht1] at O7
    obtain ⟨za, zc, hv7, I7, _, _⟩ := O7.val
    subst hv7
    have hcap : (L1.length : Int) ≤ (yc : Int) := by omega
    have hC0 : (0 : Int) ≤ (L1.length : Int) := by omega
    have EP := lawEpInts za ya zc yc L1 w7 I7 J7.out (by have := HL6.out; omega)
    clear O7 I7 HE
    go_wp2_with fail
    refine EP.mono ?_
    rintro e w8 ⟨rfl, b8⟩
    have B8 := bstep HB7.out b8
    clear b8 EP
    go_wp2
    go_ret
    exact ⟨rfl, B8⟩
end Go.Proofs.YtlfglhpepoepcaaDoor
