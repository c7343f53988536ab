/- Lists of numbers held against each other. -/
import Derived.Test.YtlfglhpepoepcaaDoorOi
import Derived.Test.YtlfglhpepoepcaaDoorJWi
import Derived.Test.YtlfglhpepoepcaaDoorJWa
namespace Go.Proofs.YtlfglhpepoepcaaDoor
open Go.RowKit
set_option linter.unusedVariables false
set_option maxHeartbeats 2000000 in
theorem lawEpInts (a a' : Option Addr) (cap cap' : Nat) (l : List Int) (w : World) (h : IsInts w a l) (h' : IsInts w a' l) (hl : l.length ≤ 4000000) :
    Calls Tryd.prog 19 #[.slice a l.length cap, .slice a' l.length cap'] w fun e w' => e = .returned (.bool true) ∧ Below w.heap.size w w' := by
  have H1 : Hid (IsInts w a l) := h
  have H2 : Hid (IsInts w a' l) := h'
  clear h h'
  go_enter Tryd.func19, Tryd.ntmps19
  go_wp2
  go_loopw [5] (fun i wr => ∃ k : Nat, k ≤ l.length ∧ i = .int .i64 k ∧ Below w.heap.size w wr) (fun i _ => l.length - (intOf i).toNat)
  case atStart => exact ⟨0, by omega, rfl, Below.refl _ _⟩
  case round =>
    obtain ⟨k, hk, rfl, hb⟩ := hrel
    by_cases hlt : k < l.length
    · have G1 := H1.out
      have G2 := H2.out
      rcases G1 with G1 | ⟨b, o, rfl, hbs, hc⟩
      · rw [G1] at hlt; simp at hlt
      rcases G2 with G2 | ⟨b', o', rfl, hbs', hc'⟩
      · rw [G2] at hlt; simp at hlt
      have c0 : wr.cell? ⟨b, o + k, none⟩ = some (.int .i64 (gi l k)) := by rw [hb.cell (p := ⟨b, o + k, none⟩) hbs]; exact hc k hlt
      have c1 : wr.cell? ⟨b', o' + k, none⟩ = some (.int .i64 (gi l k)) := by rw [hb.cell (p := ⟨b', o' + k, none⟩) hbs']; exact hc' k hlt
      clear hc hc'
      have hi1 : (k : Int) < (l.length : Int) := by omega
      have hi0 : (0 : Int) ≤ (k : Int) := by omega
      go_wp2
      go_quiet (fail)
      go_wp2
      go_roundw
      case rel => exact ⟨k + 1, by omega, by go_num, Below.drewN' hb _⟩
      case measure => simp [intOf]; omega
    · go_wp2
      go_ret
      exact ⟨rfl, hb⟩
end Go.Proofs.YtlfglhpepoepcaaDoor
namespace Go.Proofs.YtlfglhpepoepcaaDoor
open Go.RowKit
set_option linter.unusedVariables false
structure RR (w : World) (X : Nat) (r : Rl) (m : Rm) (W : World) : Prop where
  c : CF W X (rcs r m)
  any : RAny W r m
  bel : Below w.heap.size w W
theorem RR.on {w W W' : World} {X : Nat} {r : Rl} {m : Rm} (h : RR w X r m W) (hb : Below W.heap.size W W') : RR w X r m W' := ⟨h.c.below hb, h.any.on hb, bstep h.bel hb⟩
structure RW (w : World) (X : Nat) (r : Rl) (m : Rm) (a : Option Addr) (L : List Int) (W : World) : Prop where
  k : RR w X r m W
  l : IsInts W a L
theorem RW.on {w W W' : World} {X : Nat} {r : Rl} {m : Rm} {a : Option Addr} {L : List Int} (h : RW w X r m a L W) (hb : Below W.heap.size W W') : RW w X r m a L W' := ⟨h.k.on hb, h.l.below hb⟩
theorem any_of {w W : World} {B : Nat} {r : Rl} {m : Rm} (h : OL B r m W) (sm : Sml 4 r) (ht : Tab W) : RAny W r m := ⟨by have := sm.1; omega, by have := sm.2.1; omega, by have := sm.2.2.1; omega, by have := sm.2.2.2; omega, h.mem, ht⟩
theorem IsInts.cell {w : World} {a : Option Addr} {l : List Int} (h : IsInts w a l) (hl : 0 < l.length) : ∃ b off, a = some ⟨b, off, none⟩ ∧ b < w.heap.size ∧ ∀ i, i < l.length → w.cell? ⟨b, off + i, none⟩ = some (.int .i64 (gi l i)) := by
  rcases h with h | h
  · rw [h] at hl; simp at hl
  · exact h
theorem may_same {r : Rl} {s t t' : Int} (hs : 0 ≤ s) (ht : t ≤ 3652058) (hd : t - s ≤ 11000) (h : t' ≤ t) : mayB r s t = true ∨ mayB r s t' = false := by
  cases hm : mayB r s t with
  | true => exact .inl rfl
  | false =>
    right
    cases hm' : mayB r s t' with
    | false => rfl
    | true =>
      obtain ⟨a, b, c, d⟩ := may_ok hm'
      have : mayB r s t = true := by
        unfold mayB at hm' ⊢
        simp only [Bool.and_eq_true, decide_eq_true_eq] at hm' ⊢
        exact ⟨hm'.1, hm'.2.1, (in_iff _ _ _).2 ⟨by omega, ht⟩, hd⟩
      rw [hm] at this; cases this
theorem gi_take {l : List Int} {n i : Nat} (h : i < n) (h2 : i < l.length) : gi (l.take n) i = gi l i := by unfold gi; simp [h, h2]
theorem ints_take {w : World} {a : Option Addr} {l : List Int} (h : IsInts w a l) (n : Nat) : IsInts w a (l.take n) := by
  rcases h with h | ⟨b, off, h1, h2, h3⟩
  · left; rw [h]; simp
  · refine .inr ⟨b, off, h1, h2, fun i hi => ?_⟩
    have h4 : i < n ∧ i < l.length := by rw [List.length_take] at hi; omega
    rw [gi_take h4.1 h4.2]; exact h3 i h4.2
theorem pre_eq {l m : List Int} (h : l <+: m) : m.take l.length = l := by
  obtain ⟨k, rfl⟩ := h
  simp
end Go.Proofs.YtlfglhpepoepcaaDoor
namespace Go.Proofs.YtlfglhpepoepcaaDoor
open Go.RowKit
set_option linter.unusedVariables false
set_option maxRecDepth 100000 in
set_option maxHeartbeats 16000000 in
theorem lawRuleDays (a : Option Addr) (len cap : Nat) (a' : Option Addr) (len' cap' : Nat) (w : World) (h : IsCode w a len cap) (h' : IsCode w a' len' cap') (ht : Tab w) :
    Calls Tryd.prog 3 #[.slice a len cap, .slice a' len' cap'] w fun e w' => e = .returned (.bool true) ∧ Below w.heap.size w w' := by
  have hlen := h.1
  have hlen' := h'.1
  clear h'
  have HTB : Hid (Tab w) := ht
  clear ht
  by_cases hl : (len : Int) > 1048576
  · go_enter Tryd.func3, Tryd.ntmps3
    go_wp2
    go_ret
    exact ⟨rfl, Below.refl _ _⟩
  by_cases hl' : (len' : Int) > 1048576
  · go_enter Tryd.func3, Tryd.ntmps3
    go_wp2
    go_ret
    exact ⟨rfl, Below.refl _ _⟩
  go_enter Tryd.func3, Tryd.ntmps3
  go_wp2_with fail
  refine (drawRuleDays w a len cap h).mono ?_
  rintro e w1 ⟨r, m, s, t, rfl, O1, sm, sb, tb, b1⟩
  have hrc : rcs r m = #[.int .i64 r.f, .int .i64 r.ev, .int .i64 r.ct, .int .i64 r.un, .slice m.a0 r.ds.length m.c0, .slice m.a1 r.da.length m.c1, .slice m.a2 r.mo.length m.c2, .slice m.a3 r.pl.length m.c3, .int .i64 r.wk] := rfl
  rw [hrc]
  clear hrc h
  have bA : Below w1.heap.size w1 (w1.alloc (.cells #[.int .i64 r.f, .int .i64 r.ev, .int .i64 r.ct, .int .i64 r.un, .slice m.a0 r.ds.length m.c0, .slice m.a1 r.da.length m.c1, .slice m.a2 r.mo.length m.c2, .slice m.a3 r.pl.length m.c3, .int .i64 r.wk] 26)) := (Below.refl _ _).alloc (Nat.le_refl _) _
  have K2 : RR w w1.heap.size r m (w1.alloc (.cells #[.int .i64 r.f, .int .i64 r.ev, .int .i64 r.ct, .int .i64 r.un, .slice m.a0 r.ds.length m.c0, .slice m.a1 r.da.length m.c1, .slice m.a2 r.mo.length m.c2, .slice m.a3 r.pl.length m.c3, .int .i64 r.wk] 26)) := ⟨CF.new _ _ _, (any_of (w := w) O1 sm (HTB.out.on b1)).on bA, b1.trans (bA.mono b1.size)⟩
  have HK2 : Hid (RR w w1.heap.size r m (w1.alloc (.cells #[.int .i64 r.f, .int .i64 r.ev, .int .i64 r.ct, .int .i64 r.un, .slice m.a0 r.ds.length m.c0, .slice m.a1 r.da.length m.c1, .slice m.a2 r.mo.length m.c2, .slice m.a3 r.pl.length m.c3, .int .i64 r.wk] 26))) := K2
  have SM : Hid (Sml 4 r) := sm
  clear K2 bA O1 sm b1
  go_wp2_with fail
  generalize w1.alloc (.cells #[.int .i64 r.f, .int .i64 r.ev, .int .i64 r.ct, .int .i64 r.un, .slice m.a0 r.ds.length m.c0, .slice m.a1 r.da.length m.c1, .slice m.a2 r.mo.length m.c2, .slice m.a3 r.pl.length m.c3, .int .i64 r.wk] 26) = W2 at HK2 ⊢
  generalize w1.heap.size = X at HK2 ⊢
  refine (implRuleDays r m s t W2 HK2.out.any).mono ?_
  rintro e w3 ⟨⟨v3, rfl, O3⟩, b3⟩
  obtain ⟨va, vc, rfl, I3, _, _⟩ := O3.val
  have K3 : RW w X r m va (daysL r s t) w3 := ⟨HK2.out.on b3, I3⟩
  have HL : Hid ((daysL r s t).length ≤ 200) := days_len _ _ _
  clear O3 I3 b3 HK2
  have x0 : World.cell? w3 ⟨X, 0, none⟩ = some (.int .i64 r.f) := (K3.k.c.2 0 _ rfl).1
  have x1 : World.cell? w3 ⟨X, 1, none⟩ = some (.int .i64 r.ev) := (K3.k.c.2 1 _ rfl).1
  have x2 : World.cell? w3 ⟨X, 2, none⟩ = some (.int .i64 r.ct) := (K3.k.c.2 2 _ rfl).1
  have x3 : World.cell? w3 ⟨X, 3, none⟩ = some (.int .i64 r.un) := (K3.k.c.2 3 _ rfl).1
  have x4 : World.cell? w3 ⟨X, 4, none⟩ = some (.slice m.a0 r.ds.length m.c0) := (K3.k.c.2 4 _ rfl).1
  have x5 : World.cell? w3 ⟨X, 5, none⟩ = some (.slice m.a1 r.da.length m.c1) := (K3.k.c.2 5 _ rfl).1
  have x6 : World.cell? w3 ⟨X, 6, none⟩ = some (.slice m.a2 r.mo.length m.c2) := (K3.k.c.2 6 _ rfl).1
  have x7 : World.cell? w3 ⟨X, 7, none⟩ = some (.slice m.a3 r.pl.length m.c3) := (K3.k.c.2 7 _ rfl).1
  have x8 : World.cell? w3 ⟨X, 8, none⟩ = some (.int .i64 r.wk) := (K3.k.c.2 8 _ rfl).1
  go_wp2_with fail
  refine (specRuleDays r m s t w3 K3.k.any).mono ?_
  rintro e w4 ⟨⟨v4, rfl, O4⟩, b4⟩
  obtain ⟨vb, vd, rfl, I4, _, _⟩ := O4.val
  have K4 := K3.on b4
  clear K3 O4 b4 x0 x1 x2 x3 x4 x5 x6 x7 x8
  go_wp2_with fail
  refine (lawEpInts _ _ _ _ _ _ K4.l I4 (by have := HL.out; omega)).mono ?_
  rintro e w5 ⟨rfl, b5⟩
  have K5 := K4.on b5
  clear K4 I4 b5
  have HB5 : Hid (RW w X r m va (daysL r s t) w5) := K5
  clear K5
  go_wp2
  go_loopw [9] (fun i wr => ∃ k : Nat, k ≤ (daysL r s t).length ∧ i = .int .i64 k ∧ Below w5.heap.size w5 wr) (fun i _ => (daysL r s t).length - (intOf i).toNat)
  case atStart => exact ⟨0, by omega, rfl, Below.refl _ _⟩
  case round =>
    obtain ⟨k, hk, rfl, hb⟩ := hrel
    have K := HB5.out.on hb
    by_cases hlt : k < (daysL r s t).length
    · obtain ⟨b, off, rfl, hbs, hc⟩ := K.l.cell (by omega)
      have hn : ((daysL r s t).length : Int) ≤ 200 := by have := HL.out; omega
      have bd := days_bd (gi_mem hlt)
      have e0 := hc k hlt
      have x3 : World.cell? wr ⟨X, 3, none⟩ = some (.int .i64 r.un) := (K.k.c.2 3 _ rfl).1
      have hi0 : (0 : Int) ≤ (k : Int) := by omega
      have hi1 : (k : Int) < ((daysL r s t).length : Int) := by omega
      have n0 : ¬ gi (daysL r s t) k < s := by omega
      have n1 : ¬ t < gi (daysL r s t) k := by omega
      by_cases hz : k = 0
      · subst hz
        rw [Nat.add_zero] at e0
        have hi2 : (0 : Int) < ((daysL r s t).length : Int) := by omega
        clear hc K
        by_cases hu : 0 < r.un
        · have n2 : ¬ r.un < gi (daysL r s t) 0 := by have := bd.2.2.1 hu; omega
          clear bd
          have d0 := decide_eq_false n0
          have d1 := decide_eq_false n1
          have d4 := decide_eq_true hu
          have d5 := decide_eq_false n2
          go_wp2
          refine wp_region_cl (fun w' => w'.cell? ⟨b, off, none⟩ = some (.int .i64 (gi (daysL r s t) 0)) ∧ w'.cell? ⟨b, off, none⟩ = some (.int .i64 (gi (daysL r s t) 0)) ∧ w'.cell? ⟨X, 3, none⟩ = some (.int .i64 r.un) ∧ Below w5.heap.size w5 w') (by kernel_rfl) (by kernel_rfl) ⟨by simpa using e0, by simpa using e0, by simpa using x3, hb.drew⟩ ?_
          clear e0 x3 hb hbs
          repeat (first
            | go_big_quiet_skip
            | (go_big_quiet_want; go_big_quiet_op; go_big_quiet_on)
            | (go_big_quiet_want
               apply Exists.intro
               refine ⟨fun w7 hC7 => ?_, ?_⟩
               · (obtain ⟨e0, e1, x3, _⟩ := hC7
                  go_simp
                  first
                    | done
                    | rfl
                    | exact ⟨rfl, rfl⟩)
               (go_simp; go_big_quiet_on)))
          refine wpQuiet_nil ?_
          intro w7 K7
          have hb := K7.2.2.2
          clear K7
          go_wp2
          go_roundw
          case rel => exact ⟨1, by omega, by go_num, hb⟩
          case measure => simp [intOf]; omega
        · clear bd
          have d0 := decide_eq_false n0
          have d1 := decide_eq_false n1
          have d4 := decide_eq_false hu
          go_wp2
          refine wp_region_cl (fun w' => w'.cell? ⟨b, off, none⟩ = some (.int .i64 (gi (daysL r s t) 0)) ∧ w'.cell? ⟨b, off, none⟩ = some (.int .i64 (gi (daysL r s t) 0)) ∧ w'.cell? ⟨X, 3, none⟩ = some (.int .i64 r.un) ∧ Below w5.heap.size w5 w') (by kernel_rfl) (by kernel_rfl) ⟨by simpa using e0, by simpa using e0, by simpa using x3, hb.drew⟩ ?_
          clear e0 x3 hb hbs
          repeat (first
            | go_big_quiet_skip
            | (go_big_quiet_want; go_big_quiet_op; go_big_quiet_on)
            | (go_big_quiet_want
               apply Exists.intro
               refine ⟨fun w7 hC7 => ?_, ?_⟩
               · (obtain ⟨e0, e1, x3, _⟩ := hC7
                  go_simp
                  first
                    | done
                    | rfl
                    | exact ⟨rfl, rfl⟩)
               (go_simp; go_big_quiet_on)))
          refine wpQuiet_nil ?_
          intro w7 K7
          have hb := K7.2.2.2
          clear K7
          go_wp2
          go_roundw
          case rel => exact ⟨1, by omega, by go_num, hb⟩
          case measure => simp [intOf]; omega
      · obtain ⟨j, rfl⟩ : ∃ j, k = j + 1 := ⟨k - 1, by omega⟩
        have e1 : wr.cell? ⟨b, off + j, none⟩ = some (.int .i64 (gi (daysL r s t) j)) := hc j (by omega)
        have z0 : (0 : Int) < ((j + 1 : Nat) : Int) := by omega
        have q2 := IntWalk.i64_in ((j : Int) + 1 - 1) (by omega)
        have hj1 : (j : Int) < ((daysL r s t).length : Int) := by omega
        have q3 := IntWalk.i64_in (j : Int) (by omega)
        have q4 : (((j + 1 : Nat) : Int)) - 1 = (j : Int) := by omega
        have q6 : ((j : Int) + 1) - 1 = (j : Int) := by omega
        have hj0 : (0 : Int) ≤ (j : Int) := by omega
        have up := days_gi_lt (r := r) (s := s) (d := t) (i := j) (by omega)
        have n3 : ¬ gi (daysL r s t) (j + 1) ≤ gi (daysL r s t) j := by omega
        clear hc K up
        by_cases hu : 0 < r.un
        · have n2 : ¬ r.un < gi (daysL r s t) (j + 1) := by have := bd.2.2.1 hu; omega
          clear bd
          have d0 := decide_eq_false n0
          have d1 := decide_eq_false n1
          have d2 := decide_eq_true z0
          have d3 := decide_eq_false n3
          have d4 := decide_eq_true hu
          have d5 := decide_eq_false n2
          go_wp2
          refine wp_region_cl (fun w' => w'.cell? ⟨b, off + (j + 1), none⟩ = some (.int .i64 (gi (daysL r s t) (j + 1))) ∧ w'.cell? ⟨b, off + j, none⟩ = some (.int .i64 (gi (daysL r s t) j)) ∧ w'.cell? ⟨X, 3, none⟩ = some (.int .i64 r.un) ∧ Below w5.heap.size w5 w') (by kernel_rfl) (by kernel_rfl) ⟨by simpa using e0, by simpa using e1, by simpa using x3, hb.drew⟩ ?_
          clear e0 e1 x3 hb hbs
          repeat (first
            | go_big_quiet_skip
            | (go_big_quiet_want; go_big_quiet_op; go_big_quiet_on)
            | (go_big_quiet_want
               apply Exists.intro
               refine ⟨fun w7 hC7 => ?_, ?_⟩
               · (obtain ⟨e0, e1, x3, _⟩ := hC7
                  go_simp
                  first
                    | done
                    | rfl
                    | exact ⟨rfl, rfl⟩)
               (go_simp; go_big_quiet_on)))
          refine wpQuiet_nil ?_
          intro w7 K7
          have hb := K7.2.2.2
          clear K7
          go_wp2
          go_roundw
          case rel => exact ⟨j + 1 + 1, by omega, by go_num, hb⟩
          case measure => simp [intOf]; omega
        · clear bd
          have d0 := decide_eq_false n0
          have d1 := decide_eq_false n1
          have d2 := decide_eq_true z0
          have d3 := decide_eq_false n3
          have d4 := decide_eq_false hu
          go_wp2
          refine wp_region_cl (fun w' => w'.cell? ⟨b, off + (j + 1), none⟩ = some (.int .i64 (gi (daysL r s t) (j + 1))) ∧ w'.cell? ⟨b, off + j, none⟩ = some (.int .i64 (gi (daysL r s t) j)) ∧ w'.cell? ⟨X, 3, none⟩ = some (.int .i64 r.un) ∧ Below w5.heap.size w5 w') (by kernel_rfl) (by kernel_rfl) ⟨by simpa using e0, by simpa using e1, by simpa using x3, hb.drew⟩ ?_
          clear e0 e1 x3 hb hbs
          repeat (first
            | go_big_quiet_skip
            | (go_big_quiet_want; go_big_quiet_op; go_big_quiet_on)
            | (go_big_quiet_want
               apply Exists.intro
               refine ⟨fun w7 hC7 => ?_, ?_⟩
               · (obtain ⟨e0, e1, x3, _⟩ := hC7
                  go_simp
                  first
                    | done
                    | rfl
                    | exact ⟨rfl, rfl⟩)
               (go_simp; go_big_quiet_on)))
          refine wpQuiet_nil ?_
          intro w7 K7
          have hb := K7.2.2.2
          clear K7
          go_wp2
          go_roundw
          case rel => exact ⟨j + 1 + 1, by omega, by go_num, hb⟩
          case measure => simp [intOf]; omega
    · have hkk : k = (daysL r s t).length := by omega
      subst hkk
      have hn : ((daysL r s t).length : Int) ≤ 200 := by have := HL.out; omega
      have n0 : ¬ (200 : Int) < ((daysL r s t).length : Int) := by omega
      have x2 : World.cell? wr ⟨X, 2, none⟩ = some (.int .i64 r.ct) := (K.k.c.2 2 _ rfl).1
      have g0 := IntWalk.i64_in (t - s) (by omega)
      have HK : Hid (RW w X r m va (daysL r s t) wr) := K
      have HCT : Hid (0 < r.ct → ((daysL r s t).length : Int) ≤ r.ct) := days_ct
      by_cases hbad : s < 0 ∨ 3652058 < t ∨ 11000 < t - s
      · have Bf := K.k.bel
        clear K
        by_cases hct : 0 < r.ct
        · have c1 : ¬ r.ct < ((daysL r s t).length : Int) := by have := HCT.out hct; omega
          have c2 : ((daysL r s t).length : Int) ≤ r.ct := HCT.out hct
          have c3 : ¬ r.ct < 1 := by omega
          by_cases h1 : s < 0
          · go_wp2
            go_ret
            exact ⟨rfl, Bf⟩
          · by_cases h2 : 3652058 < t
            · exact absurd h2 (by omega)
            · have h3 : 11000 < t - s := by omega
              go_wp2
              go_ret
              exact ⟨rfl, Bf⟩
        · have c3 : r.ct < 1 := by omega
          by_cases h1 : s < 0
          · go_wp2
            go_ret
            exact ⟨rfl, Bf⟩
          · by_cases h2 : 3652058 < t
            · exact absurd h2 (by omega)
            · have h3 : 11000 < t - s := by omega
              go_wp2
              go_ret
              exact ⟨rfl, Bf⟩
      · have h1 : ¬ s < 0 := by omega
        have h2 : ¬ 3652058 < t := by omega
        have h3 : ¬ 11000 < t - s := by omega
        have hm0 : 0 ≤ (len' : Int) % 60 := by omega
        have hm1 : (len' : Int) % 60 < 60 := by omega
        have g4 := IntWalk.i64_in (t - (len' : Int) % 60) (by omega)
        have HP : Hid (daysL r s (t - (len' : Int) % 60) <+: daysL r s t) := days_pre (may_same (by omega) (by omega) (by omega) (by omega)) (by omega)
        have y0 : World.cell? wr ⟨X, 0, none⟩ = some (.int .i64 r.f) := (K.k.c.2 0 _ rfl).1
        have y1 : World.cell? wr ⟨X, 1, none⟩ = some (.int .i64 r.ev) := (K.k.c.2 1 _ rfl).1
        have y2 : World.cell? wr ⟨X, 2, none⟩ = some (.int .i64 r.ct) := (K.k.c.2 2 _ rfl).1
        have y3 : World.cell? wr ⟨X, 3, none⟩ = some (.int .i64 r.un) := (K.k.c.2 3 _ rfl).1
        have y4 : World.cell? wr ⟨X, 4, none⟩ = some (.slice m.a0 r.ds.length m.c0) := (K.k.c.2 4 _ rfl).1
        have y5 : World.cell? wr ⟨X, 5, none⟩ = some (.slice m.a1 r.da.length m.c1) := (K.k.c.2 5 _ rfl).1
        have y6 : World.cell? wr ⟨X, 6, none⟩ = some (.slice m.a2 r.mo.length m.c2) := (K.k.c.2 6 _ rfl).1
        have y7 : World.cell? wr ⟨X, 7, none⟩ = some (.slice m.a3 r.pl.length m.c3) := (K.k.c.2 7 _ rfl).1
        have y8 : World.cell? wr ⟨X, 8, none⟩ = some (.int .i64 r.wk) := (K.k.c.2 8 _ rfl).1
        clear K y2
        by_cases hct : 0 < r.ct
        · have c1 : ¬ r.ct < ((daysL r s t).length : Int) := by have := HCT.out hct; omega
          go_wp2_with fail
          refine (implRuleDays r m s (t - (len' : Int) % 60) wr HK.out.k.any).mono ?_
          rintro e w7 ⟨⟨v7, rfl, O7⟩, b7⟩
          obtain ⟨za, zc, rfl, I7, _, _⟩ := O7.val
          have K7 := HK.out.on b7
          have lp := HP.out.length_le
          have HE : Hid ((daysL r s t).take (daysL r s (t - (len' : Int) % 60)).length = daysL r s (t - (len' : Int) % 60)) := pre_eq HP.out
          clear O7 b7 y0 y1 y3 y4 y5 y6 y7 y8 x2
          have lp1 : ((daysL r s (t - (len' : Int) % 60)).length : Int) ≤ ((daysL r s t).length : Int) := by omega
          have I8 : IsInts w7 va (daysL r s (t - (len' : Int) % 60)) := by rw [← HE.out]; exact ints_take K7.l _
          have HI7 : Hid (IsInts w7 za (daysL r s (t - (len' : Int) % 60))) := I7
          have HI8 : Hid (IsInts w7 va (daysL r s (t - (len' : Int) % 60))) := I8
          have HB7 := Hid.mk' K7.k.bel
          clear K7 I7 I8
          go_wp2_with fail
          refine (lawEpInts _ _ _ _ _ _ HI7.out HI8.out (by omega)).mono ?_
          rintro e w8 ⟨rfl, b8⟩
          have B8 := bstep HB7.out b8
          clear b8
          go_wp2
          go_ret
          exact ⟨rfl, B8⟩
        · skip
          go_wp2_with fail
          refine (implRuleDays r m s (t - (len' : Int) % 60) wr HK.out.k.any).mono ?_
          rintro e w7 ⟨⟨v7, rfl, O7⟩, b7⟩
          obtain ⟨za, zc, rfl, I7, _, _⟩ := O7.val
          have K7 := HK.out.on b7
          have lp := HP.out.length_le
          have HE : Hid ((daysL r s t).take (daysL r s (t - (len' : Int) % 60)).length = daysL r s (t - (len' : Int) % 60)) := pre_eq HP.out
          clear O7 b7 y0 y1 y3 y4 y5 y6 y7 y8 x2
          have lp1 : ((daysL r s (t - (len' : Int) % 60)).length : Int) ≤ ((daysL r s t).length : Int) := by omega
          have I8 : IsInts w7 va (daysL r s (t - (len' : Int) % 60)) := by rw [← HE.out]; exact ints_take K7.l _
          have HI7 : Hid (IsInts w7 za (daysL r s (t - (len' : Int) % 60))) := I7
          have HI8 : Hid (IsInts w7 va (daysL r s (t - (len' : Int) % 60))) := I8
          have HB7 := Hid.mk' K7.k.bel
          clear K7 I7 I8
          go_wp2_with fail
          refine (lawEpInts _ _ _ _ _ _ HI7.out HI8.out (by omega)).mono ?_
          rintro e w8 ⟨rfl, b8⟩
          have B8 := bstep HB7.out b8
          clear b8
          go_wp2
          go_ret
          exact ⟨rfl, B8⟩
end Go.Proofs.YtlfglhpepoepcaaDoor
