/- Lists of numbers held against each other. -/
import Derived.Test.YtlfglhpepoepcaaDoorOi
import Derived.Test.YtlfglhpepoepcaaDoorJWi
import Derived.Test.YtlfglhpepoepcaaDoorJWa
namespace Go.Proofs.YtlfglhpepoepcaaDoor
open Go.RowKit
set_option linter.unusedVariables false
set_option maxHeartbeats 2000000 in
theorem lawEpInts (a a' : Option Addr) (cap cap' : Nat) (l : List Int) (w : World) (h : IsInts w a l) (h' : IsInts w a' l) (hl : l.length ≤ 4000000) :
    Calls Tryd.prog 19 #[.slice a l.length cap, .slice a' l.length cap'] w fun e w' => e = .returned (.bool true) ∧ Below w.heap.size w w' := by
  have H1 : Hid (IsInts w a l) := h
  have H2 : Hid (IsInts w a' l) := h'
  clear h h'
  go_enter Tryd.func19, Tryd.ntmps19
  go_wp2
  go_loopw [5] (fun i wr => ∃ k : Nat, k ≤ l.length ∧ i = .int .i64 k ∧ Below w.heap.size w wr) (fun i _ => l.length - (intOf i).toNat)
  case atStart => exact ⟨0, by omega, rfl, Below.refl _ _⟩
  case round =>
    obtain ⟨k, hk, rfl, hb⟩ := hrel
    by_cases hlt : k < l.length
    · have G1 := H1.out
      have G2 := H2.out
      rcases G1 with G1 | ⟨b, o, rfl, hbs, hc⟩
      · rw [G1] at hlt; simp at hlt
      rcases G2 with G2 | ⟨b', o', rfl, hbs', hc'⟩
      · rw [G2] at hlt; simp at hlt
      have c0 : wr.cell? ⟨b, o + k, none⟩ = some (.int .i64 (gi l k)) := by rw [hb.cell (p := ⟨b, o + k, none⟩) hbs]; exact hc k hlt
      have c1 : wr.cell? ⟨b', o' + k, none⟩ = some (.int .i64 (gi l k)) := by rw [hb.cell (p := ⟨b', o' + k, none⟩) hbs']; exact hc' k hlt
      clear hc hc'
      have hi1 : (k : Int) < (l.length : Int) := by omega
      have hi0 : (0 : Int) ≤ (k : Int) := by omega
      go_wp2
      go_quiet (fail)
      go_wp2
      go_roundw
      case rel => exact ⟨k + 1, by omega, by go_num, Below.drewN' hb _⟩
      case measure => simp [intOf]; omega
    · go_wp2
      go_ret
      exact ⟨rfl, hb⟩
end Go.Proofs.YtlfglhpepoepcaaDoor
namespace Go.Proofs.YtlfglhpepoepcaaDoor
open Go.RowKit
set_option linter.unusedVariables false
structure RR (w : World) (X : Nat) (r : Rl) (m : Rm) (W : World) : Prop where
  c : CF W X (rcs r m)
  any : RAny W r m
  bel : Below w.heap.size w W
theorem RR.on {w W W' : World} {X : Nat} {r : Rl} {m : Rm} (h : RR w X r m W) (hb : Below W.heap.size W W') : RR w X r m W' := ⟨h.c.below hb, h.any.on hb, bstep h.bel hb⟩
structure RW (w : World) (X : Nat) (r : Rl) (m : Rm) (a : Option Addr) (L : List Int) (W : World) : Prop where
  k : RR w X r m W
  l : IsInts W a L
theorem RW.on {w W W' : World} {X : Nat} {r : Rl} {m : Rm} {a : Option Addr} {L : List Int} (h : RW w X r m a L W) (hb : Below W.heap.size W W') : RW w X r m a L W' := ⟨h.k.on hb, h.l.below hb⟩
theorem any_of {w W : World} {B : Nat} {r : Rl} {m : Rm} (h : OL B r m W) (sm : Sml 4 r) (ht : Tab W) : RAny W r m := ⟨by have := sm.1; omega, by have := sm.2.1; omega, by have := sm.2.2.1; omega, by have := sm.2.2.2; omega, h.mem, ht⟩
theorem IsInts.cell {w : World} {a : Option Addr} {l : List Int} (h : IsInts w a l) (hl : 0 < l.length) : ∃ b off, a = some ⟨b, off, none⟩ ∧ b < w.heap.size ∧ ∀ i, i < l.length → w.cell? ⟨b, off + i, none⟩ = some (.int .i64 (gi l i)) := by
  rcases h with h | h
  · rw [h] at hl; simp at hl
  · exact h
theorem may_same {r : Rl} {s t t' : Int} (hs : 0 ≤ s) (ht : t ≤ 3652058) (hd : t - s ≤ 11000) (h : t' ≤ t) : mayB r s t = true ∨ mayB r s t' = false := by
  cases hm : mayB r s t with
  | true => exact .inl rfl
  | false =>
    right
    cases hm' : mayB r s t' with
    | false => rfl
    | true =>
      obtain ⟨a, b, c, d⟩ := may_ok hm'
      have : mayB r s t = true := by
        unfold mayB at hm' ⊢
        simp only [Bool.and_eq_true, decide_eq_true_eq] at hm' ⊢
        exact ⟨hm'.1, hm'.2.1, (in_iff _ _ _).2 ⟨by omega, ht⟩, hd⟩
      rw [hm] at this; cases this
theorem gi_take {l : List Int} {n i : Nat} (h : i < n) (h2 : i < l.length) : gi (l.take n) i = gi l i := by unfold gi; simp [h, h2]
theorem ints_take {w : World} {a : Option Addr} {l : List Int} (h : IsInts w a l) (n : Nat) : IsInts w a (l.take n) := by
  rcases h with h | ⟨b, off, h1, h2, h3⟩
  · left; rw [h]; simp
  · refine .inr ⟨b, off, h1, h2, fun i hi => ?_⟩
    have h4 : i < n ∧ i < l.length := by rw [List.length_take] at hi; omega
    rw [gi_take h4.1 h4.2]; exact h3 i h4.2
theorem pre_eq {l m : List Int} (h : l <+: m) : m.take l.length = l := by
  obtain ⟨k, rfl⟩ := h
  simp
end Go.Proofs.YtlfglhpepoepcaaDoor
namespace Go.Proofs.YtlfglhpepoepcaaDoor
open Go.RowKit
set_option linter.unusedVariables false
theorem specOk_ol {B : Nat} {r : Rl} {m : Rm} {w : World} (h : OL B r m w) (sm : Sml 4 r) :
    Calls Tryd.prog 28 #[.agg #[.int .i64 r.f, .int .i64 r.ev, .int .i64 r.ct, .int .i64 r.un, .slice m.a0 r.ds.length m.c0, .slice m.a1 r.da.length m.c1, .slice m.a2 r.mo.length m.c2, .slice m.a3 r.pl.length m.c3, .int .i64 r.wk]] w fun z w' => z = .returned (.bool (ruOf r)) ∧ Below w.heap.size w w' :=
  specRuleOk _ _ _ _ _ _ _ _ _ _ _ _ _ _ _ _ _ w h.mem.t h.mem.d h.mem.o h.mem.p (by have := sm.1; omega) (by have := sm.2.1; omega) (by have := sm.2.2.1; omega) (by have := sm.2.2.2; omega)
theorem days_twenty (r : Rl) (s t : Int) : ((comes r s (limT r t)).take (mostT r 20).toNat).length ≤ 20 := by
  rw [List.length_take]; unfold mostT; split <;> omega
theorem days_near {r : Rl} {s t x : Int} (h : x ∈ (comes r s (limT r t)).take (mostT r 20).toNat) : s ≤ x ∧ x ≤ t := by
  have := comes_mem (List.mem_of_mem_take h)
  have := lim_le r t
  omega
set_option maxRecDepth 100000 in
set_option maxHeartbeats 16000000 in
theorem drawRuleOn (w : World) (a : Option Addr) (len cap : Nat) (h : IsCode w a len cap) :
    Calls Tryd.prog 21 #[.slice a len cap] w fun e w' => ∃ r m s t, e = .returned (.tuple #[.agg (rcs r m), .int .i64 s, .int .i64 t]) ∧ OL w.heap.size r m w' ∧ Sml 4 r ∧ (0 ≤ s ∧ s ≤ 3652058) ∧ (0 ≤ t ∧ t ≤ 800000) ∧ Below w.heap.size w w' := by
  have bz : Below w.heap.size w (w.alloc (.cells (rcs ⟨0, 0, 0, 0, [], [], [], [], 0⟩ ⟨none, 0, none, 0, none, 0, none, 0⟩) 26)) := (Below.refl _ _).alloc (Nat.le_refl _) _
  have h0 : IsCode (w.alloc (.cells (rcs ⟨0, 0, 0, 0, [], [], [], [], 0⟩ ⟨none, 0, none, 0, none, 0, none, 0⟩) 26)) a len cap := h.below bz
  have Z0 : CF (w.alloc (.cells (rcs ⟨0, 0, 0, 0, [], [], [], [], 0⟩ ⟨none, 0, none, 0, none, 0, none, 0⟩) 26)) w.heap.size (rcs ⟨0, 0, 0, 0, [], [], [], [], 0⟩ ⟨none, 0, none, 0, none, 0, none, 0⟩) := CF.new w _ _
  have S0 : Hid ((w.alloc (.cells (rcs ⟨0, 0, 0, 0, [], [], [], [], 0⟩ ⟨none, 0, none, 0, none, 0, none, 0⟩) 26)).heap.size = w.heap.size + 1) := by unfold Hid; simp
  have HW0 : Hid (w.alloc (.cells (rcs ⟨0, 0, 0, 0, [], [], [], [], 0⟩ ⟨none, 0, none, 0, none, 0, none, 0⟩) 26) = w.alloc (.cells #[.int .i64 0, .int .i64 0, .int .i64 0, .int .i64 0, .slice none 0 0, .slice none 0 0, .slice none 0 0, .slice none 0 0, .int .i64 0] 26)) := rfl
  generalize w.alloc (.cells (rcs ⟨0, 0, 0, 0, [], [], [], [], 0⟩ ⟨none, 0, none, 0, none, 0, none, 0⟩) 26) = W0 at bz h0 Z0 S0 HW0
  clear h
  go_enter Tryd.func21, Tryd.ntmps21
  go_wp2_with fail
  rw [← HW0.out]
  refine (open_any W0 a len cap h0).mono ?_
  rintro e w1 ⟨rfl, r1, b1⟩
  have hs1 := r1.size
  have ss := S0.out
  rw [ss] at r1 hs1
  have Z1 := Z0.below b1
  have B1 : Below w.heap.size w w1 := bz.trans (b1.mono (by omega))
  clear h0 Z0 S0 HW0
  go_wp2_with fail
  refine (anyrule_any w1 _ 0 r1 (by omega)).mono ?_
  rintro e w2 ⟨⟨r, m, rfl, O2, sm⟩, r2, b2⟩
  have hrc : rcs r m = #[.int .i64 r.f, .int .i64 r.ev, .int .i64 r.ct, .int .i64 r.un, .slice m.a0 r.ds.length m.c0, .slice m.a1 r.da.length m.c1, .slice m.a2 r.mo.length m.c2, .slice m.a3 r.pl.length m.c3, .int .i64 r.wk] := rfl
  rw [hrc]
  clear hrc
  have SM : Hid (Sml 4 r) := sm
  have k2 := b2.size
  have K3 : Hid (RD w w2.heap.size 64 r m (w2.alloc (.cells #[.int .i64 r.f, .int .i64 r.ev, .int .i64 r.ct, .int .i64 r.un, .slice m.a0 r.ds.length m.c0, .slice m.a1 r.da.length m.c1, .slice m.a2 r.mo.length m.c2, .slice m.a3 r.pl.length m.c3, .int .i64 r.wk] 26))) := by
    have bA : Below w2.heap.size w2 (w2.alloc (.cells #[.int .i64 r.f, .int .i64 r.ev, .int .i64 r.ct, .int .i64 r.un, .slice m.a0 r.ds.length m.c0, .slice m.a1 r.da.length m.c1, .slice m.a2 r.mo.length m.c2, .slice m.a3 r.pl.length m.c3, .int .i64 r.wk] 26)) := (Below.refl _ _).alloc (Nat.le_refl _) _
    exact ⟨by simpa using r2.below bA, (Z1.but b2 (by omega)).below bA, CF.new _ _ _, by omega, (O2.down (by omega)).keep fun g h4 h5 => bA.block g h5, ((But.of_below B1).trans (b2.mono (by omega))).trans ((But.of_below bA).mono (by omega))⟩
  clear r1 b1 hs1 ss Z1 B1 bz r2 b2 O2 sm
  go_wp2_with fail
  generalize w2.alloc (.cells #[.int .i64 r.f, .int .i64 r.ev, .int .i64 r.ct, .int .i64 r.un, .slice m.a0 r.ds.length m.c0, .slice m.a1 r.da.length m.c1, .slice m.a2 r.mo.length m.c2, .slice m.a3 r.pl.length m.c3, .int .i64 r.wk] 26) = W3 at K3 ⊢
  generalize w2.heap.size = X at K3 ⊢
  refine (start_any W3 _ _ K3.out.rd (by omega)).mono ?_
  rintro e w4 ⟨⟨s, rfl, s0, s1⟩, r4, b4⟩
  have K4 : Hid (RD w X 65 r m w4) := K3.out.step b4 r4
  clear K3 r4 b4
  have x0 : World.cell? w4 ⟨X, 0, none⟩ = some (.int .i64 r.f) := (K4.out.c.2 0 _ rfl).1
  have x1 : World.cell? w4 ⟨X, 1, none⟩ = some (.int .i64 r.ev) := (K4.out.c.2 1 _ rfl).1
  have x2 : World.cell? w4 ⟨X, 2, none⟩ = some (.int .i64 r.ct) := (K4.out.c.2 2 _ rfl).1
  have x3 : World.cell? w4 ⟨X, 3, none⟩ = some (.int .i64 r.un) := (K4.out.c.2 3 _ rfl).1
  have x4 : World.cell? w4 ⟨X, 4, none⟩ = some (.slice m.a0 r.ds.length m.c0) := (K4.out.c.2 4 _ rfl).1
  have x5 : World.cell? w4 ⟨X, 5, none⟩ = some (.slice m.a1 r.da.length m.c1) := (K4.out.c.2 5 _ rfl).1
  have x6 : World.cell? w4 ⟨X, 6, none⟩ = some (.slice m.a2 r.mo.length m.c2) := (K4.out.c.2 6 _ rfl).1
  have x7 : World.cell? w4 ⟨X, 7, none⟩ = some (.slice m.a3 r.pl.length m.c3) := (K4.out.c.2 7 _ rfl).1
  have x8 : World.cell? w4 ⟨X, 8, none⟩ = some (.int .i64 r.wk) := (K4.out.c.2 8 _ rfl).1
  go_wp2_with fail
  refine (specOk_ol K4.out.l SM.out).mono ?_
  rintro e w5 ⟨rfl, b5⟩
  have K5 : Hid (RD w X 65 r m w5) := K4.out.step (But.of_below b5) (K4.out.rd.below b5)
  clear K4 b5 x0 x1 x2 x3 x4 x5 x6 x7 x8
  cases hm : ruOf r with
  | false =>
    clear hm
    have K7 : Hid (RD w X 66 r m w5) := ⟨K5.out.rd.mono (by omega), K5.out.z, K5.out.c, K5.out.rx, K5.out.l, K5.out.b⟩
    clear K5
    generalize w5 = w7 at *
    go_upto_region 8 with fail
    have KD : Hid (RD w X 66 r m w7.drew) := K7.out.dr
    refine wp_region_held_drew (S := (fun w' => CF w' X #[.int .i64 r.f, .int .i64 r.ev, .int .i64 r.ct, .int .i64 r.un, .slice m.a0 r.ds.length m.c0, .slice m.a1 r.da.length m.c1, .slice m.a2 r.mo.length m.c2, .slice m.a3 r.pl.length m.c3, .int .i64 r.wk])) (by kernel_rfl) KD.out.c (fun hHeld => ?_)
    refine wpAnyH_take (i := 0) (oi := { dst := some 43, op := Op.load 26 (Operand.tmp 6), type := 26, pos := "l12_draw.go:360", after := #[], guard := none }) (v := .agg ([.int .i64 r.f, .int .i64 r.ev, .int .i64 r.ct, .int .i64 r.un, .slice m.a0 r.ds.length m.c0, .slice m.a1 r.da.length m.c1, .slice m.a2 r.mo.length m.c2, .slice m.a3 r.pl.length m.c3, .int .i64 r.wk] : List Value).toArray) rfl (by kernel_rfl) (by kernel_rfl) (by kernel_rfl) (fun _ _ _ h => h) (yieldsIf_load_mid rfl 26 (.tmp 6) rfl X 0 rfl [.int .i64 r.f, .int .i64 r.ev, .int .i64 r.ct, .int .i64 r.un, .slice m.a0 r.ds.length m.c0, .slice m.a1 r.da.length m.c1, .slice m.a2 r.mo.length m.c2, .slice m.a3 r.pl.length m.c3, .int .i64 r.wk] _ (fun w' hb => CF.range hb) Tryd.underlying26 rfl ruleSize) hHeld ?_
    (try simp only [Act.put, List.setIfInBounds_toArray, List.set_cons_zero, List.set_cons_succ])
    refine wpAnyH_take (i := 1) (oi := { dst := some 44, op := Op.move (Operand.tmp 7), type := 3, pos := "l12_draw.go:360", after := #[{ on := 7, ground := Ground.gcOnly Departure.lateStores }], guard := none }) (v := ?_) rfl (by kernel_rfl) (by kernel_rfl) (by kernel_rfl) (fun _ _ _ h => h) (Or.inl ⟨by rfl, ?_⟩) hHeld ?_
    rotate_left
    · (intro w9 hC9; go_simp; first | done | rfl)
    (try simp only [Act.put, List.setIfInBounds_toArray, List.set_cons_zero, List.set_cons_succ])
    refine wpAnyH_take (i := 2) (oi := { dst := some 45, op := Op.move (Operand.tmp 7), type := 3, pos := "l12_draw.go:360", after := #[{ on := 8, ground := Ground.gcOnly Departure.lateStores }], guard := none }) (v := ?_) rfl (by kernel_rfl) (by kernel_rfl) (by kernel_rfl) (fun _ _ _ h => h) (Or.inl ⟨by rfl, ?_⟩) hHeld ?_
    rotate_left
    · (intro w9 hC9; go_simp; first | done | rfl)
    (try simp only [Act.put, List.setIfInBounds_toArray, List.set_cons_zero, List.set_cons_succ])
    refine wpAnyH_take (i := 3) (oi := { dst := some 46, op := Op.move (Operand.tmp 5), type := 44, pos := "l12_draw.go:360", after := #[], guard := none }) (v := ?_) rfl (by kernel_rfl) (by kernel_rfl) (by kernel_rfl) (fun _ _ _ h => h) (Or.inl ⟨by rfl, ?_⟩) hHeld ?_
    rotate_left
    · (intro w9 hC9; go_simp; first | done | rfl)
    (try simp only [Act.put, List.setIfInBounds_toArray, List.set_cons_zero, List.set_cons_succ])
    refine wpAnyH_ready (rs := [4]) (by kernel_rfl) (by simp) ?_
    refine AllReadyH.cons (o := { dst := some 47, op := Op.call { callee := Callee.value (Operand.func 36), args := #[Operand.tmp 46, Operand.const (Value.int IntKind.i64 256)], argTypes := #[44, 3] }, type := 3, pos := "l12_draw.go:360", after := #[{ on := 3, ground := Ground.data }], guard := none }) rfl (fun K hK => ?_) ?_
    · go_simp
      go_at_call 36
      refine (pick_pos _ w7.drew _ _ KD.out.rd (by omega) (by omega)).mono ?_
      rintro e w8 ⟨⟨p, rfl, p0, p1⟩, hr8, hb8⟩
      have K8 : Hid (RD w X 67 r m w8) := KD.out.step hb8 hr8
      refine hK.out _ _ K8.out.c (fun hHeld => ?_)
      clear hK K
      (try simp only [Act.put, List.setIfInBounds_toArray, List.set_cons_zero, List.set_cons_succ])
      have g1 := IntWalk.i64_in (s + p) (by omega)
      have g2 := IntWalk.i64_in (s + p - 2) (by omega)
      refine wpAnyH_take (i := 5) (oi := { dst := some 48, op := Op.binOp BinOp.add 3 (Operand.tmp 45) (Operand.tmp 47) 3, type := 3, pos := "l12_draw.go:360", after := #[{ on := 2, ground := Ground.data }, { on := 4, ground := Ground.data }, { on := 8, ground := Ground.gcOnly Departure.lateStores }], guard := none }) (v := ?_) rfl (by kernel_rfl) (by kernel_rfl) (by kernel_rfl) (fun _ _ _ h => h) (Or.inl ⟨by rfl, ?_⟩) hHeld ?_
      rotate_left
      · (intro w9 hC9; go_simp; first | done | rfl)
      (try simp only [Act.put, List.setIfInBounds_toArray, List.set_cons_zero, List.set_cons_succ])
      refine wpAnyH_take (i := 6) (oi := { dst := some 49, op := Op.binOp BinOp.sub 3 (Operand.tmp 48) (Operand.const (Value.int IntKind.i64 2)) 3, type := 3, pos := "l12_draw.go:360", after := #[{ on := 5, ground := Ground.data }, { on := 8, ground := Ground.gcOnly Departure.lateStores }], guard := none }) (v := ?_) rfl (by kernel_rfl) (by kernel_rfl) (by kernel_rfl) (fun _ _ _ h => h) (Or.inl ⟨by rfl, ?_⟩) hHeld ?_
      rotate_left
      · (intro w9 hC9; go_simp; first | done | rfl)
      (try simp only [Act.put, List.setIfInBounds_toArray, List.set_cons_zero, List.set_cons_succ])
      refine wpAnyH_ready (rs := [7]) (by kernel_rfl) (by simp) ?_
      refine AllReadyH.cons (o := { dst := none, op := Op.store 26 (Operand.tmp 2) (Operand.tmp 43), type := 0, pos := "l12_draw.go:360", after := #[{ on := 0, ground := Ground.data }, { on := 4, ground := Ground.chain }, { on := 0, ground := Ground.phase }, { on := 1, ground := Ground.textOnly Departure.lateStores }, { on := 2, ground := Ground.textOnly Departure.lateStores }, { on := 3, ground := Ground.textOnly Departure.lateStores }, { on := 4, ground := Ground.textOnly Departure.lateStoresUnsure }, { on := 5, ground := Ground.textOnly Departure.lateStores }, { on := 6, ground := Ground.textOnly Departure.lateStores }], guard := none }) rfl (fun K hK => ?_) ?_
      · refine step_store_mid (by rfl) 26 _ _ (by rfl) w.heap.size 0 #[.int .i64 r.f, .int .i64 r.ev, .int .i64 r.ct, .int .i64 r.un, .slice m.a0 r.ds.length m.c0, .slice m.a1 r.da.length m.c1, .slice m.a2 r.mo.length m.c2, .slice m.a3 r.pl.length m.c3, .int .i64 r.wk] (by rfl) (by rfl) (K8.out.z.there _ rfl) ruleSize (by simp [Value.oneCell']) ?_
        have SX : CF (w8.setCells w.heap.size 0 (#[.int .i64 r.f, .int .i64 r.ev, .int .i64 r.ct, .int .i64 r.un, .slice m.a0 r.ds.length m.c0, .slice m.a1 r.da.length m.c1, .slice m.a2 r.mo.length m.c2, .slice m.a3 r.pl.length m.c3, .int .i64 r.wk] : Array Value).toList) X #[.int .i64 r.f, .int .i64 r.ev, .int .i64 r.ct, .int .i64 r.un, .slice m.a0 r.ds.length m.c0, .slice m.a1 r.da.length m.c1, .slice m.a2 r.mo.length m.c2, .slice m.a3 r.pl.length m.c3, .int .i64 r.wk] := CF.apart (by have := K8.out.rx; omega) _ _ _ K8.out.c
        have FR : CF (w8.setCells w.heap.size 0 (#[.int .i64 r.f, .int .i64 r.ev, .int .i64 r.ct, .int .i64 r.un, .slice m.a0 r.ds.length m.c0, .slice m.a1 r.da.length m.c1, .slice m.a2 r.mo.length m.c2, .slice m.a3 r.pl.length m.c3, .int .i64 r.wk] : Array Value).toList) w.heap.size #[.int .i64 r.f, .int .i64 r.ev, .int .i64 r.ct, .int .i64 r.un, .slice m.a0 r.ds.length m.c0, .slice m.a1 r.da.length m.c1, .slice m.a2 r.mo.length m.c2, .slice m.a3 r.pl.length m.c3, .int .i64 r.wk] := K8.out.z.setCells #[.int .i64 r.f, .int .i64 r.ev, .int .i64 r.ct, .int .i64 r.un, .slice m.a0 r.ds.length m.c0, .slice m.a1 r.da.length m.c1, .slice m.a2 r.mo.length m.c2, .slice m.a3 r.pl.length m.c3, .int .i64 r.wk] rfl
        have FIN : Hid (OL w.heap.size r m (w8.setCells w.heap.size 0 (#[.int .i64 r.f, .int .i64 r.ev, .int .i64 r.ct, .int .i64 r.un, .slice m.a0 r.ds.length m.c0, .slice m.a1 r.da.length m.c1, .slice m.a2 r.mo.length m.c2, .slice m.a3 r.pl.length m.c3, .int .i64 r.wk] : Array Value).toList) ∧ Below w.heap.size w (w8.setCells w.heap.size 0 (#[.int .i64 r.f, .int .i64 r.ev, .int .i64 r.ct, .int .i64 r.un, .slice m.a0 r.ds.length m.c0, .slice m.a1 r.da.length m.c1, .slice m.a2 r.mo.length m.c2, .slice m.a3 r.pl.length m.c3, .int .i64 r.wk] : Array Value).toList)) := ⟨(OL.setCells (by omega) _ _ _ K8.out.l).down (by omega), (But.setCells (Nat.le_refl _) _ _ _ K8.out.b).below (by omega)⟩
        generalize w8.setCells w.heap.size 0 (#[.int .i64 r.f, .int .i64 r.ev, .int .i64 r.ct, .int .i64 r.un, .slice m.a0 r.ds.length m.c0, .slice m.a1 r.da.length m.c1, .slice m.a2 r.mo.length m.c2, .slice m.a3 r.pl.length m.c3, .int .i64 r.wk] : Array Value).toList = WF at SX FR FIN ⊢
        refine hK.out _ _ SX (fun hHeld => ?_)
        clear hK K
        (try simp only [Act.put])
        refine wpAnyH_take (i := 8) (oi := { dst := some 3, op := Op.assign (Operand.tmp 44), type := 3, pos := "l12_draw.go:360", after := #[{ on := 1, ground := Ground.data }, { on := 7, ground := Ground.chain }, { on := 0, ground := Ground.phase }, { on := 1, ground := Ground.phase }, { on := 2, ground := Ground.textOnly Departure.lateStores }, { on := 3, ground := Ground.textOnly Departure.lateStores }, { on := 4, ground := Ground.textOnly Departure.lateStoresUnsure }, { on := 5, ground := Ground.textOnly Departure.lateStores }, { on := 6, ground := Ground.textOnly Departure.lateStores }, { on := 7, ground := Ground.phase }], guard := none }) (v := ?_) rfl (by kernel_rfl) (by kernel_rfl) (by kernel_rfl) (fun _ _ _ h => h) (Or.inl ⟨by rfl, ?_⟩) hHeld ?_
        rotate_left
        · (intro w9 hC9; go_simp; first | done | rfl)
        (try simp only [Act.put, List.setIfInBounds_toArray, List.set_cons_zero, List.set_cons_succ])
        refine wpAnyH_take (i := 9) (oi := { dst := some 4, op := Op.assign (Operand.tmp 49), type := 3, pos := "l12_draw.go:360", after := #[{ on := 6, ground := Ground.data }, { on := 8, ground := Ground.chain }, { on := 0, ground := Ground.phase }, { on := 1, ground := Ground.phase }, { on := 2, ground := Ground.phase }, { on := 3, ground := Ground.phase }, { on := 4, ground := Ground.phase }, { on := 5, ground := Ground.phase }, { on := 6, ground := Ground.phase }, { on := 7, ground := Ground.phase }, { on := 8, ground := Ground.phase }], guard := none }) (v := ?_) rfl (by kernel_rfl) (by kernel_rfl) (by kernel_rfl) (fun _ _ _ h => h) (Or.inl ⟨by rfl, ?_⟩) hHeld ?_
        rotate_left
        · (intro w9 hC9; go_simp; first | done | rfl)
        (try simp only [Act.put, List.setIfInBounds_toArray, List.set_cons_zero, List.set_cons_succ])
        refine wpAnyH_done (by kernel_rfl) ?_ _
        have z0 := (FR.2 0 _ rfl).1
        have z1 := (FR.2 1 _ rfl).1
        have z2 := (FR.2 2 _ rfl).1
        have z3 := (FR.2 3 _ rfl).1
        have z4 := (FR.2 4 _ rfl).1
        have z5 := (FR.2 5 _ rfl).1
        have z6 := (FR.2 6 _ rfl).1
        have z7 := (FR.2 7 _ rfl).1
        have z8 := (FR.2 8 _ rfl).1
        clear SX FR hHeld
        go_wp2
        refine bodyPost_ret (v := .tuple #[.agg #[.int .i64 r.f, .int .i64 r.ev, .int .i64 r.ct, .int .i64 r.un, .slice m.a0 r.ds.length m.c0, .slice m.a1 r.da.length m.c1, .slice m.a2 r.mo.length m.c2, .slice m.a3 r.pl.length m.c3, .int .i64 r.wk], .int .i64 s, .int .i64 (s + p - 2)]) (by simp [results, Tryd.results21, go_sem, *]) rfl ⟨r, m, _, _, rfl, FIN.out.1, SM.out, ⟨by omega, by omega⟩, ⟨by omega, by omega⟩, FIN.out.2⟩
      exact AllReadyH.nil
    exact AllReadyH.nil
  | true =>
    have HRU : Hid (ruOf r = true) := hm
    clear hm
    go_wp2_with fail
    refine (pick_pos _ w5 _ _ K5.out.rd (by omega) (by omega)).mono ?_
    rintro e w6 ⟨⟨q, rfl, q0, q1⟩, r6, b6⟩
    have K6 : Hid (RD w X 66 r m w6) := K5.out.step b6 r6
    clear K5 r6 b6
    by_cases e0 : q = 0
    · subst e0
      have x0 : World.cell? w6 ⟨X, 0, none⟩ = some (.int .i64 r.f) := (K6.out.c.2 0 _ rfl).1
      have x1 : World.cell? w6 ⟨X, 1, none⟩ = some (.int .i64 r.ev) := (K6.out.c.2 1 _ rfl).1
      have x2 : World.cell? w6 ⟨X, 2, none⟩ = some (.int .i64 r.ct) := (K6.out.c.2 2 _ rfl).1
      have x3 : World.cell? w6 ⟨X, 3, none⟩ = some (.int .i64 r.un) := (K6.out.c.2 3 _ rfl).1
      have x4 : World.cell? w6 ⟨X, 4, none⟩ = some (.slice m.a0 r.ds.length m.c0) := (K6.out.c.2 4 _ rfl).1
      have x5 : World.cell? w6 ⟨X, 5, none⟩ = some (.slice m.a1 r.da.length m.c1) := (K6.out.c.2 5 _ rfl).1
      have x6 : World.cell? w6 ⟨X, 6, none⟩ = some (.slice m.a2 r.mo.length m.c2) := (K6.out.c.2 6 _ rfl).1
      have x7 : World.cell? w6 ⟨X, 7, none⟩ = some (.slice m.a3 r.pl.length m.c3) := (K6.out.c.2 7 _ rfl).1
      have x8 : World.cell? w6 ⟨X, 8, none⟩ = some (.int .i64 r.wk) := (K6.out.c.2 8 _ rfl).1
      have gs := IntWalk.i64_in (s + 400) (by omega)
      go_wp2_with fail
      refine (specDaysL r m s (s + 400) 20 w6 (ru_ok HRU.out).1 K6.out.l.mem (ru_ok HRU.out).2.1 (ru_ok HRU.out).2.2.1 (ru_ok HRU.out).2.2.2.1 (ru_ok HRU.out).2.2.2.2 (by_bd HRU.out) (by omega) (by omega) (by omega) (by omega)).mono ?_
      rintro e w7 ⟨⟨v7, rfl, O7⟩, b7⟩
      have K7 : Hid (RD w X 66 r m w7) := K6.out.step (But.of_below b7) (K6.out.rd.below b7)
      have HLT : ∀ g, v7.ownBlock = some g → w6.heap.size ≤ g := fun g hg => (O7.lt g hg).1
      have hX6 := K6.out.c.1
      have hr6 := K6.out.rx
      obtain ⟨va, vc, rfl, I7, _, _⟩ := O7.val
      have HI7 : Hid (IsInts w7 va ((comes r s (limT r (s + 400))).take (mostT r 20).toNat)) := I7
      have HD : Hid (∀ x, x ∈ (comes r s (limT r (s + 400))).take (mostT r 20).toNat → s ≤ x ∧ x ≤ s + 400) := fun x hx => days_near hx
      have HL : Hid (((comes r s (limT r (s + 400))).take (mostT r 20).toNat).length ≤ 20) := days_twenty _ _ _
      generalize (comes r s (limT r (s + 400))).take (mostT r 20).toNat = D at *
      clear K6 O7 I7 b7 gs x0 x1 x2 x3 x4 x5 x6 x7 x8
      by_cases hl : (D.length : Int) > 0
      · obtain ⟨lb, lo, rfl, hbs, hcl⟩ := HI7.out.cell (by omega)
        have HCL : Hid (∀ i, i < D.length → w7.cell? ⟨lb, lo + i, none⟩ = some (.int .i64 (gi D i))) := hcl
        clear hcl
        have hn : (D.length : Int) ≤ 20 := by have := HL.out; omega
        have hlb : w6.heap.size ≤ lb := HLT lb rfl
        clear HLT
        go_upto_region 7 with fail
        have KD : Hid (RD w X 66 r m w7.drew) := K7.out.dr
        have szD : w7.drew.heap.size = w7.heap.size := rfl
        have hrx := K7.out.rx
        have hXs := K7.out.c.1
        have hl1 : 1 ≤ (D.length : Int) := by omega
        have CLD : ∀ i, i < D.length → w7.drew.cell? ⟨lb, lo + i, none⟩ = some (.int .i64 (gi D i)) := fun i hi => by simpa using HCL.out i hi
        refine wp_region_held_drew (S := (fun w' => CF w' X #[.int .i64 r.f, .int .i64 r.ev, .int .i64 r.ct, .int .i64 r.un, .slice m.a0 r.ds.length m.c0, .slice m.a1 r.da.length m.c1, .slice m.a2 r.mo.length m.c2, .slice m.a3 r.pl.length m.c3, .int .i64 r.wk] ∧ ∀ i, i < D.length → w'.cell? ⟨lb, lo + i, none⟩ = some (.int .i64 (gi D i)))) (by kernel_rfl) ⟨KD.out.c, CLD⟩ (fun hHeld => ?_)
        refine wpAnyH_take (i := 0) (oi := { dst := some 30, op := Op.load 26 (Operand.tmp 6), type := 26, pos := "l12_draw.go:357", after := #[], guard := none }) (v := .agg ([.int .i64 r.f, .int .i64 r.ev, .int .i64 r.ct, .int .i64 r.un, .slice m.a0 r.ds.length m.c0, .slice m.a1 r.da.length m.c1, .slice m.a2 r.mo.length m.c2, .slice m.a3 r.pl.length m.c3, .int .i64 r.wk] : List Value).toArray) rfl (by kernel_rfl) (by kernel_rfl) (by kernel_rfl) (fun _ _ _ h => h) (yieldsIf_load_mid rfl 26 (.tmp 6) rfl X 0 rfl [.int .i64 r.f, .int .i64 r.ev, .int .i64 r.ct, .int .i64 r.un, .slice m.a0 r.ds.length m.c0, .slice m.a1 r.da.length m.c1, .slice m.a2 r.mo.length m.c2, .slice m.a3 r.pl.length m.c3, .int .i64 r.wk] _ (fun w' hb => CF.range hb.1) Tryd.underlying26 rfl ruleSize) hHeld ?_
        (try simp only [Act.put, List.setIfInBounds_toArray, List.set_cons_zero, List.set_cons_succ])
        refine wpAnyH_take (i := 1) (oi := { dst := some 31, op := Op.move (Operand.tmp 7), type := 3, pos := "l12_draw.go:357", after := #[{ on := 13, ground := Ground.gcOnly Departure.lateStores }], guard := none }) (v := ?_) rfl (by kernel_rfl) (by kernel_rfl) (by kernel_rfl) (fun _ _ _ h => h) (Or.inl ⟨by rfl, ?_⟩) hHeld ?_
        rotate_left
        · (intro w9 hC9; go_simp; first | done | rfl)
        (try simp only [Act.put, List.setIfInBounds_toArray, List.set_cons_zero, List.set_cons_succ])
        refine wpAnyH_take (i := 2) (oi := { dst := some 32, op := Op.move (Operand.tmp 8), type := 24, pos := "l12_draw.go:357", after := #[{ on := 14, ground := Ground.gcOnly Departure.lateStores }], guard := none }) (v := ?_) rfl (by kernel_rfl) (by kernel_rfl) (by kernel_rfl) (fun _ _ _ h => h) (Or.inl ⟨by rfl, ?_⟩) hHeld ?_
        rotate_left
        · (intro w9 hC9; go_simp; first | done | rfl)
        (try simp only [Act.put, List.setIfInBounds_toArray, List.set_cons_zero, List.set_cons_succ])
        refine wpAnyH_take (i := 3) (oi := { dst := some 33, op := Op.move (Operand.tmp 5), type := 44, pos := "l12_draw.go:357", after := #[], guard := none }) (v := ?_) rfl (by kernel_rfl) (by kernel_rfl) (by kernel_rfl) (fun _ _ _ h => h) (Or.inl ⟨by rfl, ?_⟩) hHeld ?_
        rotate_left
        · (intro w9 hC9; go_simp; first | done | rfl)
        (try simp only [Act.put, List.setIfInBounds_toArray, List.set_cons_zero, List.set_cons_succ])
        refine wpAnyH_take (i := 4) (oi := { dst := some 34, op := Op.move (Operand.tmp 8), type := 24, pos := "l12_draw.go:357", after := #[], guard := none }) (v := ?_) rfl (by kernel_rfl) (by kernel_rfl) (by kernel_rfl) (fun _ _ _ h => h) (Or.inl ⟨by rfl, ?_⟩) hHeld ?_
        rotate_left
        · (intro w9 hC9; go_simp; first | done | rfl)
        (try simp only [Act.put, List.setIfInBounds_toArray, List.set_cons_zero, List.set_cons_succ])
        refine wpAnyH_take (i := 5) (oi := { dst := some 35, op := Op.call { callee := Callee.builtin Builtin.len, args := #[Operand.tmp 34], argTypes := #[24] }, type := 3, pos := "l12_draw.go:357", after := #[{ on := 4, ground := Ground.data }], guard := none }) (v := ?_) rfl (by kernel_rfl) (by kernel_rfl) (by kernel_rfl) (fun _ _ _ h => h) (Or.inl ⟨by rfl, ?_⟩) hHeld ?_
        rotate_left
        · (intro w9 hC9; go_simp; first | done | rfl)
        (try simp only [Act.put, List.setIfInBounds_toArray, List.set_cons_zero, List.set_cons_succ])
        refine wpAnyH_take (i := 9) (oi := { dst := some 39, op := Op.move (Operand.tmp 5), type := 44, pos := "l12_draw.go:357", after := #[], guard := none }) (v := ?_) rfl (by kernel_rfl) (by kernel_rfl) (by kernel_rfl) (fun _ _ _ h => h) (Or.inl ⟨by rfl, ?_⟩) hHeld ?_
        rotate_left
        · (intro w9 hC9; go_simp; first | done | rfl)
        (try simp only [Act.put, List.setIfInBounds_toArray, List.set_cons_zero, List.set_cons_succ])
        refine wpAnyH_ready (rs := [6, 10]) (by kernel_rfl) (by simp) ?_
        refine AllReadyH.cons (o := { dst := some 36, op := Op.call { callee := Callee.value (Operand.func 36), args := #[Operand.tmp 33, Operand.tmp 35], argTypes := #[44, 3] }, type := 3, pos := "l12_draw.go:357", after := #[{ on := 3, ground := Ground.data }, { on := 5, ground := Ground.data }], guard := none }) rfl (fun K hK => ?_) ?_
        · go_simp
          go_at_call 36
          refine (pick_pos _ w7.drew _ _ KD.out.rd (by omega) (by omega)).mono ?_
          rintro e w8 ⟨⟨y, rfl, y0, y1⟩, hr8, hb8⟩
          have K8 : Hid (RD w X 67 r m w8) := KD.out.step hb8 hr8
          have sz8 := hb8.size
          rw [szD] at sz8
          have CL8 : ∀ i, i < D.length → w8.cell? ⟨lb, lo + i, none⟩ = some (.int .i64 (gi D i)) := fun i hi => by rw [hb8.cell (p := ⟨lb, lo + i, none⟩) (by show lb < _; omega) (by show lb ≠ w.heap.size + 1; omega)]; exact CLD i hi
          refine hK.out _ _ ⟨K8.out.c, CL8⟩ (fun hHeld => ?_)
          clear hK K
          (try simp only [Act.put, List.setIfInBounds_toArray, List.set_cons_zero, List.set_cons_succ])
          refine wpAnyH_take (i := 7) (oi := { dst := some 37, op := Op.indexAddr 24 (Operand.tmp 32) (Operand.tmp 36), type := 0, pos := "l12_draw.go:357", after := #[{ on := 2, ground := Ground.data }, { on := 6, ground := Ground.data }, { on := 14, ground := Ground.gcOnly Departure.lateStores }], guard := none }) (v := ?_) rfl (by kernel_rfl) (by kernel_rfl) (by kernel_rfl) (fun _ _ _ h => h) (Or.inl ⟨by rfl, ?_⟩) hHeld ?_
          rotate_left
          · (intro w9 hC9; go_simp; first | done | rfl)
          (try simp only [Act.put, List.setIfInBounds_toArray, List.set_cons_zero, List.set_cons_succ])
          refine wpAnyH_take (i := 8) (oi := { dst := some 38, op := Op.load 3 (Operand.tmp 37), type := 3, pos := "l12_draw.go:357", after := #[{ on := 7, ground := Ground.data }, { on := 14, ground := Ground.gcOnly Departure.lateStores }], guard := none }) (v := ?_) rfl (by kernel_rfl) (by kernel_rfl) (by kernel_rfl) (fun _ _ _ h => h) (Or.inl ⟨by rfl, ?_⟩) hHeld ?_
          rotate_left
          · (intro w9 hC9; have y2 := hC9.2 y.toNat (by omega); clear hC9; go_simp; first | done | rfl)
          (try simp only [Act.put, List.setIfInBounds_toArray, List.set_cons_zero, List.set_cons_succ])
          refine wpAnyH_ready (rs := [10]) (by kernel_rfl) (by simp) ?_
          refine AllReadyH.cons (o := { dst := some 40, op := Op.buildSlice 24 4 #[(0, Operand.const (Value.int IntKind.i64 0)), (1, Operand.const (Value.int IntKind.i64 0)), (2, Operand.const (Value.int IntKind.i64 0)), (3, Operand.const (Value.int IntKind.i64 1))], type := 24, pos := "l12_draw.go:357", after := #[], guard := none }) rfl (fun K hK => ?_) ?_
          · go_simp
            have CLA : ∀ i, i < D.length → (w8.alloc (.cells #[.int .i64 0, .int .i64 0, .int .i64 0, .int .i64 1] 3)).cell? ⟨lb, lo + i, none⟩ = some (.int .i64 (gi D i)) := fun i hi => by rw [((Below.refl w8.heap.size w8).alloc (Nat.le_refl _) (.cells #[.int .i64 0, .int .i64 0, .int .i64 0, .int .i64 1] 3)).cell (p := ⟨lb, lo + i, none⟩) (by show lb < _; omega)]; exact CL8 i hi
            refine hK.out _ _ ⟨(K8.out.al _).c, CLA⟩ (fun hHeld => ?_)
            clear hK K
            (try simp only [Act.put, List.setIfInBounds_toArray, List.set_cons_zero, List.set_cons_succ])
            refine wpAnyH_ready (rs := [11]) (by kernel_rfl) (by simp) ?_
            refine AllReadyH.cons (o := { dst := some 41, op := Op.call { callee := Callee.value (Operand.func 37), args := #[Operand.tmp 39, Operand.tmp 40], argTypes := #[44, 24] }, type := 3, pos := "l12_draw.go:357", after := #[{ on := 9, ground := Ground.data }, { on := 10, ground := Ground.data }, { on := 6, ground := Ground.chain }], guard := none }) rfl (fun K hK => ?_) ?_
            · go_simp
              go_at_call 37
              refine (one_list w8 _ _ K8.out.rd (by omega) 4 [0, 0, 0, 1] rfl (by omega) (by omega) _ rfl).mono ?_
              rintro e w9 ⟨⟨x, rfl, hx⟩, hr9, hb9⟩
              have K9 : Hid (RD w X 68 r m w9) := K8.out.step hb9 hr9
              have CL9 : ∀ i, i < D.length → w9.cell? ⟨lb, lo + i, none⟩ = some (.int .i64 (gi D i)) := fun i hi => by rw [hb9.cell (p := ⟨lb, lo + i, none⟩) (by show lb < _; omega) (by show lb ≠ w.heap.size + 1; omega)]; exact CL8 i hi
              refine hK.out _ _ ⟨K9.out.c, CL9⟩ (fun hHeld => ?_)
              clear hK K
              (try simp only [Act.put, List.setIfInBounds_toArray, List.set_cons_zero, List.set_cons_succ])
              have xb : 0 ≤ x ∧ x ≤ 1 := by simp only [List.mem_cons, List.not_mem_nil, or_false] at hx; omega
              have gb := HD.out _ (gi_mem (l := D) (i := y.toNat) (by omega))
              have g2 := IntWalk.i64_in (gi D y.toNat + x) (by omega)
              refine wpAnyH_take (i := 12) (oi := { dst := some 42, op := Op.binOp BinOp.add 3 (Operand.tmp 38) (Operand.tmp 41) 3, type := 3, pos := "l12_draw.go:357", after := #[{ on := 8, ground := Ground.data }, { on := 11, ground := Ground.data }, { on := 14, ground := Ground.gcOnly Departure.lateStores }], guard := none }) (v := ?_) rfl (by kernel_rfl) (by kernel_rfl) (by kernel_rfl) (fun _ _ _ h => h) (Or.inl ⟨by rfl, ?_⟩) hHeld ?_
              rotate_left
              · (intro w9 hC9; go_simp; first | done | rfl)
              (try simp only [Act.put, List.setIfInBounds_toArray, List.set_cons_zero, List.set_cons_succ])
              refine wpAnyH_ready (rs := [13]) (by kernel_rfl) (by simp) ?_
              refine AllReadyH.cons (o := { dst := none, op := Op.store 26 (Operand.tmp 2) (Operand.tmp 30), type := 0, pos := "l12_draw.go:357", after := #[{ on := 0, ground := Ground.data }, { on := 11, ground := Ground.chain }, { on := 0, ground := Ground.phase }, { on := 1, ground := Ground.textOnly Departure.lateStores }, { on := 2, ground := Ground.textOnly Departure.lateStores }, { on := 3, ground := Ground.textOnly Departure.lateStores }, { on := 4, ground := Ground.textOnly Departure.lateStores }, { on := 5, ground := Ground.textOnly Departure.lateStoresUnsure }, { on := 6, ground := Ground.textOnly Departure.lateStoresUnsure }, { on := 7, ground := Ground.textOnly Departure.lateStores }, { on := 8, ground := Ground.textOnly Departure.lateStores }, { on := 9, ground := Ground.textOnly Departure.lateStores }, { on := 10, ground := Ground.textOnly Departure.lateStores }, { on := 11, ground := Ground.textOnly Departure.lateStoresUnsure }, { on := 12, ground := Ground.textOnly Departure.lateStores }], guard := none }) rfl (fun K hK => ?_) ?_
              · refine step_store_mid (by rfl) 26 _ _ (by rfl) w.heap.size 0 #[.int .i64 r.f, .int .i64 r.ev, .int .i64 r.ct, .int .i64 r.un, .slice m.a0 r.ds.length m.c0, .slice m.a1 r.da.length m.c1, .slice m.a2 r.mo.length m.c2, .slice m.a3 r.pl.length m.c3, .int .i64 r.wk] (by rfl) (by rfl) (K9.out.z.there _ rfl) ruleSize (by simp [Value.oneCell']) ?_
                have SX : CF (w9.setCells w.heap.size 0 (#[.int .i64 r.f, .int .i64 r.ev, .int .i64 r.ct, .int .i64 r.un, .slice m.a0 r.ds.length m.c0, .slice m.a1 r.da.length m.c1, .slice m.a2 r.mo.length m.c2, .slice m.a3 r.pl.length m.c3, .int .i64 r.wk] : Array Value).toList) X #[.int .i64 r.f, .int .i64 r.ev, .int .i64 r.ct, .int .i64 r.un, .slice m.a0 r.ds.length m.c0, .slice m.a1 r.da.length m.c1, .slice m.a2 r.mo.length m.c2, .slice m.a3 r.pl.length m.c3, .int .i64 r.wk] := CF.apart (by have := K9.out.rx; omega) _ _ _ K9.out.c
                have FR : CF (w9.setCells w.heap.size 0 (#[.int .i64 r.f, .int .i64 r.ev, .int .i64 r.ct, .int .i64 r.un, .slice m.a0 r.ds.length m.c0, .slice m.a1 r.da.length m.c1, .slice m.a2 r.mo.length m.c2, .slice m.a3 r.pl.length m.c3, .int .i64 r.wk] : Array Value).toList) w.heap.size #[.int .i64 r.f, .int .i64 r.ev, .int .i64 r.ct, .int .i64 r.un, .slice m.a0 r.ds.length m.c0, .slice m.a1 r.da.length m.c1, .slice m.a2 r.mo.length m.c2, .slice m.a3 r.pl.length m.c3, .int .i64 r.wk] := K9.out.z.setCells #[.int .i64 r.f, .int .i64 r.ev, .int .i64 r.ct, .int .i64 r.un, .slice m.a0 r.ds.length m.c0, .slice m.a1 r.da.length m.c1, .slice m.a2 r.mo.length m.c2, .slice m.a3 r.pl.length m.c3, .int .i64 r.wk] rfl
                have FIN : Hid (OL w.heap.size r m (w9.setCells w.heap.size 0 (#[.int .i64 r.f, .int .i64 r.ev, .int .i64 r.ct, .int .i64 r.un, .slice m.a0 r.ds.length m.c0, .slice m.a1 r.da.length m.c1, .slice m.a2 r.mo.length m.c2, .slice m.a3 r.pl.length m.c3, .int .i64 r.wk] : Array Value).toList) ∧ Below w.heap.size w (w9.setCells w.heap.size 0 (#[.int .i64 r.f, .int .i64 r.ev, .int .i64 r.ct, .int .i64 r.un, .slice m.a0 r.ds.length m.c0, .slice m.a1 r.da.length m.c1, .slice m.a2 r.mo.length m.c2, .slice m.a3 r.pl.length m.c3, .int .i64 r.wk] : Array Value).toList)) := ⟨(OL.setCells (by omega) _ _ _ K9.out.l).down (by omega), (But.setCells (Nat.le_refl _) _ _ _ K9.out.b).below (by omega)⟩
                have CLF : ∀ i, i < D.length → (w9.setCells w.heap.size 0 (#[.int .i64 r.f, .int .i64 r.ev, .int .i64 r.ct, .int .i64 r.un, .slice m.a0 r.ds.length m.c0, .slice m.a1 r.da.length m.c1, .slice m.a2 r.mo.length m.c2, .slice m.a3 r.pl.length m.c3, .int .i64 r.wk] : Array Value).toList).cell? ⟨lb, lo + i, none⟩ = some (.int .i64 (gi D i)) := fun i hi => by rw [World.cell?_setCells_out _ _ _ _ _ (fun e => absurd e (by show lb ≠ w.heap.size; omega))]; exact CL9 i hi
                generalize w9.setCells w.heap.size 0 (#[.int .i64 r.f, .int .i64 r.ev, .int .i64 r.ct, .int .i64 r.un, .slice m.a0 r.ds.length m.c0, .slice m.a1 r.da.length m.c1, .slice m.a2 r.mo.length m.c2, .slice m.a3 r.pl.length m.c3, .int .i64 r.wk] : Array Value).toList = WF at SX FR FIN CLF ⊢
                refine hK.out _ _ ⟨SX, CLF⟩ (fun hHeld => ?_)
                clear hK K
                (try simp only [Act.put])
                refine wpAnyH_take (i := 14) (oi := { dst := some 3, op := Op.assign (Operand.tmp 31), type := 3, pos := "l12_draw.go:357", after := #[{ on := 1, ground := Ground.data }, { on := 13, ground := Ground.chain }, { on := 0, ground := Ground.phase }, { on := 1, ground := Ground.phase }, { on := 2, ground := Ground.textOnly Departure.lateStores }, { on := 3, ground := Ground.textOnly Departure.lateStores }, { on := 4, ground := Ground.textOnly Departure.lateStores }, { on := 5, ground := Ground.textOnly Departure.lateStoresUnsure }, { on := 6, ground := Ground.textOnly Departure.lateStoresUnsure }, { on := 7, ground := Ground.textOnly Departure.lateStores }, { on := 8, ground := Ground.textOnly Departure.lateStores }, { on := 9, ground := Ground.textOnly Departure.lateStores }, { on := 10, ground := Ground.textOnly Departure.lateStores }, { on := 11, ground := Ground.textOnly Departure.lateStoresUnsure }, { on := 12, ground := Ground.textOnly Departure.lateStores }, { on := 13, ground := Ground.phase }], guard := none }) (v := ?_) rfl (by kernel_rfl) (by kernel_rfl) (by kernel_rfl) (fun _ _ _ h => h) (Or.inl ⟨by rfl, ?_⟩) hHeld ?_
                rotate_left
                · (intro w9 hC9; go_simp; first | done | rfl)
                (try simp only [Act.put, List.setIfInBounds_toArray, List.set_cons_zero, List.set_cons_succ])
                refine wpAnyH_take (i := 15) (oi := { dst := some 4, op := Op.assign (Operand.tmp 42), type := 3, pos := "l12_draw.go:357", after := #[{ on := 12, ground := Ground.data }, { on := 14, ground := Ground.chain }, { on := 0, ground := Ground.phase }, { on := 1, ground := Ground.phase }, { on := 2, ground := Ground.phase }, { on := 3, ground := Ground.phase }, { on := 4, ground := Ground.phase }, { on := 5, ground := Ground.phase }, { on := 6, ground := Ground.phase }, { on := 7, ground := Ground.phase }, { on := 8, ground := Ground.phase }, { on := 9, ground := Ground.phase }, { on := 10, ground := Ground.phase }, { on := 11, ground := Ground.phase }, { on := 12, ground := Ground.phase }, { on := 13, ground := Ground.phase }, { on := 14, ground := Ground.phase }], guard := none }) (v := ?_) rfl (by kernel_rfl) (by kernel_rfl) (by kernel_rfl) (fun _ _ _ h => h) (Or.inl ⟨by rfl, ?_⟩) hHeld ?_
                rotate_left
                · (intro w9 hC9; go_simp; first | done | rfl)
                (try simp only [Act.put, List.setIfInBounds_toArray, List.set_cons_zero, List.set_cons_succ])
                refine wpAnyH_done (by kernel_rfl) ?_ _
                have z0 := (FR.2 0 _ rfl).1
                have z1 := (FR.2 1 _ rfl).1
                have z2 := (FR.2 2 _ rfl).1
                have z3 := (FR.2 3 _ rfl).1
                have z4 := (FR.2 4 _ rfl).1
                have z5 := (FR.2 5 _ rfl).1
                have z6 := (FR.2 6 _ rfl).1
                have z7 := (FR.2 7 _ rfl).1
                have z8 := (FR.2 8 _ rfl).1
                clear SX FR hHeld
                go_wp2
                refine bodyPost_ret (v := .tuple #[.agg #[.int .i64 r.f, .int .i64 r.ev, .int .i64 r.ct, .int .i64 r.un, .slice m.a0 r.ds.length m.c0, .slice m.a1 r.da.length m.c1, .slice m.a2 r.mo.length m.c2, .slice m.a3 r.pl.length m.c3, .int .i64 r.wk], .int .i64 s, .int .i64 (gi D y.toNat + x)]) (by simp [results, Tryd.results21, go_sem, *]) rfl ⟨r, m, _, _, rfl, FIN.out.1, SM.out, ⟨by omega, by omega⟩, ⟨by omega, by omega⟩, FIN.out.2⟩
              exact AllReadyH.nil
            exact AllReadyH.nil
          exact AllReadyH.nil
        refine AllReadyH.cons (o := { dst := some 40, op := Op.buildSlice 24 4 #[(0, Operand.const (Value.int IntKind.i64 0)), (1, Operand.const (Value.int IntKind.i64 0)), (2, Operand.const (Value.int IntKind.i64 0)), (3, Operand.const (Value.int IntKind.i64 1))], type := 24, pos := "l12_draw.go:357", after := #[], guard := none }) rfl (fun K hK => ?_) ?_
        · go_simp
          have CLA : ∀ i, i < D.length → (w7.drew.alloc (.cells #[.int .i64 0, .int .i64 0, .int .i64 0, .int .i64 1] 3)).cell? ⟨lb, lo + i, none⟩ = some (.int .i64 (gi D i)) := fun i hi => by rw [((Below.refl w7.heap.size w7.drew).alloc (Nat.le_refl _) (.cells #[.int .i64 0, .int .i64 0, .int .i64 0, .int .i64 1] 3)).cell (p := ⟨lb, lo + i, none⟩) (by show lb < _; omega)]; exact CLD i hi
          refine hK.out _ _ ⟨(KD.out.al _).c, CLA⟩ (fun hHeld => ?_)
          clear hK K
          (try simp only [Act.put, List.setIfInBounds_toArray, List.set_cons_zero, List.set_cons_succ])
          have KW : Hid (RD w X 66 r m (w7.drew.alloc (.cells #[.int .i64 0, .int .i64 0, .int .i64 0, .int .i64 1] 3))) := KD.out.al _
          have OL1 : ∀ i, i < 4 → (w7.drew.alloc (.cells #[.int .i64 0, .int .i64 0, .int .i64 0, .int .i64 1] 3)).cell? ⟨w7.heap.size, i, none⟩ = some (.int .i64 (([0, 0, 0, 1] : List Int).getD i 0)) := fun i hi => ints_at1 w7.drew [0, 0, 0, 1] _ rfl i hi
          have szW : (w7.drew.alloc (.cells #[.int .i64 0, .int .i64 0, .int .i64 0, .int .i64 1] 3)).heap.size = w7.heap.size + 1 := by simp
          refine wpAnyH_ready (rs := [6]) (by kernel_rfl) (by simp) ?_
          refine AllReadyH.cons (o := { dst := some 36, op := Op.call { callee := Callee.value (Operand.func 36), args := #[Operand.tmp 33, Operand.tmp 35], argTypes := #[44, 3] }, type := 3, pos := "l12_draw.go:357", after := #[{ on := 3, ground := Ground.data }, { on := 5, ground := Ground.data }], guard := none }) rfl (fun K hK => ?_) ?_
          · go_simp
            go_at_call 36
            refine (pick_pos _ (w7.drew.alloc (.cells #[.int .i64 0, .int .i64 0, .int .i64 0, .int .i64 1] 3)) _ _ KW.out.rd (by omega) (by omega)).mono ?_
            rintro e w8 ⟨⟨y, rfl, y0, y1⟩, hr8, hb8⟩
            have K8 : Hid (RD w X 67 r m w8) := KW.out.step hb8 hr8
            have OL3 : ∀ i, i < 4 → w8.cell? ⟨w7.heap.size, i, none⟩ = some (.int .i64 (([0, 0, 0, 1] : List Int).getD i 0)) := fun i hi => by rw [hb8.cell (p := ⟨w7.heap.size, i, none⟩) (by show w7.heap.size < _; omega) (by show w7.heap.size ≠ w.heap.size + 1; omega)]; exact OL1 i hi
            have sz8 := hb8.size
            have CL8 : ∀ i, i < D.length → w8.cell? ⟨lb, lo + i, none⟩ = some (.int .i64 (gi D i)) := fun i hi => by rw [hb8.cell (p := ⟨lb, lo + i, none⟩) (by show lb < _; omega) (by show lb ≠ w.heap.size + 1; omega)]; exact CLA i hi
            rw [szW] at sz8
            refine hK.out _ _ ⟨K8.out.c, CL8⟩ (fun hHeld => ?_)
            clear hK K
            (try simp only [Act.put, List.setIfInBounds_toArray, List.set_cons_zero, List.set_cons_succ])
            refine wpAnyH_take (i := 7) (oi := { dst := some 37, op := Op.indexAddr 24 (Operand.tmp 32) (Operand.tmp 36), type := 0, pos := "l12_draw.go:357", after := #[{ on := 2, ground := Ground.data }, { on := 6, ground := Ground.data }, { on := 14, ground := Ground.gcOnly Departure.lateStores }], guard := none }) (v := ?_) rfl (by kernel_rfl) (by kernel_rfl) (by kernel_rfl) (fun _ _ _ h => h) (Or.inl ⟨by rfl, ?_⟩) hHeld ?_
            rotate_left
            · (intro w9 hC9; go_simp; first | done | rfl)
            (try simp only [Act.put, List.setIfInBounds_toArray, List.set_cons_zero, List.set_cons_succ])
            refine wpAnyH_take (i := 8) (oi := { dst := some 38, op := Op.load 3 (Operand.tmp 37), type := 3, pos := "l12_draw.go:357", after := #[{ on := 7, ground := Ground.data }, { on := 14, ground := Ground.gcOnly Departure.lateStores }], guard := none }) (v := ?_) rfl (by kernel_rfl) (by kernel_rfl) (by kernel_rfl) (fun _ _ _ h => h) (Or.inl ⟨by rfl, ?_⟩) hHeld ?_
            rotate_left
            · (intro w9 hC9; have y2 := hC9.2 y.toNat (by omega); clear hC9; go_simp; first | done | rfl)
            (try simp only [Act.put, List.setIfInBounds_toArray, List.set_cons_zero, List.set_cons_succ])
            refine wpAnyH_ready (rs := [11]) (by kernel_rfl) (by simp) ?_
            refine AllReadyH.cons (o := { dst := some 41, op := Op.call { callee := Callee.value (Operand.func 37), args := #[Operand.tmp 39, Operand.tmp 40], argTypes := #[44, 24] }, type := 3, pos := "l12_draw.go:357", after := #[{ on := 9, ground := Ground.data }, { on := 10, ground := Ground.data }, { on := 6, ground := Ground.chain }], guard := none }) rfl (fun K hK => ?_) ?_
            · go_simp
              go_at_call 37
              refine (one_any w8 _ _ K8.out.rd (by omega) w7.heap.size 4 4 [0, 0, 0, 1] rfl (by omega) (by omega) (by omega) (by omega) OL3).mono ?_
              rintro e w9 ⟨⟨x, rfl, hx⟩, hr9, hb9⟩
              have K9 : Hid (RD w X 68 r m w9) := K8.out.step hb9 hr9
              have CL9 : ∀ i, i < D.length → w9.cell? ⟨lb, lo + i, none⟩ = some (.int .i64 (gi D i)) := fun i hi => by rw [hb9.cell (p := ⟨lb, lo + i, none⟩) (by show lb < _; omega) (by show lb ≠ w.heap.size + 1; omega)]; exact CL8 i hi
              refine hK.out _ _ ⟨K9.out.c, CL9⟩ (fun hHeld => ?_)
              clear hK K
              (try simp only [Act.put, List.setIfInBounds_toArray, List.set_cons_zero, List.set_cons_succ])
              have xb : 0 ≤ x ∧ x ≤ 1 := by simp only [List.mem_cons, List.not_mem_nil, or_false] at hx; omega
              have gb := HD.out _ (gi_mem (l := D) (i := y.toNat) (by omega))
              have g2 := IntWalk.i64_in (gi D y.toNat + x) (by omega)
              refine wpAnyH_take (i := 12) (oi := { dst := some 42, op := Op.binOp BinOp.add 3 (Operand.tmp 38) (Operand.tmp 41) 3, type := 3, pos := "l12_draw.go:357", after := #[{ on := 8, ground := Ground.data }, { on := 11, ground := Ground.data }, { on := 14, ground := Ground.gcOnly Departure.lateStores }], guard := none }) (v := ?_) rfl (by kernel_rfl) (by kernel_rfl) (by kernel_rfl) (fun _ _ _ h => h) (Or.inl ⟨by rfl, ?_⟩) hHeld ?_
              rotate_left
              · (intro w9 hC9; go_simp; first | done | rfl)
              (try simp only [Act.put, List.setIfInBounds_toArray, List.set_cons_zero, List.set_cons_succ])
              refine wpAnyH_ready (rs := [13]) (by kernel_rfl) (by simp) ?_
              refine AllReadyH.cons (o := { dst := none, op := Op.store 26 (Operand.tmp 2) (Operand.tmp 30), type := 0, pos := "l12_draw.go:357", after := #[{ on := 0, ground := Ground.data }, { on := 11, ground := Ground.chain }, { on := 0, ground := Ground.phase }, { on := 1, ground := Ground.textOnly Departure.lateStores }, { on := 2, ground := Ground.textOnly Departure.lateStores }, { on := 3, ground := Ground.textOnly Departure.lateStores }, { on := 4, ground := Ground.textOnly Departure.lateStores }, { on := 5, ground := Ground.textOnly Departure.lateStoresUnsure }, { on := 6, ground := Ground.textOnly Departure.lateStoresUnsure }, { on := 7, ground := Ground.textOnly Departure.lateStores }, { on := 8, ground := Ground.textOnly Departure.lateStores }, { on := 9, ground := Ground.textOnly Departure.lateStores }, { on := 10, ground := Ground.textOnly Departure.lateStores }, { on := 11, ground := Ground.textOnly Departure.lateStoresUnsure }, { on := 12, ground := Ground.textOnly Departure.lateStores }], guard := none }) rfl (fun K hK => ?_) ?_
              · refine step_store_mid (by rfl) 26 _ _ (by rfl) w.heap.size 0 #[.int .i64 r.f, .int .i64 r.ev, .int .i64 r.ct, .int .i64 r.un, .slice m.a0 r.ds.length m.c0, .slice m.a1 r.da.length m.c1, .slice m.a2 r.mo.length m.c2, .slice m.a3 r.pl.length m.c3, .int .i64 r.wk] (by rfl) (by rfl) (K9.out.z.there _ rfl) ruleSize (by simp [Value.oneCell']) ?_
                have SX : CF (w9.setCells w.heap.size 0 (#[.int .i64 r.f, .int .i64 r.ev, .int .i64 r.ct, .int .i64 r.un, .slice m.a0 r.ds.length m.c0, .slice m.a1 r.da.length m.c1, .slice m.a2 r.mo.length m.c2, .slice m.a3 r.pl.length m.c3, .int .i64 r.wk] : Array Value).toList) X #[.int .i64 r.f, .int .i64 r.ev, .int .i64 r.ct, .int .i64 r.un, .slice m.a0 r.ds.length m.c0, .slice m.a1 r.da.length m.c1, .slice m.a2 r.mo.length m.c2, .slice m.a3 r.pl.length m.c3, .int .i64 r.wk] := CF.apart (by have := K9.out.rx; omega) _ _ _ K9.out.c
                have FR : CF (w9.setCells w.heap.size 0 (#[.int .i64 r.f, .int .i64 r.ev, .int .i64 r.ct, .int .i64 r.un, .slice m.a0 r.ds.length m.c0, .slice m.a1 r.da.length m.c1, .slice m.a2 r.mo.length m.c2, .slice m.a3 r.pl.length m.c3, .int .i64 r.wk] : Array Value).toList) w.heap.size #[.int .i64 r.f, .int .i64 r.ev, .int .i64 r.ct, .int .i64 r.un, .slice m.a0 r.ds.length m.c0, .slice m.a1 r.da.length m.c1, .slice m.a2 r.mo.length m.c2, .slice m.a3 r.pl.length m.c3, .int .i64 r.wk] := K9.out.z.setCells #[.int .i64 r.f, .int .i64 r.ev, .int .i64 r.ct, .int .i64 r.un, .slice m.a0 r.ds.length m.c0, .slice m.a1 r.da.length m.c1, .slice m.a2 r.mo.length m.c2, .slice m.a3 r.pl.length m.c3, .int .i64 r.wk] rfl
                have FIN : Hid (OL w.heap.size r m (w9.setCells w.heap.size 0 (#[.int .i64 r.f, .int .i64 r.ev, .int .i64 r.ct, .int .i64 r.un, .slice m.a0 r.ds.length m.c0, .slice m.a1 r.da.length m.c1, .slice m.a2 r.mo.length m.c2, .slice m.a3 r.pl.length m.c3, .int .i64 r.wk] : Array Value).toList) ∧ Below w.heap.size w (w9.setCells w.heap.size 0 (#[.int .i64 r.f, .int .i64 r.ev, .int .i64 r.ct, .int .i64 r.un, .slice m.a0 r.ds.length m.c0, .slice m.a1 r.da.length m.c1, .slice m.a2 r.mo.length m.c2, .slice m.a3 r.pl.length m.c3, .int .i64 r.wk] : Array Value).toList)) := ⟨(OL.setCells (by omega) _ _ _ K9.out.l).down (by omega), (But.setCells (Nat.le_refl _) _ _ _ K9.out.b).below (by omega)⟩
                have CLF : ∀ i, i < D.length → (w9.setCells w.heap.size 0 (#[.int .i64 r.f, .int .i64 r.ev, .int .i64 r.ct, .int .i64 r.un, .slice m.a0 r.ds.length m.c0, .slice m.a1 r.da.length m.c1, .slice m.a2 r.mo.length m.c2, .slice m.a3 r.pl.length m.c3, .int .i64 r.wk] : Array Value).toList).cell? ⟨lb, lo + i, none⟩ = some (.int .i64 (gi D i)) := fun i hi => by rw [World.cell?_setCells_out _ _ _ _ _ (fun e => absurd e (by show lb ≠ w.heap.size; omega))]; exact CL9 i hi
                generalize w9.setCells w.heap.size 0 (#[.int .i64 r.f, .int .i64 r.ev, .int .i64 r.ct, .int .i64 r.un, .slice m.a0 r.ds.length m.c0, .slice m.a1 r.da.length m.c1, .slice m.a2 r.mo.length m.c2, .slice m.a3 r.pl.length m.c3, .int .i64 r.wk] : Array Value).toList = WF at SX FR FIN CLF ⊢
                refine hK.out _ _ ⟨SX, CLF⟩ (fun hHeld => ?_)
                clear hK K
                (try simp only [Act.put])
                refine wpAnyH_take (i := 14) (oi := { dst := some 3, op := Op.assign (Operand.tmp 31), type := 3, pos := "l12_draw.go:357", after := #[{ on := 1, ground := Ground.data }, { on := 13, ground := Ground.chain }, { on := 0, ground := Ground.phase }, { on := 1, ground := Ground.phase }, { on := 2, ground := Ground.textOnly Departure.lateStores }, { on := 3, ground := Ground.textOnly Departure.lateStores }, { on := 4, ground := Ground.textOnly Departure.lateStores }, { on := 5, ground := Ground.textOnly Departure.lateStoresUnsure }, { on := 6, ground := Ground.textOnly Departure.lateStoresUnsure }, { on := 7, ground := Ground.textOnly Departure.lateStores }, { on := 8, ground := Ground.textOnly Departure.lateStores }, { on := 9, ground := Ground.textOnly Departure.lateStores }, { on := 10, ground := Ground.textOnly Departure.lateStores }, { on := 11, ground := Ground.textOnly Departure.lateStoresUnsure }, { on := 12, ground := Ground.textOnly Departure.lateStores }, { on := 13, ground := Ground.phase }], guard := none }) (v := ?_) rfl (by kernel_rfl) (by kernel_rfl) (by kernel_rfl) (fun _ _ _ h => h) (Or.inl ⟨by rfl, ?_⟩) hHeld ?_
                rotate_left
                · (intro w9 hC9; go_simp; first | done | rfl)
                (try simp only [Act.put, List.setIfInBounds_toArray, List.set_cons_zero, List.set_cons_succ])
                refine wpAnyH_take (i := 15) (oi := { dst := some 4, op := Op.assign (Operand.tmp 42), type := 3, pos := "l12_draw.go:357", after := #[{ on := 12, ground := Ground.data }, { on := 14, ground := Ground.chain }, { on := 0, ground := Ground.phase }, { on := 1, ground := Ground.phase }, { on := 2, ground := Ground.phase }, { on := 3, ground := Ground.phase }, { on := 4, ground := Ground.phase }, { on := 5, ground := Ground.phase }, { on := 6, ground := Ground.phase }, { on := 7, ground := Ground.phase }, { on := 8, ground := Ground.phase }, { on := 9, ground := Ground.phase }, { on := 10, ground := Ground.phase }, { on := 11, ground := Ground.phase }, { on := 12, ground := Ground.phase }, { on := 13, ground := Ground.phase }, { on := 14, ground := Ground.phase }], guard := none }) (v := ?_) rfl (by kernel_rfl) (by kernel_rfl) (by kernel_rfl) (fun _ _ _ h => h) (Or.inl ⟨by rfl, ?_⟩) hHeld ?_
                rotate_left
                · (intro w9 hC9; go_simp; first | done | rfl)
                (try simp only [Act.put, List.setIfInBounds_toArray, List.set_cons_zero, List.set_cons_succ])
                refine wpAnyH_done (by kernel_rfl) ?_ _
                have z0 := (FR.2 0 _ rfl).1
                have z1 := (FR.2 1 _ rfl).1
                have z2 := (FR.2 2 _ rfl).1
                have z3 := (FR.2 3 _ rfl).1
                have z4 := (FR.2 4 _ rfl).1
                have z5 := (FR.2 5 _ rfl).1
                have z6 := (FR.2 6 _ rfl).1
                have z7 := (FR.2 7 _ rfl).1
                have z8 := (FR.2 8 _ rfl).1
                clear SX FR hHeld
                go_wp2
                refine bodyPost_ret (v := .tuple #[.agg #[.int .i64 r.f, .int .i64 r.ev, .int .i64 r.ct, .int .i64 r.un, .slice m.a0 r.ds.length m.c0, .slice m.a1 r.da.length m.c1, .slice m.a2 r.mo.length m.c2, .slice m.a3 r.pl.length m.c3, .int .i64 r.wk], .int .i64 s, .int .i64 (gi D y.toNat + x)]) (by simp [results, Tryd.results21, go_sem, *]) rfl ⟨r, m, _, _, rfl, FIN.out.1, SM.out, ⟨by omega, by omega⟩, ⟨by omega, by omega⟩, FIN.out.2⟩
              exact AllReadyH.nil
            exact AllReadyH.nil
          exact AllReadyH.nil
        exact AllReadyH.nil
      · clear HI7 HD HL
        go_upto_region 8 with fail
        have KD : Hid (RD w X 66 r m w7.drew) := K7.out.dr
        refine wp_region_held_drew (S := (fun w' => CF w' X #[.int .i64 r.f, .int .i64 r.ev, .int .i64 r.ct, .int .i64 r.un, .slice m.a0 r.ds.length m.c0, .slice m.a1 r.da.length m.c1, .slice m.a2 r.mo.length m.c2, .slice m.a3 r.pl.length m.c3, .int .i64 r.wk])) (by kernel_rfl) KD.out.c (fun hHeld => ?_)
        refine wpAnyH_take (i := 0) (oi := { dst := some 43, op := Op.load 26 (Operand.tmp 6), type := 26, pos := "l12_draw.go:360", after := #[], guard := none }) (v := .agg ([.int .i64 r.f, .int .i64 r.ev, .int .i64 r.ct, .int .i64 r.un, .slice m.a0 r.ds.length m.c0, .slice m.a1 r.da.length m.c1, .slice m.a2 r.mo.length m.c2, .slice m.a3 r.pl.length m.c3, .int .i64 r.wk] : List Value).toArray) rfl (by kernel_rfl) (by kernel_rfl) (by kernel_rfl) (fun _ _ _ h => h) (yieldsIf_load_mid rfl 26 (.tmp 6) rfl X 0 rfl [.int .i64 r.f, .int .i64 r.ev, .int .i64 r.ct, .int .i64 r.un, .slice m.a0 r.ds.length m.c0, .slice m.a1 r.da.length m.c1, .slice m.a2 r.mo.length m.c2, .slice m.a3 r.pl.length m.c3, .int .i64 r.wk] _ (fun w' hb => CF.range hb) Tryd.underlying26 rfl ruleSize) hHeld ?_
        (try simp only [Act.put, List.setIfInBounds_toArray, List.set_cons_zero, List.set_cons_succ])
        refine wpAnyH_take (i := 1) (oi := { dst := some 44, op := Op.move (Operand.tmp 7), type := 3, pos := "l12_draw.go:360", after := #[{ on := 7, ground := Ground.gcOnly Departure.lateStores }], guard := none }) (v := ?_) rfl (by kernel_rfl) (by kernel_rfl) (by kernel_rfl) (fun _ _ _ h => h) (Or.inl ⟨by rfl, ?_⟩) hHeld ?_
        rotate_left
        · (intro w9 hC9; go_simp; first | done | rfl)
        (try simp only [Act.put, List.setIfInBounds_toArray, List.set_cons_zero, List.set_cons_succ])
        refine wpAnyH_take (i := 2) (oi := { dst := some 45, op := Op.move (Operand.tmp 7), type := 3, pos := "l12_draw.go:360", after := #[{ on := 8, ground := Ground.gcOnly Departure.lateStores }], guard := none }) (v := ?_) rfl (by kernel_rfl) (by kernel_rfl) (by kernel_rfl) (fun _ _ _ h => h) (Or.inl ⟨by rfl, ?_⟩) hHeld ?_
        rotate_left
        · (intro w9 hC9; go_simp; first | done | rfl)
        (try simp only [Act.put, List.setIfInBounds_toArray, List.set_cons_zero, List.set_cons_succ])
        refine wpAnyH_take (i := 3) (oi := { dst := some 46, op := Op.move (Operand.tmp 5), type := 44, pos := "l12_draw.go:360", after := #[], guard := none }) (v := ?_) rfl (by kernel_rfl) (by kernel_rfl) (by kernel_rfl) (fun _ _ _ h => h) (Or.inl ⟨by rfl, ?_⟩) hHeld ?_
        rotate_left
        · (intro w9 hC9; go_simp; first | done | rfl)
        (try simp only [Act.put, List.setIfInBounds_toArray, List.set_cons_zero, List.set_cons_succ])
        refine wpAnyH_ready (rs := [4]) (by kernel_rfl) (by simp) ?_
        refine AllReadyH.cons (o := { dst := some 47, op := Op.call { callee := Callee.value (Operand.func 36), args := #[Operand.tmp 46, Operand.const (Value.int IntKind.i64 256)], argTypes := #[44, 3] }, type := 3, pos := "l12_draw.go:360", after := #[{ on := 3, ground := Ground.data }], guard := none }) rfl (fun K hK => ?_) ?_
        · go_simp
          go_at_call 36
          refine (pick_pos _ w7.drew _ _ KD.out.rd (by omega) (by omega)).mono ?_
          rintro e w8 ⟨⟨p, rfl, p0, p1⟩, hr8, hb8⟩
          have K8 : Hid (RD w X 67 r m w8) := KD.out.step hb8 hr8
          refine hK.out _ _ K8.out.c (fun hHeld => ?_)
          clear hK K
          (try simp only [Act.put, List.setIfInBounds_toArray, List.set_cons_zero, List.set_cons_succ])
          have g1 := IntWalk.i64_in (s + p) (by omega)
          have g2 := IntWalk.i64_in (s + p - 2) (by omega)
          refine wpAnyH_take (i := 5) (oi := { dst := some 48, op := Op.binOp BinOp.add 3 (Operand.tmp 45) (Operand.tmp 47) 3, type := 3, pos := "l12_draw.go:360", after := #[{ on := 2, ground := Ground.data }, { on := 4, ground := Ground.data }, { on := 8, ground := Ground.gcOnly Departure.lateStores }], guard := none }) (v := ?_) rfl (by kernel_rfl) (by kernel_rfl) (by kernel_rfl) (fun _ _ _ h => h) (Or.inl ⟨by rfl, ?_⟩) hHeld ?_
          rotate_left
          · (intro w9 hC9; go_simp; first | done | rfl)
          (try simp only [Act.put, List.setIfInBounds_toArray, List.set_cons_zero, List.set_cons_succ])
          refine wpAnyH_take (i := 6) (oi := { dst := some 49, op := Op.binOp BinOp.sub 3 (Operand.tmp 48) (Operand.const (Value.int IntKind.i64 2)) 3, type := 3, pos := "l12_draw.go:360", after := #[{ on := 5, ground := Ground.data }, { on := 8, ground := Ground.gcOnly Departure.lateStores }], guard := none }) (v := ?_) rfl (by kernel_rfl) (by kernel_rfl) (by kernel_rfl) (fun _ _ _ h => h) (Or.inl ⟨by rfl, ?_⟩) hHeld ?_
          rotate_left
          · (intro w9 hC9; go_simp; first | done | rfl)
          (try simp only [Act.put, List.setIfInBounds_toArray, List.set_cons_zero, List.set_cons_succ])
          refine wpAnyH_ready (rs := [7]) (by kernel_rfl) (by simp) ?_
          refine AllReadyH.cons (o := { dst := none, op := Op.store 26 (Operand.tmp 2) (Operand.tmp 43), type := 0, pos := "l12_draw.go:360", after := #[{ on := 0, ground := Ground.data }, { on := 4, ground := Ground.chain }, { on := 0, ground := Ground.phase }, { on := 1, ground := Ground.textOnly Departure.lateStores }, { on := 2, ground := Ground.textOnly Departure.lateStores }, { on := 3, ground := Ground.textOnly Departure.lateStores }, { on := 4, ground := Ground.textOnly Departure.lateStoresUnsure }, { on := 5, ground := Ground.textOnly Departure.lateStores }, { on := 6, ground := Ground.textOnly Departure.lateStores }], guard := none }) rfl (fun K hK => ?_) ?_
          · refine step_store_mid (by rfl) 26 _ _ (by rfl) w.heap.size 0 #[.int .i64 r.f, .int .i64 r.ev, .int .i64 r.ct, .int .i64 r.un, .slice m.a0 r.ds.length m.c0, .slice m.a1 r.da.length m.c1, .slice m.a2 r.mo.length m.c2, .slice m.a3 r.pl.length m.c3, .int .i64 r.wk] (by rfl) (by rfl) (K8.out.z.there _ rfl) ruleSize (by simp [Value.oneCell']) ?_
            have SX : CF (w8.setCells w.heap.size 0 (#[.int .i64 r.f, .int .i64 r.ev, .int .i64 r.ct, .int .i64 r.un, .slice m.a0 r.ds.length m.c0, .slice m.a1 r.da.length m.c1, .slice m.a2 r.mo.length m.c2, .slice m.a3 r.pl.length m.c3, .int .i64 r.wk] : Array Value).toList) X #[.int .i64 r.f, .int .i64 r.ev, .int .i64 r.ct, .int .i64 r.un, .slice m.a0 r.ds.length m.c0, .slice m.a1 r.da.length m.c1, .slice m.a2 r.mo.length m.c2, .slice m.a3 r.pl.length m.c3, .int .i64 r.wk] := CF.apart (by have := K8.out.rx; omega) _ _ _ K8.out.c
            have FR : CF (w8.setCells w.heap.size 0 (#[.int .i64 r.f, .int .i64 r.ev, .int .i64 r.ct, .int .i64 r.un, .slice m.a0 r.ds.length m.c0, .slice m.a1 r.da.length m.c1, .slice m.a2 r.mo.length m.c2, .slice m.a3 r.pl.length m.c3, .int .i64 r.wk] : Array Value).toList) w.heap.size #[.int .i64 r.f, .int .i64 r.ev, .int .i64 r.ct, .int .i64 r.un, .slice m.a0 r.ds.length m.c0, .slice m.a1 r.da.length m.c1, .slice m.a2 r.mo.length m.c2, .slice m.a3 r.pl.length m.c3, .int .i64 r.wk] := K8.out.z.setCells #[.int .i64 r.f, .int .i64 r.ev, .int .i64 r.ct, .int .i64 r.un, .slice m.a0 r.ds.length m.c0, .slice m.a1 r.da.length m.c1, .slice m.a2 r.mo.length m.c2, .slice m.a3 r.pl.length m.c3, .int .i64 r.wk] rfl
            have FIN : Hid (OL w.heap.size r m (w8.setCells w.heap.size 0 (#[.int .i64 r.f, .int .i64 r.ev, .int .i64 r.ct, .int .i64 r.un, .slice m.a0 r.ds.length m.c0, .slice m.a1 r.da.length m.c1, .slice m.a2 r.mo.length m.c2, .slice m.a3 r.pl.length m.c3, .int .i64 r.wk] : Array Value).toList) ∧ Below w.heap.size w (w8.setCells w.heap.size 0 (#[.int .i64 r.f, .int .i64 r.ev, .int .i64 r.ct, .int .i64 r.un, .slice m.a0 r.ds.length m.c0, .slice m.a1 r.da.length m.c1, .slice m.a2 r.mo.length m.c2, .slice m.a3 r.pl.length m.c3, .int .i64 r.wk] : Array Value).toList)) := ⟨(OL.setCells (by omega) _ _ _ K8.out.l).down (by omega), (But.setCells (Nat.le_refl _) _ _ _ K8.out.b).below (by omega)⟩
            generalize w8.setCells w.heap.size 0 (#[.int .i64 r.f, .int .i64 r.ev, .int .i64 r.ct, .int .i64 r.un, .slice m.a0 r.ds.length m.c0, .slice m.a1 r.da.length m.c1, .slice m.a2 r.mo.length m.c2, .slice m.a3 r.pl.length m.c3, .int .i64 r.wk] : Array Value).toList = WF at SX FR FIN ⊢
            refine hK.out _ _ SX (fun hHeld => ?_)
            clear hK K
            (try simp only [Act.put])
            refine wpAnyH_take (i := 8) (oi := { dst := some 3, op := Op.assign (Operand.tmp 44), type := 3, pos := "l12_draw.go:360", after := #[{ on := 1, ground := Ground.data }, { on := 7, ground := Ground.chain }, { on := 0, ground := Ground.phase }, { on := 1, ground := Ground.phase }, { on := 2, ground := Ground.textOnly Departure.lateStores }, { on := 3, ground := Ground.textOnly Departure.lateStores }, { on := 4, ground := Ground.textOnly Departure.lateStoresUnsure }, { on := 5, ground := Ground.textOnly Departure.lateStores }, { on := 6, ground := Ground.textOnly Departure.lateStores }, { on := 7, ground := Ground.phase }], guard := none }) (v := ?_) rfl (by kernel_rfl) (by kernel_rfl) (by kernel_rfl) (fun _ _ _ h => h) (Or.inl ⟨by rfl, ?_⟩) hHeld ?_
            rotate_left
            · (intro w9 hC9; go_simp; first | done | rfl)
            (try simp only [Act.put, List.setIfInBounds_toArray, List.set_cons_zero, List.set_cons_succ])
            refine wpAnyH_take (i := 9) (oi := { dst := some 4, op := Op.assign (Operand.tmp 49), type := 3, pos := "l12_draw.go:360", after := #[{ on := 6, ground := Ground.data }, { on := 8, ground := Ground.chain }, { on := 0, ground := Ground.phase }, { on := 1, ground := Ground.phase }, { on := 2, ground := Ground.phase }, { on := 3, ground := Ground.phase }, { on := 4, ground := Ground.phase }, { on := 5, ground := Ground.phase }, { on := 6, ground := Ground.phase }, { on := 7, ground := Ground.phase }, { on := 8, ground := Ground.phase }], guard := none }) (v := ?_) rfl (by kernel_rfl) (by kernel_rfl) (by kernel_rfl) (fun _ _ _ h => h) (Or.inl ⟨by rfl, ?_⟩) hHeld ?_
            rotate_left
            · (intro w9 hC9; go_simp; first | done | rfl)
            (try simp only [Act.put, List.setIfInBounds_toArray, List.set_cons_zero, List.set_cons_succ])
            refine wpAnyH_done (by kernel_rfl) ?_ _
            have z0 := (FR.2 0 _ rfl).1
            have z1 := (FR.2 1 _ rfl).1
            have z2 := (FR.2 2 _ rfl).1
            have z3 := (FR.2 3 _ rfl).1
            have z4 := (FR.2 4 _ rfl).1
            have z5 := (FR.2 5 _ rfl).1
            have z6 := (FR.2 6 _ rfl).1
            have z7 := (FR.2 7 _ rfl).1
            have z8 := (FR.2 8 _ rfl).1
            clear SX FR hHeld
            go_wp2
            refine bodyPost_ret (v := .tuple #[.agg #[.int .i64 r.f, .int .i64 r.ev, .int .i64 r.ct, .int .i64 r.un, .slice m.a0 r.ds.length m.c0, .slice m.a1 r.da.length m.c1, .slice m.a2 r.mo.length m.c2, .slice m.a3 r.pl.length m.c3, .int .i64 r.wk], .int .i64 s, .int .i64 (s + p - 2)]) (by simp [results, Tryd.results21, go_sem, *]) rfl ⟨r, m, _, _, rfl, FIN.out.1, SM.out, ⟨by omega, by omega⟩, ⟨by omega, by omega⟩, FIN.out.2⟩
          exact AllReadyH.nil
        exact AllReadyH.nil
    · have h0 : (q == 0) = false := beq_eq_false_iff_ne.2 e0
      clear e0
      have K7 : Hid (RD w X 66 r m w6) := K6.out
      clear K6
      generalize w6 = w7 at *
      go_upto_region 8 with fail
      have KD : Hid (RD w X 66 r m w7.drew) := K7.out.dr
      refine wp_region_held_drew (S := (fun w' => CF w' X #[.int .i64 r.f, .int .i64 r.ev, .int .i64 r.ct, .int .i64 r.un, .slice m.a0 r.ds.length m.c0, .slice m.a1 r.da.length m.c1, .slice m.a2 r.mo.length m.c2, .slice m.a3 r.pl.length m.c3, .int .i64 r.wk])) (by kernel_rfl) KD.out.c (fun hHeld => ?_)
      refine wpAnyH_take (i := 0) (oi := { dst := some 43, op := Op.load 26 (Operand.tmp 6), type := 26, pos := "l12_draw.go:360", after := #[], guard := none }) (v := .agg ([.int .i64 r.f, .int .i64 r.ev, .int .i64 r.ct, .int .i64 r.un, .slice m.a0 r.ds.length m.c0, .slice m.a1 r.da.length m.c1, .slice m.a2 r.mo.length m.c2, .slice m.a3 r.pl.length m.c3, .int .i64 r.wk] : List Value).toArray) rfl (by kernel_rfl) (by kernel_rfl) (by kernel_rfl) (fun _ _ _ h => h) (yieldsIf_load_mid rfl 26 (.tmp 6) rfl X 0 rfl [.int .i64 r.f, .int .i64 r.ev, .int .i64 r.ct, .int .i64 r.un, .slice m.a0 r.ds.length m.c0, .slice m.a1 r.da.length m.c1, .slice m.a2 r.mo.length m.c2, .slice m.a3 r.pl.length m.c3, .int .i64 r.wk] _ (fun w' hb => CF.range hb) Tryd.underlying26 rfl ruleSize) hHeld ?_
      (try simp only [Act.put, List.setIfInBounds_toArray, List.set_cons_zero, List.set_cons_succ])
      refine wpAnyH_take (i := 1) (oi := { dst := some 44, op := Op.move (Operand.tmp 7), type := 3, pos := "l12_draw.go:360", after := #[{ on := 7, ground := Ground.gcOnly Departure.lateStores }], guard := none }) (v := ?_) rfl (by kernel_rfl) (by kernel_rfl) (by kernel_rfl) (fun _ _ _ h => h) (Or.inl ⟨by rfl, ?_⟩) hHeld ?_
      rotate_left
      · (intro w9 hC9; go_simp; first | done | rfl)
      (try simp only [Act.put, List.setIfInBounds_toArray, List.set_cons_zero, List.set_cons_succ])
      refine wpAnyH_take (i := 2) (oi := { dst := some 45, op := Op.move (Operand.tmp 7), type := 3, pos := "l12_draw.go:360", after := #[{ on := 8, ground := Ground.gcOnly Departure.lateStores }], guard := none }) (v := ?_) rfl (by kernel_rfl) (by kernel_rfl) (by kernel_rfl) (fun _ _ _ h => h) (Or.inl ⟨by rfl, ?_⟩) hHeld ?_
      rotate_left
      · (intro w9 hC9; go_simp; first | done | rfl)
      (try simp only [Act.put, List.setIfInBounds_toArray, List.set_cons_zero, List.set_cons_succ])
      refine wpAnyH_take (i := 3) (oi := { dst := some 46, op := Op.move (Operand.tmp 5), type := 44, pos := "l12_draw.go:360", after := #[], guard := none }) (v := ?_) rfl (by kernel_rfl) (by kernel_rfl) (by kernel_rfl) (fun _ _ _ h => h) (Or.inl ⟨by rfl, ?_⟩) hHeld ?_
      rotate_left
      · (intro w9 hC9; go_simp; first | done | rfl)
      (try simp only [Act.put, List.setIfInBounds_toArray, List.set_cons_zero, List.set_cons_succ])
      refine wpAnyH_ready (rs := [4]) (by kernel_rfl) (by simp) ?_
      refine AllReadyH.cons (o := { dst := some 47, op := Op.call { callee := Callee.value (Operand.func 36), args := #[Operand.tmp 46, Operand.const (Value.int IntKind.i64 256)], argTypes := #[44, 3] }, type := 3, pos := "l12_draw.go:360", after := #[{ on := 3, ground := Ground.data }], guard := none }) rfl (fun K hK => ?_) ?_
      · go_simp
        go_at_call 36
        refine (pick_pos _ w7.drew _ _ KD.out.rd (by omega) (by omega)).mono ?_
        rintro e w8 ⟨⟨p, rfl, p0, p1⟩, hr8, hb8⟩
        have K8 : Hid (RD w X 67 r m w8) := KD.out.step hb8 hr8
        refine hK.out _ _ K8.out.c (fun hHeld => ?_)
        clear hK K
        (try simp only [Act.put, List.setIfInBounds_toArray, List.set_cons_zero, List.set_cons_succ])
        have g1 := IntWalk.i64_in (s + p) (by omega)
        have g2 := IntWalk.i64_in (s + p - 2) (by omega)
        refine wpAnyH_take (i := 5) (oi := { dst := some 48, op := Op.binOp BinOp.add 3 (Operand.tmp 45) (Operand.tmp 47) 3, type := 3, pos := "l12_draw.go:360", after := #[{ on := 2, ground := Ground.data }, { on := 4, ground := Ground.data }, { on := 8, ground := Ground.gcOnly Departure.lateStores }], guard := none }) (v := ?_) rfl (by kernel_rfl) (by kernel_rfl) (by kernel_rfl) (fun _ _ _ h => h) (Or.inl ⟨by rfl, ?_⟩) hHeld ?_
        rotate_left
        · (intro w9 hC9; go_simp; first | done | rfl)
        (try simp only [Act.put, List.setIfInBounds_toArray, List.set_cons_zero, List.set_cons_succ])
        refine wpAnyH_take (i := 6) (oi := { dst := some 49, op := Op.binOp BinOp.sub 3 (Operand.tmp 48) (Operand.const (Value.int IntKind.i64 2)) 3, type := 3, pos := "l12_draw.go:360", after := #[{ on := 5, ground := Ground.data }, { on := 8, ground := Ground.gcOnly Departure.lateStores }], guard := none }) (v := ?_) rfl (by kernel_rfl) (by kernel_rfl) (by kernel_rfl) (fun _ _ _ h => h) (Or.inl ⟨by rfl, ?_⟩) hHeld ?_
        rotate_left
        · (intro w9 hC9; go_simp; first | done | rfl)
        (try simp only [Act.put, List.setIfInBounds_toArray, List.set_cons_zero, List.set_cons_succ])
        refine wpAnyH_ready (rs := [7]) (by kernel_rfl) (by simp) ?_
        refine AllReadyH.cons (o := { dst := none, op := Op.store 26 (Operand.tmp 2) (Operand.tmp 43), type := 0, pos := "l12_draw.go:360", after := #[{ on := 0, ground := Ground.data }, { on := 4, ground := Ground.chain }, { on := 0, ground := Ground.phase }, { on := 1, ground := Ground.textOnly Departure.lateStores }, { on := 2, ground := Ground.textOnly Departure.lateStores }, { on := 3, ground := Ground.textOnly Departure.lateStores }, { on := 4, ground := Ground.textOnly Departure.lateStoresUnsure }, { on := 5, ground := Ground.textOnly Departure.lateStores }, { on := 6, ground := Ground.textOnly Departure.lateStores }], guard := none }) rfl (fun K hK => ?_) ?_
        · refine step_store_mid (by rfl) 26 _ _ (by rfl) w.heap.size 0 #[.int .i64 r.f, .int .i64 r.ev, .int .i64 r.ct, .int .i64 r.un, .slice m.a0 r.ds.length m.c0, .slice m.a1 r.da.length m.c1, .slice m.a2 r.mo.length m.c2, .slice m.a3 r.pl.length m.c3, .int .i64 r.wk] (by rfl) (by rfl) (K8.out.z.there _ rfl) ruleSize (by simp [Value.oneCell']) ?_
          have SX : CF (w8.setCells w.heap.size 0 (#[.int .i64 r.f, .int .i64 r.ev, .int .i64 r.ct, .int .i64 r.un, .slice m.a0 r.ds.length m.c0, .slice m.a1 r.da.length m.c1, .slice m.a2 r.mo.length m.c2, .slice m.a3 r.pl.length m.c3, .int .i64 r.wk] : Array Value).toList) X #[.int .i64 r.f, .int .i64 r.ev, .int .i64 r.ct, .int .i64 r.un, .slice m.a0 r.ds.length m.c0, .slice m.a1 r.da.length m.c1, .slice m.a2 r.mo.length m.c2, .slice m.a3 r.pl.length m.c3, .int .i64 r.wk] := CF.apart (by have := K8.out.rx; omega) _ _ _ K8.out.c
          have FR : CF (w8.setCells w.heap.size 0 (#[.int .i64 r.f, .int .i64 r.ev, .int .i64 r.ct, .int .i64 r.un, .slice m.a0 r.ds.length m.c0, .slice m.a1 r.da.length m.c1, .slice m.a2 r.mo.length m.c2, .slice m.a3 r.pl.length m.c3, .int .i64 r.wk] : Array Value).toList) w.heap.size #[.int .i64 r.f, .int .i64 r.ev, .int .i64 r.ct, .int .i64 r.un, .slice m.a0 r.ds.length m.c0, .slice m.a1 r.da.length m.c1, .slice m.a2 r.mo.length m.c2, .slice m.a3 r.pl.length m.c3, .int .i64 r.wk] := K8.out.z.setCells #[.int .i64 r.f, .int .i64 r.ev, .int .i64 r.ct, .int .i64 r.un, .slice m.a0 r.ds.length m.c0, .slice m.a1 r.da.length m.c1, .slice m.a2 r.mo.length m.c2, .slice m.a3 r.pl.length m.c3, .int .i64 r.wk] rfl
          have FIN : Hid (OL w.heap.size r m (w8.setCells w.heap.size 0 (#[.int .i64 r.f, .int .i64 r.ev, .int .i64 r.ct, .int .i64 r.un, .slice m.a0 r.ds.length m.c0, .slice m.a1 r.da.length m.c1, .slice m.a2 r.mo.length m.c2, .slice m.a3 r.pl.length m.c3, .int .i64 r.wk] : Array Value).toList) ∧ Below w.heap.size w (w8.setCells w.heap.size 0 (#[.int .i64 r.f, .int .i64 r.ev, .int .i64 r.ct, .int .i64 r.un, .slice m.a0 r.ds.length m.c0, .slice m.a1 r.da.length m.c1, .slice m.a2 r.mo.length m.c2, .slice m.a3 r.pl.length m.c3, .int .i64 r.wk] : Array Value).toList)) := ⟨(OL.setCells (by omega) _ _ _ K8.out.l).down (by omega), (But.setCells (Nat.le_refl _) _ _ _ K8.out.b).below (by omega)⟩
          generalize w8.setCells w.heap.size 0 (#[.int .i64 r.f, .int .i64 r.ev, .int .i64 r.ct, .int .i64 r.un, .slice m.a0 r.ds.length m.c0, .slice m.a1 r.da.length m.c1, .slice m.a2 r.mo.length m.c2, .slice m.a3 r.pl.length m.c3, .int .i64 r.wk] : Array Value).toList = WF at SX FR FIN ⊢
          refine hK.out _ _ SX (fun hHeld => ?_)
          clear hK K
          (try simp only [Act.put])
          refine wpAnyH_take (i := 8) (oi := { dst := some 3, op := Op.assign (Operand.tmp 44), type := 3, pos := "l12_draw.go:360", after := #[{ on := 1, ground := Ground.data }, { on := 7, ground := Ground.chain }, { on := 0, ground := Ground.phase }, { on := 1, ground := Ground.phase }, { on := 2, ground := Ground.textOnly Departure.lateStores }, { on := 3, ground := Ground.textOnly Departure.lateStores }, { on := 4, ground := Ground.textOnly Departure.lateStoresUnsure }, { on := 5, ground := Ground.textOnly Departure.lateStores }, { on := 6, ground := Ground.textOnly Departure.lateStores }, { on := 7, ground := Ground.phase }], guard := none }) (v := ?_) rfl (by kernel_rfl) (by kernel_rfl) (by kernel_rfl) (fun _ _ _ h => h) (Or.inl ⟨by rfl, ?_⟩) hHeld ?_
          rotate_left
          · (intro w9 hC9; go_simp; first | done | rfl)
          (try simp only [Act.put, List.setIfInBounds_toArray, List.set_cons_zero, List.set_cons_succ])
          refine wpAnyH_take (i := 9) (oi := { dst := some 4, op := Op.assign (Operand.tmp 49), type := 3, pos := "l12_draw.go:360", after := #[{ on := 6, ground := Ground.data }, { on := 8, ground := Ground.chain }, { on := 0, ground := Ground.phase }, { on := 1, ground := Ground.phase }, { on := 2, ground := Ground.phase }, { on := 3, ground := Ground.phase }, { on := 4, ground := Ground.phase }, { on := 5, ground := Ground.phase }, { on := 6, ground := Ground.phase }, { on := 7, ground := Ground.phase }, { on := 8, ground := Ground.phase }], guard := none }) (v := ?_) rfl (by kernel_rfl) (by kernel_rfl) (by kernel_rfl) (fun _ _ _ h => h) (Or.inl ⟨by rfl, ?_⟩) hHeld ?_
          rotate_left
          · (intro w9 hC9; go_simp; first | done | rfl)
          (try simp only [Act.put, List.setIfInBounds_toArray, List.set_cons_zero, List.set_cons_succ])
          refine wpAnyH_done (by kernel_rfl) ?_ _
          have z0 := (FR.2 0 _ rfl).1
          have z1 := (FR.2 1 _ rfl).1
          have z2 := (FR.2 2 _ rfl).1
          have z3 := (FR.2 3 _ rfl).1
          have z4 := (FR.2 4 _ rfl).1
          have z5 := (FR.2 5 _ rfl).1
          have z6 := (FR.2 6 _ rfl).1
          have z7 := (FR.2 7 _ rfl).1
          have z8 := (FR.2 8 _ rfl).1
          clear SX FR hHeld
          go_wp2
          refine bodyPost_ret (v := .tuple #[.agg #[.int .i64 r.f, .int .i64 r.ev, .int .i64 r.ct, .int .i64 r.un, .slice m.a0 r.ds.length m.c0, .slice m.a1 r.da.length m.c1, .slice m.a2 r.mo.length m.c2, .slice m.a3 r.pl.length m.c3, .int .i64 r.wk], .int .i64 s, .int .i64 (s + p - 2)]) (by simp [results, Tryd.results21, go_sem, *]) rfl ⟨r, m, _, _, rfl, FIN.out.1, SM.out, ⟨by omega, by omega⟩, ⟨by omega, by omega⟩, FIN.out.2⟩
        exact AllReadyH.nil
      exact AllReadyH.nil
end Go.Proofs.YtlfglhpepoepcaaDoor
namespace Go.Proofs.YtlfglhpepoepcaaDoor
open Go.RowKit
set_option linter.unusedVariables false
/-- A rule in its own block, its lists ahead of it: its numbers may be set. -/
structure RQ (w : World) (X : Nat) (r : Rl) (m : Rm) (W : World) : Prop where
  c : CF W X (rcs r m)
  old : ∃ W1 : World, W1.heap.size = X ∧ RAny W1 r m ∧ Below X W1 W
  bel : Below w.heap.size w W
  le : w.heap.size ≤ X
theorem RQ.any {w W : World} {X : Nat} {r : Rl} {m : Rm} (h : RQ w X r m W) : RAny W r m := by
  obtain ⟨W1, rfl, a, b⟩ := h.old
  exact a.on b
theorem RQ.on {w W W' : World} {X : Nat} {r : Rl} {m : Rm} (h : RQ w X r m W) (hb : Below W.heap.size W W') : RQ w X r m W' := by
  obtain ⟨W1, h1, a, b⟩ := h.old
  exact ⟨h.c.below hb, ⟨W1, h1, a, b.trans (hb.mono (Nat.le_of_lt h.c.1))⟩, bstep h.bel hb, h.le⟩
theorem RQ.put {w W : World} {X : Nat} {r r' : Rl} {m : Rm} (h : RQ w X r m W) (i : Nat) (v : Value) (hi : i < 9) (hc : rcs r' m = (rcs r m).set! i v) (h0 : r'.ds = r.ds) (h1 : r'.da = r.da) (h2 : r'.mo = r.mo) (h3 : r'.pl = r.pl) : RQ w X r' m (W.setCell ⟨X, i, none⟩ v) := by
  obtain ⟨W1, hX, a, b⟩ := h.old
  refine ⟨by rw [hc]; exact h.c.set i v (by unfold rcs; exact hi), ⟨W1, hX, ⟨by rw [h0]; exact a.l0, by rw [h1]; exact a.l1, by rw [h2]; exact a.l2, by rw [h3]; exact a.l3, ?_, a.tab⟩, b.setCell (p := ⟨X, i, none⟩) (Nat.le_refl _) v⟩, h.bel.setCell (p := ⟨X, i, none⟩) h.le v, h.le⟩
  obtain ⟨t, i1, i2, i3⟩ := a.mem
  exact ⟨by rw [h0]; exact t, by rw [h1]; exact i1, by rw [h2]; exact i2, by rw [h3]; exact i3⟩
theorem IsInts.kept {w W W' : World} {B : Nat} {a : Option Addr} {l : List Int} (h : IsInts w a l) (hb : Below w.heap.size w W) : IsInts W a l := h.below hb
theorem comes_re (f ev ct un ct' un' : Int) (ds : List (Int × Int)) (da mo pl : List Int) (wk s t : Int) : comes ⟨f, ev, ct, un, ds, da, mo, pl, wk⟩ s t = comes ⟨f, ev, ct', un', ds, da, mo, pl, wk⟩ s t := rfl
theorem may_re {f ev ct un ct' un' : Int} {ds : List (Int × Int)} {da mo pl : List Int} {wk s t : Int} (h : ofB f ev ct un wk = ofB f ev ct' un' wk) : mayB ⟨f, ev, ct, un, ds, da, mo, pl, wk⟩ s t = mayB ⟨f, ev, ct', un', ds, da, mo, pl, wk⟩ s t := by
  unfold mayB ruOf ruB
  simp only
  rw [h]
theorem of_ct {f ev wk c : Int} (h0 : 1 ≤ c) (h1 : c ≤ 9) : ofB f ev c 0 wk = ofB f ev 0 0 wk := by
  rw [Bool.eq_iff_iff, of_iff, of_iff]
  constructor
  · rintro h; omega
  · rintro h; omega
theorem count_law {f ev c : Int} {ds : List (Int × Int)} {da mo pl : List Int} {wk s t : Int} (h0 : 1 ≤ c) (h1 : c ≤ 9) : daysL ⟨f, ev, c, 0, ds, da, mo, pl, wk⟩ s t = (daysL ⟨f, ev, 0, 0, ds, da, mo, pl, wk⟩ s t).take c.toNat := by
  have hm : mayB ⟨f, ev, c, 0, ds, da, mo, pl, wk⟩ s t = mayB ⟨f, ev, 0, 0, ds, da, mo, pl, wk⟩ s t := may_re (of_ct h0 h1)
  cases hv : mayB ⟨f, ev, 0, 0, ds, da, mo, pl, wk⟩ s t with
  | false => rw [days_no hv, days_no (hm.trans hv)]; simp
  | true =>
    rw [days_eq hv, days_eq (hm.trans hv), comes_re f ev c 0 0 0]
    have e1 : (mostT ⟨f, ev, c, 0, ds, da, mo, pl, wk⟩ 200) = c := by unfold mostT; rw [if_pos]; exact ⟨by show 0 < c; omega, by show c < 200; omega⟩
    have e2 : (mostT ⟨f, ev, 0, 0, ds, da, mo, pl, wk⟩ 200) = 200 := by unfold mostT; rw [if_neg]; rintro ⟨h, _⟩; exact absurd h (by show ¬ (0 : Int) < 0; omega)
    have e3 : limT ⟨f, ev, c, 0, ds, da, mo, pl, wk⟩ t = limT ⟨f, ev, 0, 0, ds, da, mo, pl, wk⟩ t := rfl
    rw [e1, e2, e3, List.take_take]
    congr 1
    omega
end Go.Proofs.YtlfglhpepoepcaaDoor
namespace Go.Proofs.YtlfglhpepoepcaaDoor
open Go.RowKit
set_option linter.unusedVariables false
theorem until_law {f ev ct un : Int} {ds : List (Int × Int)} {da mo pl : List Int} {wk s t d : Int} (h : mayB ⟨f, ev, ct, un, ds, da, mo, pl, wk⟩ s t = true) (h0 : 1 ≤ d) (h1 : d ≤ t) : daysL ⟨f, ev, 0, d, ds, da, mo, pl, wk⟩ s t = daysL ⟨f, ev, 0, 0, ds, da, mo, pl, wk⟩ s d := by
  obtain ⟨hru, ⟨s0, s1⟩, ⟨t0, t1⟩, ht⟩ := may_ok h
  have hof : ofB f ev ct un wk = true := by unfold ruOf ruB at hru; simp only [Bool.and_eq_true] at hru; exact hru.1
  obtain ⟨a0, a1, _, _, _, a5⟩ := (of_iff _ _ _ _ _).1 hof
  have e1 : ofB f ev 0 d wk = true := (of_iff _ _ _ _ _).2 ⟨a0, a1, ⟨by omega, by omega⟩, ⟨by omega, by omega⟩, .inl rfl, a5⟩
  have e2 : ofB f ev 0 0 wk = true := (of_iff _ _ _ _ _).2 ⟨a0, a1, ⟨by omega, by omega⟩, ⟨by omega, by omega⟩, .inl rfl, a5⟩
  have m1 : mayB ⟨f, ev, 0, d, ds, da, mo, pl, wk⟩ s t = true := (may_re (by rw [e1, hof])).trans h
  have m2 : mayB ⟨f, ev, 0, 0, ds, da, mo, pl, wk⟩ s t = true := (may_re (by rw [e2, hof])).trans h
  have m3 : mayB ⟨f, ev, 0, 0, ds, da, mo, pl, wk⟩ s d = true := by
    unfold mayB
    rw [(may_ok m2).1, (in_iff _ _ _).2 ⟨s0, s1⟩, (in_iff d 0 3652058).2 ⟨by omega, by omega⟩]
    simp; omega
  rw [days_eq m1, days_eq m3, comes_re f ev 0 d 0 0]
  have q1 : limT ⟨f, ev, 0, d, ds, da, mo, pl, wk⟩ t = d := by
    unfold limT
    by_cases hd : d < t
    · rw [if_pos]; exact ⟨by show 0 < d; omega, hd⟩
    · rw [if_neg]; · omega
      · rintro ⟨_, q⟩; exact hd q
  have q2 : limT ⟨f, ev, 0, 0, ds, da, mo, pl, wk⟩ d = d := by
    unfold limT
    rw [if_neg]; rintro ⟨q, _⟩; exact absurd q (by show ¬ (0 : Int) < 0; omega)
  rw [q1, q2]
  rfl
set_option maxHeartbeats 4000000 in
theorem lawEpAsked (r : Rl) (m : Rm) (s d : Int) (w : World) (hr : RAny w r m) :
    Calls Tryd.prog 32 #[.agg #[.int .i64 r.f, .int .i64 r.ev, .int .i64 r.ct, .int .i64 r.un, .slice m.a0 r.ds.length m.c0, .slice m.a1 r.da.length m.c1, .slice m.a2 r.mo.length m.c2, .slice m.a3 r.pl.length m.c3, .int .i64 r.wk], .int .i64 s, .int .i64 d] w fun e w' => e = .returned (.bool (mayB r s d)) ∧ Below w.heap.size w w' := by
  obtain ⟨W0, hW0⟩ : ∃ W0, W0 = w.alloc (.cells #[.int .i64 r.f, .int .i64 r.ev, .int .i64 r.ct, .int .i64 r.un, .slice m.a0 r.ds.length m.c0, .slice m.a1 r.da.length m.c1, .slice m.a2 r.mo.length m.c2, .slice m.a3 r.pl.length m.c3, .int .i64 r.wk] 26) := ⟨_, rfl⟩
  have hb0 : Below w.heap.size w W0 := by rw [hW0]; exact (Below.refl _ w).alloc (Nat.le_refl _) _
  have HW0 : Hid (W0 = w.alloc (.cells #[.int .i64 r.f, .int .i64 r.ev, .int .i64 r.ct, .int .i64 r.un, .slice m.a0 r.ds.length m.c0, .slice m.a1 r.da.length m.c1, .slice m.a2 r.mo.length m.c2, .slice m.a3 r.pl.length m.c3, .int .i64 r.wk] 26)) := hW0
  have HB0 : Hid (Below w.heap.size w W0) := hb0
  have hr0 := hr.on hb0
  have HOK : Hid (Calls Tryd.prog 54 #[.agg #[.int .i64 r.f, .int .i64 r.ev, .int .i64 r.ct, .int .i64 r.un, .slice m.a0 r.ds.length m.c0, .slice m.a1 r.da.length m.c1, .slice m.a2 r.mo.length m.c2, .slice m.a3 r.pl.length m.c3, .int .i64 r.wk]] W0 fun z w' => z = .returned (.bool (ruOf r)) ∧ Below W0.heap.size W0 w') := implRuleOk _ _ _ _ _ _ _ _ _ _ _ _ _ _ _ _ _ W0 hr0.mem.t hr0.mem.d hr0.mem.o hr0.mem.p hr0.l0 hr0.l1 hr0.l2 hr0.l3
  clear hW0 hb0 hr0 hr
  cases h1 : ruOf r with
  | false =>
    rw [h1] at HOK
    have HV : Hid (mayB r s d = false) := by unfold Hid mayB; rw [h1]; rfl
    go_enter Tryd.func32, Tryd.ntmps32
    go_wp2_with fail
    rw [← HW0.out]
    refine HOK.out.mono ?_
    rintro e w1 ⟨rfl, b1⟩
    have HB1 : Hid (Below w.heap.size w w1) := bstep HB0.out b1
    clear b1
    go_wp2
    go_ret
    exact ⟨ret_b HV.out.symm, HB1.out⟩
  | true =>
    rw [h1] at HOK
    have HR : Hid (ruOf r = true) := h1
    clear h1
    by_cases s0 : s < 0
    · have hq : inB s 0 3652058 = false := (in_not _ _ _).2 (by omega)
      have HV : Hid (mayB r s d = false) := by unfold Hid mayB; rw [HR.out, hq]; rfl
      go_enter Tryd.func32, Tryd.ntmps32
      go_wp2_with fail
      rw [← HW0.out]
      refine HOK.out.mono ?_
      rintro e w1 ⟨rfl, b1⟩
      have HB1 : Hid (Below w.heap.size w w1) := bstep HB0.out b1
      clear b1
      go_wp2
      go_ret
      exact ⟨ret_b HV.out.symm, HB1.out⟩
    by_cases s1 : s > 3652058
    · have hq : inB s 0 3652058 = false := (in_not _ _ _).2 (by omega)
      have s0' : s ≥ 0 := by omega
      have HV : Hid (mayB r s d = false) := by unfold Hid mayB; rw [HR.out, hq]; rfl
      go_enter Tryd.func32, Tryd.ntmps32
      go_wp2_with fail
      rw [← HW0.out]
      refine HOK.out.mono ?_
      rintro e w1 ⟨rfl, b1⟩
      have HB1 : Hid (Below w.heap.size w w1) := bstep HB0.out b1
      clear b1
      go_wp2
      go_ret
      exact ⟨ret_b HV.out.symm, HB1.out⟩
    have hs : inB s 0 3652058 = true := (in_iff _ _ _).2 ⟨by omega, by omega⟩
    have s0' : s ≥ 0 := by omega
    have s1' : s ≤ 3652058 := by omega
    by_cases d0 : d < 0
    · have hq : inB d 0 3652058 = false := (in_not _ _ _).2 (by omega)
      have HV : Hid (mayB r s d = false) := by unfold Hid mayB; rw [HR.out, hs, hq]; rfl
      go_enter Tryd.func32, Tryd.ntmps32
      go_wp2_with fail
      rw [← HW0.out]
      refine HOK.out.mono ?_
      rintro e w1 ⟨rfl, b1⟩
      have HB1 : Hid (Below w.heap.size w w1) := bstep HB0.out b1
      clear b1
      go_wp2
      go_ret
      exact ⟨ret_b HV.out.symm, HB1.out⟩
    by_cases d1 : d > 3652058
    · have hq : inB d 0 3652058 = false := (in_not _ _ _).2 (by omega)
      have d0' : d ≥ 0 := by omega
      have HV : Hid (mayB r s d = false) := by unfold Hid mayB; rw [HR.out, hs, hq]; rfl
      go_enter Tryd.func32, Tryd.ntmps32
      go_wp2_with fail
      rw [← HW0.out]
      refine HOK.out.mono ?_
      rintro e w1 ⟨rfl, b1⟩
      have HB1 : Hid (Below w.heap.size w w1) := bstep HB0.out b1
      clear b1
      go_wp2
      go_ret
      exact ⟨ret_b HV.out.symm, HB1.out⟩
    have hd : inB d 0 3652058 = true := (in_iff _ _ _).2 ⟨by omega, by omega⟩
    have d0' : d ≥ 0 := by omega
    have d1' : d ≤ 3652058 := by omega
    have g1 := IntWalk.i64_in (d - s) (by omega)
    have HV : Hid (mayB r s d = decide (d - s ≤ 11000)) := by unfold Hid mayB; rw [HR.out, hs, hd]; rfl
    go_enter Tryd.func32, Tryd.ntmps32
    go_wp2_with fail
    rw [← HW0.out]
    refine HOK.out.mono ?_
    rintro e w1 ⟨rfl, b1⟩
    have HB1 : Hid (Below w.heap.size w w1) := bstep HB0.out b1
    clear b1
    go_wp2
    go_ret
    exact ⟨ret_b HV.out.symm, HB1.out⟩
end Go.Proofs.YtlfglhpepoepcaaDoor
namespace Go.Proofs.YtlfglhpepoepcaaDoor
open Go.RowKit
set_option linter.unusedVariables false
theorem ru_nopl {f ev ct un : Int} {ds : List (Int × Int)} {da mo pl : List Int} {wk : Int} (h : ruOf ⟨f, ev, ct, un, ds, da, mo, pl, wk⟩ = true) : ruOf ⟨f, ev, ct, un, ds, da, mo, [], wk⟩ = true := by
  unfold ruOf ruB liB at h ⊢
  simp only [Bool.and_eq_true, decide_eq_true_eq] at h ⊢
  obtain ⟨h1, h2, h3, h4, h5, h6, h7⟩ := h
  refine ⟨h1, h2, h3, ?_, h5, h6, ?_⟩
  · rintro ⟨q, _⟩; simp at q
  · rfl
theorem places_law {f ev ct un : Int} {ds : List (Int × Int)} {da mo pl : List Int} {wk s t d : Int} (h : d ∈ daysL ⟨f, ev, ct, un, ds, da, mo, pl, wk⟩ s t) (hc : ¬ 0 < ct) : onB ⟨f, ev, ct, un, ds, da, mo, [], wk⟩ s d = true := by
  obtain ⟨hm, hx⟩ := days_mem h
  have bd := days_bd h
  obtain ⟨hru, ⟨s0, s1⟩, ⟨t0, t1⟩, ht⟩ := may_ok hm
  have hX := ru_nopl hru
  have hm' : mayB ⟨f, ev, ct, un, ds, da, mo, [], wk⟩ s d = true := by
    unfold mayB
    rw [hX, (in_iff _ _ _).2 ⟨s0, s1⟩, (in_iff d 0 3652058).2 ⟨by omega, by omega⟩]
    simp; omega
  refine on_iff.2 ⟨hm', ?_⟩
  have e1 : mostT ⟨f, ev, ct, un, ds, da, mo, [], wk⟩ 20000 = 20000 := by unfold mostT; rw [if_neg]; rintro ⟨q, _⟩; exact hc q
  have e2 : limT ⟨f, ev, ct, un, ds, da, mo, [], wk⟩ d = d := by
    unfold limT
    rw [if_neg]
    rintro ⟨q1, q2⟩
    have := bd.2.2.1 q1
    exact absurd q2 (by show ¬ un < d; have : d ≤ un := this; omega)
  have hr := (ru_ok hX).1
  have ql : (comes ⟨f, ev, ct, un, ds, da, mo, [], wk⟩ s d).length ≤ (d + 1 - s).toNat := comes_len hr s0 s1
  rw [e1, e2, List.take_of_length_le (by omega)]
  refine (comes_iff hr s0 s1).2 ⟨?_, Int.le_refl _⟩
  obtain ⟨⟨a, k, hk⟩, _⟩ := (comes_iff (ru_ok hru).1 s0 s1).1 hx
  refine ⟨a, k, ?_⟩
  unfold chJ choice at hk ⊢
  rw [if_pos (show ([] : List Int).length = 0 from rfl)]
  split at hk
  · exact hk
  · exact plL_mem (Nat.le_refl _) hk
theorem implRuleOn_yes (r : Rl) (m : Rm) (s d : Int) (w : World) (hr : RAny w r m) (h : onB r s d = true) :
    Calls Tryd.prog 22 #[.agg #[.int .i64 r.f, .int .i64 r.ev, .int .i64 r.ct, .int .i64 r.un, .slice m.a0 r.ds.length m.c0, .slice m.a1 r.da.length m.c1, .slice m.a2 r.mo.length m.c2, .slice m.a3 r.pl.length m.c3, .int .i64 r.wk], .int .i64 s, .int .i64 d] w fun e w' => e = .returned (.bool true) ∧ Below w.heap.size w w' := by
  have := implRuleOn r m s d w hr
  rw [h] at this
  exact this
/-- A rule without its places, copied into a block of its own. -/
theorem RQ.nopl {w W : World} {X : Nat} {f ev ct un : Int} {ds : List (Int × Int)} {da mo pl : List Int} {wk : Int} {m : Rm} (h : RQ w X ⟨f, ev, ct, un, ds, da, mo, pl, wk⟩ m W) :
    RQ w W.heap.size ⟨f, ev, ct, un, ds, da, mo, [], wk⟩ ⟨m.a0, m.c0, m.a1, m.c1, m.a2, m.c2, none, 0⟩ (W.alloc (.cells #[.int .i64 f, .int .i64 ev, .int .i64 ct, .int .i64 un, .slice m.a0 ds.length m.c0, .slice m.a1 da.length m.c1, .slice m.a2 mo.length m.c2, .slice none 0 0, .int .i64 wk] 26)) := by
  have a := h.any
  obtain ⟨t, i1, i2, i3⟩ := a.mem
  have bA : Below W.heap.size W (W.alloc (.cells #[.int .i64 f, .int .i64 ev, .int .i64 ct, .int .i64 un, .slice m.a0 ds.length m.c0, .slice m.a1 da.length m.c1, .slice m.a2 mo.length m.c2, .slice none 0 0, .int .i64 wk] 26)) := (Below.refl _ _).alloc (Nat.le_refl _) _
  exact ⟨CF.new _ _ _, ⟨W, rfl, ⟨a.l0, a.l1, a.l2, Nat.zero_le _, ⟨t, i1, i2, .inl rfl⟩, a.tab⟩, bA⟩, bstep h.bel bA, h.bel.size⟩
end Go.Proofs.YtlfglhpepoepcaaDoor
namespace Go.Proofs.YtlfglhpepoepcaaDoor
open Go.RowKit
set_option linter.unusedVariables false
theorem implOn_is (f ev ct un : Int) (ds : List (Int × Int)) (da mo pl : List Int) (wk : Int) (m : Rm) (s d : Int) (b : Bool) (w : World) (hr : RAny w ⟨f, ev, ct, un, ds, da, mo, pl, wk⟩ m) (h : onB ⟨f, ev, ct, un, ds, da, mo, pl, wk⟩ s d = b) :
    Calls Tryd.prog 22 #[.agg #[.int .i64 f, .int .i64 ev, .int .i64 ct, .int .i64 un, .slice m.a0 ds.length m.c0, .slice m.a1 da.length m.c1, .slice m.a2 mo.length m.c2, .slice m.a3 pl.length m.c3, .int .i64 wk], .int .i64 s, .int .i64 d] w fun e w' => e = .returned (.bool b) ∧ Below w.heap.size w w' := by
  subst h; exact implRuleOn ⟨f, ev, ct, un, ds, da, mo, pl, wk⟩ m s d w hr
theorem specOn_is (f ev ct un : Int) (ds : List (Int × Int)) (da mo pl : List Int) (wk : Int) (m : Rm) (s d : Int) (b : Bool) (w : World) (hr : RAny w ⟨f, ev, ct, un, ds, da, mo, pl, wk⟩ m) (h : onB ⟨f, ev, ct, un, ds, da, mo, pl, wk⟩ s d = b) :
    Calls Tryd.prog 23 #[.agg #[.int .i64 f, .int .i64 ev, .int .i64 ct, .int .i64 un, .slice m.a0 ds.length m.c0, .slice m.a1 da.length m.c1, .slice m.a2 mo.length m.c2, .slice m.a3 pl.length m.c3, .int .i64 wk], .int .i64 s, .int .i64 d] w fun e w' => e = .returned (.bool b) ∧ Below w.heap.size w w' := by
  subst h; exact specRuleOn ⟨f, ev, ct, un, ds, da, mo, pl, wk⟩ m s d w hr
set_option maxRecDepth 100000 in
set_option maxHeartbeats 4000000 in
theorem drawRuleNext (w : World) (a : Option Addr) (len cap : Nat) (h : IsCode w a len cap) :
    Calls Tryd.prog 29 #[.slice a len cap] w fun e w' => ∃ r m s t, e = .returned (.tuple #[.agg (rcs r m), .int .i64 s, .int .i64 t]) ∧ OL w.heap.size r m w' ∧ Sml 4 r ∧ (0 ≤ s ∧ s ≤ 3652058) ∧ (0 ≤ t ∧ t ≤ 800000) ∧ Below w.heap.size w w' := by
  have bz : Below w.heap.size w (w.alloc (.cells (rcs ⟨0, 0, 0, 0, [], [], [], [], 0⟩ ⟨none, 0, none, 0, none, 0, none, 0⟩) 26)) := (Below.refl _ _).alloc (Nat.le_refl _) _
  have h0 : IsCode (w.alloc (.cells (rcs ⟨0, 0, 0, 0, [], [], [], [], 0⟩ ⟨none, 0, none, 0, none, 0, none, 0⟩) 26)) a len cap := h.below bz
  have Z0 : CF (w.alloc (.cells (rcs ⟨0, 0, 0, 0, [], [], [], [], 0⟩ ⟨none, 0, none, 0, none, 0, none, 0⟩) 26)) w.heap.size (rcs ⟨0, 0, 0, 0, [], [], [], [], 0⟩ ⟨none, 0, none, 0, none, 0, none, 0⟩) := CF.new w _ _
  have S0 : (w.alloc (.cells (rcs ⟨0, 0, 0, 0, [], [], [], [], 0⟩ ⟨none, 0, none, 0, none, 0, none, 0⟩) 26)).heap.size = w.heap.size + 1 := by simp
  have HW0 : Hid (w.alloc (.cells (rcs ⟨0, 0, 0, 0, [], [], [], [], 0⟩ ⟨none, 0, none, 0, none, 0, none, 0⟩) 26) = w.alloc (.cells #[.int .i64 0, .int .i64 0, .int .i64 0, .int .i64 0, .slice none 0 0, .slice none 0 0, .slice none 0 0, .slice none 0 0, .int .i64 0] 26)) := rfl
  generalize w.alloc (.cells (rcs ⟨0, 0, 0, 0, [], [], [], [], 0⟩ ⟨none, 0, none, 0, none, 0, none, 0⟩) 26) = W0 at bz h0 Z0 S0 HW0
  have HZ0 : Hid (CF W0 w.heap.size (rcs ⟨0, 0, 0, 0, [], [], [], [], 0⟩ ⟨none, 0, none, 0, none, 0, none, 0⟩)) := Z0
  have HBZ : Hid (Below w.heap.size w W0) := bz
  have HS0 : Hid (W0.heap.size = w.heap.size + 1) := S0
  clear h Z0 bz S0
  go_enter Tryd.func29, Tryd.ntmps29
  go_wp2_with fail
  rw [← HW0.out]
  refine (drawRuleOn W0 a len cap h0).mono ?_
  rintro e w1 ⟨r, m, s, t, rfl, O1, sm, sb, tb, b1⟩
  have hrc : rcs r m = #[.int .i64 r.f, .int .i64 r.ev, .int .i64 r.ct, .int .i64 r.un, .slice m.a0 r.ds.length m.c0, .slice m.a1 r.da.length m.c1, .slice m.a2 r.mo.length m.c2, .slice m.a3 r.pl.length m.c3, .int .i64 r.wk] := rfl
  rw [hrc]
  have Z1 := HZ0.out.below b1
  have hs0 := HS0.out
  rw [hs0] at O1
  have FIN : Hid (OL w.heap.size r m (w1.setCells w.heap.size 0 (rcs r m).toList) ∧ Below w.heap.size w (w1.setCells w.heap.size 0 (rcs r m).toList) ∧ CF (w1.setCells w.heap.size 0 (rcs r m).toList) w.heap.size (rcs r m)) := by
    refine ⟨(OL.setCells (by omega) _ _ _ O1).down (by omega), ?_, Z1.setCells (rcs r m) rfl⟩
    have b2 : Below w.heap.size w w1 := HBZ.out.trans (b1.mono (by omega))
    exact (But.setCells (rb := w.heap.size) (Nat.le_refl _) _ _ _ (But.of_below b2)).below (Nat.le_refl _)
  have Hsm : Hid (Sml 4 r) := sm
  clear sm O1 b1 HZ0 HBZ HS0 hs0 h0 HW0 hrc
  have z0 : w1.cell? ⟨w.heap.size, 0, none⟩ = some (.int .i64 0) := (Z1.2 0 _ rfl).1
  have f0 : w1.frozen? ⟨w.heap.size, 0, none⟩ = false := (Z1.2 0 _ rfl).2
  have z1 : w1.cell? ⟨w.heap.size, 1, none⟩ = some (.int .i64 0) := (Z1.2 1 _ rfl).1
  have f1 : w1.frozen? ⟨w.heap.size, 1, none⟩ = false := (Z1.2 1 _ rfl).2
  have z2 : w1.cell? ⟨w.heap.size, 2, none⟩ = some (.int .i64 0) := (Z1.2 2 _ rfl).1
  have f2 : w1.frozen? ⟨w.heap.size, 2, none⟩ = false := (Z1.2 2 _ rfl).2
  have z3 : w1.cell? ⟨w.heap.size, 3, none⟩ = some (.int .i64 0) := (Z1.2 3 _ rfl).1
  have f3 : w1.frozen? ⟨w.heap.size, 3, none⟩ = false := (Z1.2 3 _ rfl).2
  have z4 : w1.cell? ⟨w.heap.size, 4, none⟩ = some (.slice none 0 0) := (Z1.2 4 _ rfl).1
  have f4 : w1.frozen? ⟨w.heap.size, 4, none⟩ = false := (Z1.2 4 _ rfl).2
  have z5 : w1.cell? ⟨w.heap.size, 5, none⟩ = some (.slice none 0 0) := (Z1.2 5 _ rfl).1
  have f5 : w1.frozen? ⟨w.heap.size, 5, none⟩ = false := (Z1.2 5 _ rfl).2
  have z6 : w1.cell? ⟨w.heap.size, 6, none⟩ = some (.slice none 0 0) := (Z1.2 6 _ rfl).1
  have f6 : w1.frozen? ⟨w.heap.size, 6, none⟩ = false := (Z1.2 6 _ rfl).2
  have z7 : w1.cell? ⟨w.heap.size, 7, none⟩ = some (.slice none 0 0) := (Z1.2 7 _ rfl).1
  have f7 : w1.frozen? ⟨w.heap.size, 7, none⟩ = false := (Z1.2 7 _ rfl).2
  have z8 : w1.cell? ⟨w.heap.size, 8, none⟩ = some (.int .i64 0) := (Z1.2 8 _ rfl).1
  have f8 : w1.frozen? ⟨w.heap.size, 8, none⟩ = false := (Z1.2 8 _ rfl).2
  clear Z1
  go_wp2
  refine bodyPost_ret (v := .tuple #[.agg (rcs r m), .int .i64 s, .int .i64 t]) (by simp [results, Tryd.results29, go_sem, rcs, *]) rfl ⟨r, m, s, t, rfl, FIN.out.1, Hsm.out, sb, tb, FIN.out.2.1⟩
set_option maxRecDepth 100000 in
set_option maxHeartbeats 16000000 in
theorem lawRuleNext (a : Option Addr) (len cap : Nat) (w : World) (h : IsCode w a len cap) (ht : Tab w) :
    Calls Tryd.prog 8 #[.slice a len cap] w fun e w' => e = .returned (.bool true) ∧ Below w.heap.size w w' := by
  have hlen := h.1
  have HTB : Hid (Tab w) := ht
  clear ht
  by_cases hl : (len : Int) > 1048576
  · go_enter Tryd.func8, Tryd.ntmps8
    go_wp2
    go_ret
    exact ⟨rfl, Below.refl _ _⟩
  go_enter Tryd.func8, Tryd.ntmps8
  go_wp2_with fail
  refine (drawRuleNext w a len cap h).mono ?_
  rintro e w1 ⟨r, m, s, t, rfl, O1, sm, sb, tb, b1⟩
  obtain ⟨f, ev, ct, un, ds, da, mo, pl, wk⟩ := r
  have hrc : rcs ⟨f, ev, ct, un, ds, da, mo, pl, wk⟩ m = #[.int .i64 f, .int .i64 ev, .int .i64 ct, .int .i64 un, .slice m.a0 ds.length m.c0, .slice m.a1 da.length m.c1, .slice m.a2 mo.length m.c2, .slice m.a3 pl.length m.c3, .int .i64 wk] := rfl
  rw [hrc]
  clear hrc h
  have bA : Below w1.heap.size w1 (w1.alloc (.cells #[.int .i64 f, .int .i64 ev, .int .i64 ct, .int .i64 un, .slice m.a0 ds.length m.c0, .slice m.a1 da.length m.c1, .slice m.a2 mo.length m.c2, .slice m.a3 pl.length m.c3, .int .i64 wk] 26)) := (Below.refl _ _).alloc (Nat.le_refl _) _
  have K2 : RQ w w1.heap.size (⟨f, ev, ct, un, ds, da, mo, pl, wk⟩ : Rl) m (w1.alloc (.cells #[.int .i64 f, .int .i64 ev, .int .i64 ct, .int .i64 un, .slice m.a0 ds.length m.c0, .slice m.a1 da.length m.c1, .slice m.a2 mo.length m.c2, .slice m.a3 pl.length m.c3, .int .i64 wk] 26)) := ⟨CF.new _ _ _, ⟨w1, rfl, any_of (w := w) (B := w.heap.size) (r := ⟨f, ev, ct, un, ds, da, mo, pl, wk⟩) (O1.re rfl rfl rfl rfl) sm (HTB.out.on b1), bA⟩, b1.trans (bA.mono b1.size), b1.size⟩
  have HK2 : Hid (RQ w w1.heap.size (⟨f, ev, ct, un, ds, da, mo, pl, wk⟩ : Rl) m (w1.alloc (.cells #[.int .i64 f, .int .i64 ev, .int .i64 ct, .int .i64 un, .slice m.a0 ds.length m.c0, .slice m.a1 da.length m.c1, .slice m.a2 mo.length m.c2, .slice m.a3 pl.length m.c3, .int .i64 wk] 26))) := K2
  have SM : Hid (Sml 4 (⟨f, ev, ct, un, ds, da, mo, pl, wk⟩ : Rl)) := sm
  clear K2 bA O1 sm b1
  have t0 : 0 ≤ t := tb.1
  have t1 : t ≤ 800000 := tb.2
  have s0 : 0 ≤ s := sb.1
  have s1 : s ≤ 3652058 := sb.2
  clear sb tb
  have g1 := IntWalk.i64_in (t + 60) (by omega)
  have g2 := IntWalk.i64_in (t + 366) (by omega)
  go_wp2_with fail
  generalize w1.alloc (.cells #[.int .i64 f, .int .i64 ev, .int .i64 ct, .int .i64 un, .slice m.a0 ds.length m.c0, .slice m.a1 da.length m.c1, .slice m.a2 mo.length m.c2, .slice m.a3 pl.length m.c3, .int .i64 wk] 26) = W2 at HK2 ⊢
  generalize w1.heap.size = X at HK2 ⊢
  obtain ⟨N, hN⟩ : ∃ N, N = nextV ⟨f, ev, ct, un, ds, da, mo, pl, wk⟩ s t := ⟨_, rfl⟩
  have HN : Hid (nextV ⟨f, ev, ct, un, ds, da, mo, pl, wk⟩ s t = N) := hN.symm
  have HF : Hid (0 ≤ N → t ≤ N ∧ s ≤ N ∧ N ≤ t + 366 ∧ onB ⟨f, ev, ct, un, ds, da, mo, pl, wk⟩ s N = true ∧ ∀ k, t ≤ k → k < N → onB ⟨f, ev, ct, un, ds, da, mo, pl, wk⟩ s k = false) := fun q => by rw [hN] at q ⊢; exact next_facts q
  clear hN
  have C3 := implRuleNext ⟨f, ev, ct, un, ds, da, mo, pl, wk⟩ m s t W2 HK2.out.any
  rw [HN.out] at C3
  refine C3.mono ?_
  rintro e w3 ⟨rfl, b3⟩
  have K3 : RQ w X (⟨f, ev, ct, un, ds, da, mo, pl, wk⟩ : Rl) m w3 := HK2.out.on b3
  clear C3 b3 HK2
  have x0 : World.cell? w3 ⟨X, 0, none⟩ = some (.int .i64 f) := (K3.c.2 0 _ rfl).1
  have x1 : World.cell? w3 ⟨X, 1, none⟩ = some (.int .i64 ev) := (K3.c.2 1 _ rfl).1
  have x2 : World.cell? w3 ⟨X, 2, none⟩ = some (.int .i64 ct) := (K3.c.2 2 _ rfl).1
  have x3 : World.cell? w3 ⟨X, 3, none⟩ = some (.int .i64 un) := (K3.c.2 3 _ rfl).1
  have x4 : World.cell? w3 ⟨X, 4, none⟩ = some (.slice m.a0 ds.length m.c0) := (K3.c.2 4 _ rfl).1
  have x5 : World.cell? w3 ⟨X, 5, none⟩ = some (.slice m.a1 da.length m.c1) := (K3.c.2 5 _ rfl).1
  have x6 : World.cell? w3 ⟨X, 6, none⟩ = some (.slice m.a2 mo.length m.c2) := (K3.c.2 6 _ rfl).1
  have x7 : World.cell? w3 ⟨X, 7, none⟩ = some (.slice m.a3 pl.length m.c3) := (K3.c.2 7 _ rfl).1
  have x8 : World.cell? w3 ⟨X, 8, none⟩ = some (.int .i64 wk) := (K3.c.2 8 _ rfl).1
  have C4 := specRuleNext ⟨f, ev, ct, un, ds, da, mo, pl, wk⟩ m s t w3 K3.any
  rw [HN.out] at C4
  have HC4 := Hid.mk' C4
  have HK3 : Hid (RQ w X (⟨f, ev, ct, un, ds, da, mo, pl, wk⟩ : Rl) m w3) := K3
  clear C4 K3
  go_wp2_with fail
  refine HC4.out.mono ?_
  rintro e w4 ⟨rfl, b4⟩
  have K4 := HK3.out.on b4
  clear HC4 HK3 b4 x0 x1 x2 x3 x4 x5 x6 x7 x8
  have x0 : World.cell? w4 ⟨X, 0, none⟩ = some (.int .i64 f) := (K4.c.2 0 _ rfl).1
  have x1 : World.cell? w4 ⟨X, 1, none⟩ = some (.int .i64 ev) := (K4.c.2 1 _ rfl).1
  have x2 : World.cell? w4 ⟨X, 2, none⟩ = some (.int .i64 ct) := (K4.c.2 2 _ rfl).1
  have x3 : World.cell? w4 ⟨X, 3, none⟩ = some (.int .i64 un) := (K4.c.2 3 _ rfl).1
  have x4 : World.cell? w4 ⟨X, 4, none⟩ = some (.slice m.a0 ds.length m.c0) := (K4.c.2 4 _ rfl).1
  have x5 : World.cell? w4 ⟨X, 5, none⟩ = some (.slice m.a1 da.length m.c1) := (K4.c.2 5 _ rfl).1
  have x6 : World.cell? w4 ⟨X, 6, none⟩ = some (.slice m.a2 mo.length m.c2) := (K4.c.2 6 _ rfl).1
  have x7 : World.cell? w4 ⟨X, 7, none⟩ = some (.slice m.a3 pl.length m.c3) := (K4.c.2 7 _ rfl).1
  have x8 : World.cell? w4 ⟨X, 8, none⟩ = some (.int .i64 wk) := (K4.c.2 8 _ rfl).1
  by_cases hn : N < 0
  · have C5 := specRuleNext ⟨f, ev, ct, un, ds, da, mo, pl, wk⟩ m s t w4 K4.any
    rw [HN.out] at C5
    have HC5 := Hid.mk' C5
    have HB4 : Hid (Below w.heap.size w w4) := K4.bel
    clear C5 K4
    go_wp2_with fail
    refine HC5.out.mono ?_
    rintro e w5 ⟨rfl, b5⟩
    have B5 := bstep HB4.out b5
    clear b5 HC5 HB4 x0 x1 x2 x3 x4 x5 x6 x7 x8
    go_wp2
    go_ret
    exact ⟨rfl, B5⟩
  obtain ⟨n0, n1, n2, hon, hno⟩ := HF.out (by omega)
  have HON : Hid (onB ⟨f, ev, ct, un, ds, da, mo, pl, wk⟩ s N = true) := hon
  have HNO : Hid (∀ k, t ≤ k → k < N → onB ⟨f, ev, ct, un, ds, da, mo, pl, wk⟩ s k = false) := hno
  have HK4 : Hid (RQ w X (⟨f, ev, ct, un, ds, da, mo, pl, wk⟩ : Rl) m w4) := K4
  clear hon hno HF K4
  go_wp2
  clear x0 x1 x2 x3 x4 x5 x6 x7 x8
  go_loopw [7] (fun k wr => ∃ x : Int, t ≤ x ∧ x ≤ N ∧ k = .int .i64 x ∧ Below w4.heap.size w4 wr) (fun k _ => (N - intOf k).toNat)
  case atStart => exact ⟨t, Int.le_refl _, n0, rfl, Below.refl _ _⟩
  case round =>
    obtain ⟨x, xa, xb, rfl, hb⟩ := hrel
    have K := HK4.out.on hb
    have HB : Hid (Below w4.heap.size w4 wr) := hb
    have HK : Hid (RQ w X (⟨f, ev, ct, un, ds, da, mo, pl, wk⟩ : Rl) m wr) := K
    clear hb
    have x0 : World.cell? wr ⟨X, 0, none⟩ = some (.int .i64 f) := (K.c.2 0 _ rfl).1
    have x1 : World.cell? wr ⟨X, 1, none⟩ = some (.int .i64 ev) := (K.c.2 1 _ rfl).1
    have x2 : World.cell? wr ⟨X, 2, none⟩ = some (.int .i64 ct) := (K.c.2 2 _ rfl).1
    have x3 : World.cell? wr ⟨X, 3, none⟩ = some (.int .i64 un) := (K.c.2 3 _ rfl).1
    have x4 : World.cell? wr ⟨X, 4, none⟩ = some (.slice m.a0 ds.length m.c0) := (K.c.2 4 _ rfl).1
    have x5 : World.cell? wr ⟨X, 5, none⟩ = some (.slice m.a1 da.length m.c1) := (K.c.2 5 _ rfl).1
    have x6 : World.cell? wr ⟨X, 6, none⟩ = some (.slice m.a2 mo.length m.c2) := (K.c.2 6 _ rfl).1
    have x7 : World.cell? wr ⟨X, 7, none⟩ = some (.slice m.a3 pl.length m.c3) := (K.c.2 7 _ rfl).1
    have x8 : World.cell? wr ⟨X, 8, none⟩ = some (.int .i64 wk) := (K.c.2 8 _ rfl).1
    clear K
    by_cases hx : x < N
    · by_cases hx6 : x < t + 60
      · have gx := IntWalk.i64_in (x + 1) (by omega)
        have HO : Hid (onB ⟨f, ev, ct, un, ds, da, mo, pl, wk⟩ s x = false) := HNO.out x xa hx
        go_wp2_with fail
        refine (implOn_is f ev ct un ds da mo pl wk m s x false wr HK.out.any HO.out).mono ?_
        rintro e w5 ⟨rfl, b5⟩
        have B5 := bstep HB.out b5
        clear b5 x0 x1 x2 x3 x4 x5 x6 x7 x8
        go_wp2
        go_roundw
        case rel => exact ⟨x + 1, by omega, by omega, by go_num, B5⟩
        case measure => simp [intOf]; omega
      · go_wp2_with fail
        refine (implOn_is f ev ct un ds da mo pl wk m s N true wr HK.out.any HON.out).mono ?_
        rintro e w5 ⟨rfl, b5⟩
        have B5 := bstep HK.out.bel b5
        clear b5 x0 x1 x2 x3 x4 x5 x6 x7 x8
        go_wp2
        go_ret
        exact ⟨rfl, B5⟩
    · go_wp2_with fail
      refine (implOn_is f ev ct un ds da mo pl wk m s N true wr HK.out.any HON.out).mono ?_
      rintro e w5 ⟨rfl, b5⟩
      have B5 := bstep HK.out.bel b5
      clear b5 x0 x1 x2 x3 x4 x5 x6 x7 x8
      go_wp2
      go_ret
      exact ⟨rfl, B5⟩
end Go.Proofs.YtlfglhpepoepcaaDoor
