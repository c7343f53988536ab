/- Lists of numbers held against each other. -/
import Derived.Test.YtlfglhpepoepcaaDoorOi
import Derived.Test.YtlfglhpepoepcaaDoorJWi
import Derived.Test.YtlfglhpepoepcaaDoorJWa
namespace Go.Proofs.YtlfglhpepoepcaaDoor
open Go.RowKit
set_option linter.unusedVariables false
set_option maxHeartbeats 2000000 in
theorem lawEpInts (a a' : Option Addr) (cap cap' : Nat) (l : List Int) (w : World) (h : IsInts w a l) (h' : IsInts w a' l) (hl : l.length ≤ 4000000) :
    Calls Tryd.prog 19 #[.slice a l.length cap, .slice a' l.length cap'] w fun e w' => e = .returned (.bool true) ∧ Below w.heap.size w w' := by
  have H1 : Hid (IsInts w a l) := h
  have H2 : Hid (IsInts w a' l) := h'
  clear h h'
  go_enter Tryd.func19, Tryd.ntmps19
  go_wp2
  go_loopw [5] (fun i wr => ∃ k : Nat, k ≤ l.length ∧ i = .int .i64 k ∧ Below w.heap.size w wr) (fun i _ => l.length - (intOf i).toNat)
  case atStart => exact ⟨0, by omega, rfl, Below.refl _ _⟩
  case round =>
    obtain ⟨k, hk, rfl, hb⟩ := hrel
    by_cases hlt : k < l.length
    · have G1 := H1.out
      have G2 := H2.out
      rcases G1 with G1 | ⟨b, o, rfl, hbs, hc⟩
      · rw [G1] at hlt; simp at hlt
      rcases G2 with G2 | ⟨b', o', rfl, hbs', hc'⟩
      · rw [G2] at hlt; simp at hlt
      have c0 : wr.cell? ⟨b, o + k, none⟩ = some (.int .i64 (gi l k)) := by rw [hb.cell (p := ⟨b, o + k, none⟩) hbs]; exact hc k hlt
      have c1 : wr.cell? ⟨b', o' + k, none⟩ = some (.int .i64 (gi l k)) := by rw [hb.cell (p := ⟨b', o' + k, none⟩) hbs']; exact hc' k hlt
      clear hc hc'
      have hi1 : (k : Int) < (l.length : Int) := by omega
      have hi0 : (0 : Int) ≤ (k : Int) := by omega
      go_wp2
      go_quiet (fail)
      go_wp2
      go_roundw
      case rel => exact ⟨k + 1, by omega, by go_num, Below.drewN' hb _⟩
      case measure => simp [intOf]; omega
    · go_wp2
      go_ret
      exact ⟨rfl, hb⟩
end Go.Proofs.YtlfglhpepoepcaaDoor
namespace Go.Proofs.YtlfglhpepoepcaaDoor
open Go.RowKit
set_option linter.unusedVariables false
structure RR (w : World) (X : Nat) (r : Rl) (m : Rm) (W : World) : Prop where
  c : CF W X (rcs r m)
  any : RAny W r m
  bel : Below w.heap.size w W
theorem RR.on {w W W' : World} {X : Nat} {r : Rl} {m : Rm} (h : RR w X r m W) (hb : Below W.heap.size W W') : RR w X r m W' := ⟨h.c.below hb, h.any.on hb, bstep h.bel hb⟩
structure RW (w : World) (X : Nat) (r : Rl) (m : Rm) (a : Option Addr) (L : List Int) (W : World) : Prop where
  k : RR w X r m W
  l : IsInts W a L
theorem RW.on {w W W' : World} {X : Nat} {r : Rl} {m : Rm} {a : Option Addr} {L : List Int} (h : RW w X r m a L W) (hb : Below W.heap.size W W') : RW w X r m a L W' := ⟨h.k.on hb, h.l.below hb⟩
theorem any_of {w W : World} {B : Nat} {r : Rl} {m : Rm} (h : OL B r m W) (sm : Sml 4 r) (ht : Tab W) : RAny W r m := ⟨by have := sm.1; omega, by have := sm.2.1; omega, by have := sm.2.2.1; omega, by have := sm.2.2.2; omega, h.mem, ht⟩
theorem IsInts.cell {w : World} {a : Option Addr} {l : List Int} (h : IsInts w a l) (hl : 0 < l.length) : ∃ b off, a = some ⟨b, off, none⟩ ∧ b < w.heap.size ∧ ∀ i, i < l.length → w.cell? ⟨b, off + i, none⟩ = some (.int .i64 (gi l i)) := by
  rcases h with h | h
  · rw [h] at hl; simp at hl
  · exact h
theorem may_same {r : Rl} {s t t' : Int} (hs : 0 ≤ s) (ht : t ≤ 3652058) (hd : t - s ≤ 11000) (h : t' ≤ t) : mayB r s t = true ∨ mayB r s t' = false := by
  cases hm : mayB r s t with
  | true => exact .inl rfl
  | false =>
    right
    cases hm' : mayB r s t' with
    | false => rfl
    | true =>
      obtain ⟨a, b, c, d⟩ := may_ok hm'
      have : mayB r s t = true := by
        unfold mayB at hm' ⊢
        simp only [Bool.and_eq_true, decide_eq_true_eq] at hm' ⊢
        exact ⟨hm'.1, hm'.2.1, (in_iff _ _ _).2 ⟨by omega, ht⟩, hd⟩
      rw [hm] at this; cases this
theorem gi_take {l : List Int} {n i : Nat} (h : i < n) (h2 : i < l.length) : gi (l.take n) i = gi l i := by unfold gi; simp [h, h2]
theorem ints_take {w : World} {a : Option Addr} {l : List Int} (h : IsInts w a l) (n : Nat) : IsInts w a (l.take n) := by
  rcases h with h | ⟨b, off, h1, h2, h3⟩
  · left; rw [h]; simp
  · refine .inr ⟨b, off, h1, h2, fun i hi => ?_⟩
    have h4 : i < n ∧ i < l.length := by rw [List.length_take] at hi; omega
    rw [gi_take h4.1 h4.2]; exact h3 i h4.2
theorem pre_eq {l m : List Int} (h : l <+: m) : m.take l.length = l := by
  obtain ⟨k, rfl⟩ := h
  simp
end Go.Proofs.YtlfglhpepoepcaaDoor
namespace Go.Proofs.YtlfglhpepoepcaaDoor
open Go.RowKit
set_option linter.unusedVariables false
theorem specOk_ol {B : Nat} {r : Rl} {m : Rm} {w : World} (h : OL B r m w) (sm : Sml 4 r) :
    Calls Tryd.prog 28 #[.agg #[.int .i64 r.f, .int .i64 r.ev, .int .i64 r.ct, .int .i64 r.un, .slice m.a0 r.ds.length m.c0, .slice m.a1 r.da.length m.c1, .slice m.a2 r.mo.length m.c2, .slice m.a3 r.pl.length m.c3, .int .i64 r.wk]] w fun z w' => z = .returned (.bool (ruOf r)) ∧ Below w.heap.size w w' :=
  specRuleOk _ _ _ _ _ _ _ _ _ _ _ _ _ _ _ _ _ w h.mem.t h.mem.d h.mem.o h.mem.p (by have := sm.1; omega) (by have := sm.2.1; omega) (by have := sm.2.2.1; omega) (by have := sm.2.2.2; omega)
theorem days_twenty (r : Rl) (s t : Int) : ((comes r s (limT r t)).take (mostT r 20).toNat).length ≤ 20 := by
  rw [List.length_take]; unfold mostT; split <;> omega
theorem days_near {r : Rl} {s t x : Int} (h : x ∈ (comes r s (limT r t)).take (mostT r 20).toNat) : s ≤ x ∧ x ≤ t := by
  have := comes_mem (List.mem_of_mem_take h)
  have := lim_le r t
  omega
set_option maxRecDepth 100000 in
set_option maxHeartbeats 16000000 in
theorem drawRuleOn (w : World) (a : Option Addr) (len cap : Nat) (h : IsCode w a len cap) :
    Calls Tryd.prog 21 #[.slice a len cap] w fun e w' => ∃ r m s t, e = .returned (.tuple #[.agg (rcs r m), .int .i64 s, .int .i64 t]) ∧ OL w.heap.size r m w' ∧ Sml 4 r ∧ (0 ≤ s ∧ s ≤ 3652058) ∧ (0 ≤ t ∧ t ≤ 800000) ∧ Below w.heap.size w w' := by
  have bz : Below w.heap.size w (w.alloc (.cells (rcs ⟨0, 0, 0, 0, [], [], [], [], 0⟩ ⟨none, 0, none, 0, none, 0, none, 0⟩) 26)) := (Below.refl _ _).alloc (Nat.le_refl _) _
  have h0 : IsCode (w.alloc (.cells (rcs ⟨0, 0, 0, 0, [], [], [], [], 0⟩ ⟨none, 0, none, 0, none, 0, none, 0⟩) 26)) a len cap := h.below bz
  have Z0 : CF (w.alloc (.cells (rcs ⟨0, 0, 0, 0, [], [], [], [], 0⟩ ⟨none, 0, none, 0, none, 0, none, 0⟩) 26)) w.heap.size (rcs ⟨0, 0, 0, 0, [], [], [], [], 0⟩ ⟨none, 0, none, 0, none, 0, none, 0⟩) := CF.new w _ _
  have S0 : Hid ((w.alloc (.cells (rcs ⟨0, 0, 0, 0, [], [], [], [], 0⟩ ⟨none, 0, none, 0, none, 0, none, 0⟩) 26)).heap.size = w.heap.size + 1) := by unfold Hid; simp
  have HW0 : Hid (w.alloc (.cells (rcs ⟨0, 0, 0, 0, [], [], [], [], 0⟩ ⟨none, 0, none, 0, none, 0, none, 0⟩) 26) = w.alloc (.cells #[.int .i64 0, .int .i64 0, .int .i64 0, .int .i64 0, .slice none 0 0, .slice none 0 0, .slice none 0 0, .slice none 0 0, .int .i64 0] 26)) := rfl
  generalize w.alloc (.cells (rcs ⟨0, 0, 0, 0, [], [], [], [], 0⟩ ⟨none, 0, none, 0, none, 0, none, 0⟩) 26) = W0 at bz h0 Z0 S0 HW0
  clear h
  go_enter Tryd.func21, Tryd.ntmps21
  go_wp2_with fail
  rw [← HW0.out]
  refine (open_any W0 a len cap h0).mono ?_
  rintro e w1 ⟨rfl, r1, b1⟩
  have hs1 := r1.size
  have ss := S0.out
  rw [ss] at r1 hs1
  have Z1 := Z0.below b1
  have B1 : Below w.heap.size w w1 := bz.trans (b1.mono (by omega))
  clear h0 Z0 S0 HW0
  go_wp2_with fail
  refine (anyrule_any w1 _ 0 r1 (by omega)).mono ?_
  rintro e w2 ⟨⟨r, m, rfl, O2, sm⟩, r2, b2⟩
  have hrc : rcs r m = #[.int .i64 r.f, .int .i64 r.ev, .int .i64 r.ct, .int .i64 r.un, .slice m.a0 r.ds.length m.c0, .slice m.a1 r.da.length m.c1, .slice m.a2 r.mo.length m.c2, .slice m.a3 r.pl.length m.c3, .int .i64 r.wk] := rfl
  rw [hrc]
  clear hrc
  have SM : Hid (Sml 4 r) := sm
  have k2 := b2.size
  have K3 : Hid (RD w w2.heap.size 64 r m (w2.alloc (.cells #[.int .i64 r.f, .int .i64 r.ev, .int .i64 r.ct, .int .i64 r.un, .slice m.a0 r.ds.length m.c0, .slice m.a1 r.da.length m.c1, .slice m.a2 r.mo.length m.c2, .slice m.a3 r.pl.length m.c3, .int .i64 r.wk] 26))) := by
    have bA : Below w2.heap.size w2 (w2.alloc (.cells #[.int .i64 r.f, .int .i64 r.ev, .int .i64 r.ct, .int .i64 r.un, .slice m.a0 r.ds.length m.c0, .slice m.a1 r.da.length m.c1, .slice m.a2 r.mo.length m.c2, .slice m.a3 r.pl.length m.c3, .int .i64 r.wk] 26)) := (Below.refl _ _).alloc (Nat.le_refl _) _
    exact ⟨by simpa using r2.below bA, (Z1.but b2 (by omega)).below bA, CF.new _ _ _, by omega, (O2.down (by omega)).keep fun g h4 h5 => bA.block g h5, ((But.of_below B1).trans (b2.mono (by omega))).trans ((But.of_below bA).mono (by omega))⟩
  clear r1 b1 hs1 ss Z1 B1 bz r2 b2 O2 sm
  go_wp2_with fail
  generalize w2.alloc (.cells #[.int .i64 r.f, .int .i64 r.ev, .int .i64 r.ct, .int .i64 r.un, .slice m.a0 r.ds.length m.c0, .slice m.a1 r.da.length m.c1, .slice m.a2 r.mo.length m.c2, .slice m.a3 r.pl.length m.c3, .int .i64 r.wk] 26) = W3 at K3 ⊢
  generalize w2.heap.size = X at K3 ⊢
  refine (start_any W3 _ _ K3.out.rd (by omega)).mono ?_
  rintro e w4 ⟨⟨s, rfl, s0, s1⟩, r4, b4⟩
  have K4 : Hid (RD w X 65 r m w4) := K3.out.step b4 r4
  clear K3 r4 b4
  have x0 : World.cell? w4 ⟨X, 0, none⟩ = some (.int .i64 r.f) := (K4.out.c.2 0 _ rfl).1
  have x1 : World.cell? w4 ⟨X, 1, none⟩ = some (.int .i64 r.ev) := (K4.out.c.2 1 _ rfl).1
  have x2 : World.cell? w4 ⟨X, 2, none⟩ = some (.int .i64 r.ct) := (K4.out.c.2 2 _ rfl).1
  have x3 : World.cell? w4 ⟨X, 3, none⟩ = some (.int .i64 r.un) := (K4.out.c.2 3 _ rfl).1
  have x4 : World.cell? w4 ⟨X, 4, none⟩ = some (.slice m.a0 r.ds.length m.c0) := (K4.out.c.2 4 _ rfl).1
  have x5 : World.cell? w4 ⟨X, 5, none⟩ = some (.slice m.a1 r.da.length m.c1) := (K4.out.c.2 5 _ rfl).1
  have x6 : World.cell? w4 ⟨X, 6, none⟩ = some (.slice m.a2 r.mo.length m.c2) := (K4.out.c.2 6 _ rfl).1
  have x7 : World.cell? w4 ⟨X, 7, none⟩ = some (.slice m.a3 r.pl.length m.c3) := (K4.out.c.2 7 _ rfl).1
  have x8 : World.cell? w4 ⟨X, 8, none⟩ = some (.int .i64 r.wk) := (K4.out.c.2 8 _ rfl).1
  go_wp2_with fail
  refine (specOk_ol K4.out.l SM.out).mono ?_
  rintro e w5 ⟨rfl, b5⟩
  have K5 : Hid (RD w X 65 r m w5) := K4.out.step (But.of_below b5) (K4.out.rd.below b5)
  clear K4 b5 x0 x1 x2 x3 x4 x5 x6 x7 x8
  cases hm : ruOf r with
  | false =>
    clear hm
    have K7 : Hid (RD w X 66 r m w5) := ⟨K5.out.rd.mono (by omega), K5.out.z, K5.out.c, K5.out.rx, K5.out.l, K5.out.b⟩
    clear K5
    generalize w5 = w7 at *
    go_upto_region 8 with fail
    have KD : Hid (RD w X 66 r m w7.drew) := K7.out.dr
    refine wp_region_held_drew (S := (fun w' => CF w' X #[.int .i64 r.f, .int .i64 r.ev, .int .i64 r.ct, .int .i64 r.un, .slice m.a0 r.ds.length m.c0, .slice m.a1 r.da.length m.c1, .slice m.a2 r.mo.length m.c2, .slice m.a3 r.pl.length m.c3, .int .i64 r.wk])) (by kernel_rfl) KD.out.c (fun hHeld => ?_)
    refine wpAnyH_take (i := 0) (oi := { dst := some 43, op := Op.load 26 (Operand.tmp 6), type := 26, pos := "l12_draw.go:360", after := #[], guard := none }) (v := .agg ([.int .i64 r.f, .int .i64 r.ev, .int .i64 r.ct, .int .i64 r.un, .slice m.a0 r.ds.length m.c0, .slice m.a1 r.da.length m.c1, .slice m.a2 r.mo.length m.c2, .slice m.a3 r.pl.length m.c3, .int .i64 r.wk] : List Value).toArray) rfl (by kernel_rfl) (by kernel_rfl) (by kernel_rfl) (fun _ _ _ h => h) (yieldsIf_load_mid rfl 26 (.tmp 6) rfl X 0 rfl [.int .i64 r.f, .int .i64 r.ev, .int .i64 r.ct, .int .i64 r.un, .slice m.a0 r.ds.length m.c0, .slice m.a1 r.da.length m.c1, .slice m.a2 r.mo.length m.c2, .slice m.a3 r.pl.length m.c3, .int .i64 r.wk] _ (fun w' hb => CF.range hb) Tryd.underlying26 rfl ruleSize) hHeld ?_
    (try simp only [Act.put, List.setIfInBounds_toArray, List.set_cons_zero, List.set_cons_succ])
    refine wpAnyH_take (i := 1) (oi := { dst := some 44, op := Op.move (Operand.tmp 7), type := 3, pos := "l12_draw.go:360", after := #[{ on := 7, ground := Ground.gcOnly Departure.lateStores }], guard := none }) (v := ?_) rfl (by kernel_rfl) (by kernel_rfl) (by kernel_rfl) (fun _ _ _ h => h) (Or.inl ⟨by rfl, ?_⟩) hHeld ?_
    rotate_left
    · (intro w9 hC9; go_simp; first | done | rfl)
    (try simp only [Act.put, List.setIfInBounds_toArray, List.set_cons_zero, List.set_cons_succ])
    refine wpAnyH_take (i := 2) (oi := { dst := some 45, op := Op.move (Operand.tmp 7), type := 3, pos := "l12_draw.go:360", after := #[{ on := 8, ground := Ground.gcOnly Departure.lateStores }], guard := none }) (v := ?_) rfl (by kernel_rfl) (by kernel_rfl) (by kernel_rfl) (fun _ _ _ h => h) (Or.inl ⟨by rfl, ?_⟩) hHeld ?_
    rotate_left
    · (intro w9 hC9; go_simp; first | done | rfl)
    (try simp only [Act.put, List.setIfInBounds_toArray, List.set_cons_zero, List.set_cons_succ])
    refine wpAnyH_take (i := 3) (oi := { dst := some 46, op := Op.move (Operand.tmp 5), type := 44, pos := "l12_draw.go:360", after := #[], guard := none }) (v := ?_) rfl (by kernel_rfl) (by kernel_rfl) (by kernel_rfl) (fun _ _ _ h => h) (Or.inl ⟨by rfl, ?_⟩) hHeld ?_
    rotate_left
    · (intro w9 hC9; go_simp; first | done | rfl)
    (try simp only [Act.put, List.setIfInBounds_toArray, List.set_cons_zero, List.set_cons_succ])
    refine wpAnyH_ready (rs := [4]) (by kernel_rfl) (by simp) ?_
    refine AllReadyH.cons (o := { dst := some 47, op := Op.call { callee := Callee.value (Operand.func 36), args := #[Operand.tmp 46, Operand.const (Value.int IntKind.i64 256)], argTypes := #[44, 3] }, type := 3, pos := "l12_draw.go:360", after := #[{ on := 3, ground := Ground.data }], guard := none }) rfl (fun K hK => ?_) ?_
    · go_simp
      go_at_call 36
      refine (pick_pos _ w7.drew _ _ KD.out.rd (by omega) (by omega)).mono ?_
      rintro e w8 ⟨⟨p, rfl, p0, p1⟩, hr8, hb8⟩
      have K8 : Hid (RD w X 67 r m w8) := KD.out.step hb8 hr8
      refine hK.out _ _ K8.out.c (fun hHeld => ?_)
      clear hK K
      (try simp only [Act.put, List.setIfInBounds_toArray, List.set_cons_zero, List.set_cons_succ])
      have g1 := IntWalk.i64_in (s + p) (by omega)
      have g2 := IntWalk.i64_in (s + p - 2) (by omega)
      refine wpAnyH_take (i := 5) (oi := { dst := some 48, op := Op.binOp BinOp.add 3 (Operand.tmp 45) (Operand.tmp 47) 3, type := 3, pos := "l12_draw.go:360", after := #[{ on := 2, ground := Ground.data }, { on := 4, ground := Ground.data }, { on := 8, ground := Ground.gcOnly Departure.lateStores }], guard := none }) (v := ?_) rfl (by kernel_rfl) (by kernel_rfl) (by kernel_rfl) (fun _ _ _ h => h) (Or.inl ⟨by rfl, ?_⟩) hHeld ?_
      rotate_left
      · (intro w9 hC9; go_simp; first | done | rfl)
      (try simp only [Act.put, List.setIfInBounds_toArray, List.set_cons_zero, List.set_cons_succ])
      refine wpAnyH_take (i := 6) (oi := { dst := some 49, op := Op.binOp BinOp.sub 3 (Operand.tmp 48) (Operand.const (Value.int IntKind.i64 2)) 3, type := 3, pos := "l12_draw.go:360", after := #[{ on := 5, ground := Ground.data }, { on := 8, ground := Ground.gcOnly Departure.lateStores }], guard := none }) (v := ?_) rfl (by kernel_rfl) (by kernel_rfl) (by kernel_rfl) (fun _ _ _ h => h) (Or.inl ⟨by rfl, ?_⟩) hHeld ?_
      rotate_left
      · (intro w9 hC9; go_simp; first | done | rfl)
      (try simp only [Act.put, List.setIfInBounds_toArray, List.set_cons_zero, List.set_cons_succ])
      refine wpAnyH_ready (rs := [7]) (by kernel_rfl) (by simp) ?_
      refine AllReadyH.cons (o := { dst := none, op := Op.store 26 (Operand.tmp 2) (Operand.tmp 43), type := 0, pos := "l12_draw.go:360", after := #[{ on := 0, ground := Ground.data }, { on := 4, ground := Ground.chain }, { on := 0, ground := Ground.phase }, { on := 1, ground := Ground.textOnly Departure.lateStores }, { on := 2, ground := Ground.textOnly Departure.lateStores }, { on := 3, ground := Ground.textOnly Departure.lateStores }, { on := 4, ground := Ground.textOnly Departure.lateStoresUnsure }, { on := 5, ground := Ground.textOnly Departure.lateStores }, { on := 6, ground := Ground.textOnly Departure.lateStores }], guard := none }) rfl (fun K hK => ?_) ?_
      · refine step_store_mid (by rfl) 26 _ _ (by rfl) w.heap.size 0 #[.int .i64 r.f, .int .i64 r.ev, .int .i64 r.ct, .int .i64 r.un, .slice m.a0 r.ds.length m.c0, .slice m.a1 r.da.length m.c1, .slice m.a2 r.mo.length m.c2, .slice m.a3 r.pl.length m.c3, .int .i64 r.wk] (by rfl) (by rfl) (K8.out.z.there _ rfl) ruleSize (by simp [Value.oneCell']) ?_
        have SX : CF (w8.setCells w.heap.size 0 (#[.int .i64 r.f, .int .i64 r.ev, .int .i64 r.ct, .int .i64 r.un, .slice m.a0 r.ds.length m.c0, .slice m.a1 r.da.length m.c1, .slice m.a2 r.mo.length m.c2, .slice m.a3 r.pl.length m.c3, .int .i64 r.wk] : Array Value).toList) X #[.int .i64 r.f, .int .i64 r.ev, .int .i64 r.ct, .int .i64 r.un, .slice m.a0 r.ds.length m.c0, .slice m.a1 r.da.length m.c1, .slice m.a2 r.mo.length m.c2, .slice m.a3 r.pl.length m.c3, .int .i64 r.wk] := CF.apart (by have := K8.out.rx; omega) _ _ _ K8.out.c
        have FR : CF (w8.setCells w.heap.size 0 (#[.int .i64 r.f, .int .i64 r.ev, .int .i64 r.ct, .int .i64 r.un, .slice m.a0 r.ds.length m.c0, .slice m.a1 r.da.length m.c1, .slice m.a2 r.mo.length m.c2, .slice m.a3 r.pl.length m.c3, .int .i64 r.wk] : Array Value).toList) w.heap.size #[.int .i64 r.f, .int .i64 r.ev, .int .i64 r.ct, .int .i64 r.un, .slice m.a0 r.ds.length m.c0, .slice m.a1 r.da.length m.c1, .slice m.a2 r.mo.length m.c2, .slice m.a3 r.pl.length m.c3, .int .i64 r.wk] := K8.out.z.setCells #[.int .i64 r.f, .int .i64 r.ev, .int .i64 r.ct, .int .i64 r.un, .slice m.a0 r.ds.length m.c0, .slice m.a1 r.da.length m.c1, .slice m.a2 r.mo.length m.c2, .slice m.a3 r.pl.length m.c3, .int .i64 r.wk] rfl
        have FIN : Hid (OL w.heap.size r m (w8.setCells w.heap.size 0 (#[.int .i64 r.f, .int .i64 r.ev, .int .i64 r.ct, .int .i64 r.un, .slice m.a0 r.ds.length m.c0, .slice m.a1 r.da.length m.c1, .slice m.a2 r.mo.length m.c2, .slice m.a3 r.pl.length m.c3, .int .i64 r.wk] : Array Value).toList) ∧ Below w.heap.size w (w8.setCells w.heap.size 0 (#[.int .i64 r.f, .int .i64 r.ev, .int .i64 r.ct, .int .i64 r.un, .slice m.a0 r.ds.length m.c0, .slice m.a1 r.da.length m.c1, .slice m.a2 r.mo.length m.c2, .slice m.a3 r.pl.length m.c3, .int .i64 r.wk] : Array Value).toList)) := ⟨(OL.setCells (by omega) _ _ _ K8.out.l).down (by omega), (But.setCells (Nat.le_refl _) _ _ _ K8.out.b).below (by omega)⟩
        generalize w8.setCells w.heap.size 0 (#[.int .i64 r.f, .int .i64 r.ev, .int .i64 r.ct, .int .i64 r.un, .slice m.a0 r.ds.length m.c0, .slice m.a1 r.da.length m.c1, .slice m.a2 r.mo.length m.c2, .slice m.a3 r.pl.length m.c3, .int .i64 r.wk] : Array Value).toList = WF at SX FR FIN ⊢
        refine hK.out _ _ SX (fun hHeld => ?_)
        clear hK K
        (try simp only [Act.put])
        refine wpAnyH_take (i := 8) (oi := { dst := some 3, op := Op.assign (Operand.tmp 44), type := 3, pos := "l12_draw.go:360", after := #[{ on := 1, ground := Ground.data }, { on := 7, ground := Ground.chain }, { on := 0, ground := Ground.phase }, { on := 1, ground := Ground.phase }, { on := 2, ground := Ground.textOnly Departure.lateStores }, { on := 3, ground := Ground.textOnly Departure.lateStores }, { on := 4, ground := Ground.textOnly Departure.lateStoresUnsure }, { on := 5, ground := Ground.textOnly Departure.lateStores }, { on := 6, ground := Ground.textOnly Departure.lateStores }, { on := 7, ground := Ground.phase }], guard := none }) (v := ?_) rfl (by kernel_rfl) (by kernel_rfl) (by kernel_rfl) (fun _ _ _ h => h) (Or.inl ⟨by rfl, ?_⟩) hHeld ?_
        rotate_left
        · (intro w9 hC9; go_simp; first | done | rfl)
        (try simp only [Act.put, List.setIfInBounds_toArray, List.set_cons_zero, List.set_cons_succ])
        refine wpAnyH_take (i := 9) (oi := { dst := some 4, op := Op.assign (Operand.tmp 49), type := 3, pos := "l12_draw.go:360", after := #[{ on := 6, ground := Ground.data }, { on := 8, ground := Ground.chain }, { on := 0, ground := Ground.phase }, { on := 1, ground := Ground.phase }, { on := 2, ground := Ground.phase }, { on := 3, ground := Ground.phase }, { on := 4, ground := Ground.phase }, { on := 5, ground := Ground.phase }, { on := 6, ground := Ground.phase }, { on := 7, ground := Ground.phase }, { on := 8, ground := Ground.phase }], guard := none }) (v := ?_) rfl (by kernel_rfl) (by kernel_rfl) (by kernel_rfl) (fun _ _ _ h => h) (Or.inl ⟨by rfl, ?_⟩) hHeld ?_
        rotate_left
        · (intro w9 hC9; go_simp; first | done | rfl)
        (try simp only [Act.put, List.setIfInBounds_toArray, List.set_cons_zero, List.set_cons_succ])
        refine wpAnyH_done (by kernel_rfl) ?_ _
        have z0 := (FR.2 0 _ rfl).1
        have z1 := (FR.2 1 _ rfl).1
        have z2 := (FR.2 2 _ rfl).1
        have z3 := (FR.2 3 _ rfl).1
        have z4 := (FR.2 4 _ rfl).1
        have z5 := (FR.2 5 _ rfl).1
        have z6 := (FR.2 6 _ rfl).1
        have z7 := (FR.2 7 _ rfl).1
        have z8 := (FR.2 8 _ rfl).1
        clear SX FR hHeld
        go_wp2
        refine bodyPost_ret (v := .tuple #[.agg #[.int .i64 r.f, .int .i64 r.ev, .int .i64 r.ct, .int .i64 r.un, .slice m.a0 r.ds.length m.c0, .slice m.a1 r.da.length m.c1, .slice m.a2 r.mo.length m.c2, .slice m.a3 r.pl.length m.c3, .int .i64 r.wk], .int .i64 s, .int .i64 (s + p - 2)]) (by simp [results, Tryd.results21, go_sem, *]) rfl ⟨r, m, _, _, rfl, FIN.out.1, SM.out, ⟨by omega, by omega⟩, ⟨by omega, by omega⟩, FIN.out.2⟩
      exact AllReadyH.nil
    exact AllReadyH.nil
  | true =>
    have HRU : Hid (ruOf r = true) := hm
    clear hm
    go_wp2_with fail
    refine (pick_pos _ w5 _ _ K5.out.rd (by omega) (by omega)).mono ?_
    rintro e w6 ⟨⟨q, rfl, q0, q1⟩, r6, b6⟩
    have K6 : Hid (RD w X 66 r m w6) := K5.out.step b6 r6
    clear K5 r6 b6
    by_cases e0 : q = 0
    · subst e0
      have x0 : World.cell? w6 ⟨X, 0, none⟩ = some (.int .i64 r.f) := (K6.out.c.2 0 _ rfl).1
      have x1 : World.cell? w6 ⟨X, 1, none⟩ = some (.int .i64 r.ev) := (K6.out.c.2 1 _ rfl).1
      have x2 : World.cell? w6 ⟨X, 2, none⟩ = some (.int .i64 r.ct) := (K6.out.c.2 2 _ rfl).1
      have x3 : World.cell? w6 ⟨X, 3, none⟩ = some (.int .i64 r.un) := (K6.out.c.2 3 _ rfl).1
      have x4 : World.cell? w6 ⟨X, 4, none⟩ = some (.slice m.a0 r.ds.length m.c0) := (K6.out.c.2 4 _ rfl).1
      have x5 : World.cell? w6 ⟨X, 5, none⟩ = some (.slice m.a1 r.da.length m.c1) := (K6.out.c.2 5 _ rfl).1
      have x6 : World.cell? w6 ⟨X, 6, none⟩ = some (.slice m.a2 r.mo.length m.c2) := (K6.out.c.2 6 _ rfl).1
      have x7 : World.cell? w6 ⟨X, 7, none⟩ = some (.slice m.a3 r.pl.length m.c3) := (K6.out.c.2 7 _ rfl).1
      have x8 : World.cell? w6 ⟨X, 8, none⟩ = some (.int .i64 r.wk) := (K6.out.c.2 8 _ rfl).1
      have gs := IntWalk.i64_in (s + 400) (by omega)
      go_wp2_with fail
      refine (specDaysL r m s (s + 400) 20 w6 (ru_ok HRU.out).1 K6.out.l.mem (ru_ok HRU.out).2.1 (ru_ok HRU.out).2.2.1 (ru_ok HRU.out).2.2.2.1 (ru_ok HRU.out).2.2.2.2 (by_bd HRU.out) (by omega) (by omega) (by omega) (by omega)).mono ?_
      rintro e w7 ⟨⟨v7, rfl, O7⟩, b7⟩
      have K7 : Hid (RD w X 66 r m w7) := K6.out.step (But.of_below b7) (K6.out.rd.below b7)
      have HLT : ∀ g, v7.ownBlock = some g → w6.heap.size ≤ g := fun g hg => (O7.lt g hg).1
      have hX6 := K6.out.c.1
      have hr6 := K6.out.rx
      obtain ⟨va, vc, rfl, I7, _, _⟩ := O7.val
      have HI7 : Hid (IsInts w7 va ((comes r s (limT r (s + 400))).take (mostT r 20).toNat)) := I7
      have HD : Hid (∀ x, x ∈ (comes r s (limT r (s + 400))).take (mostT r 20).toNat → s ≤ x ∧ x ≤ s + 400) := fun x hx => days_near hx
      have HL : Hid (((comes r s (limT r (s + 400))).take (mostT r 20).toNat).length ≤ 20) := days_twenty _ _ _
      generalize (comes r s (limT r (s + 400))).take (mostT r 20).toNat = D at *
      clear K6 O7 I7 b7 gs x0 x1 x2 x3 x4 x5 x6 x7 x8
      by_cases hl : (D.length : Int) > 0
      · obtain ⟨lb, lo, rfl, hbs, hcl⟩ := HI7.out.cell (by omega)
        have HCL : Hid (∀ i, i < D.length → w7.cell? ⟨lb, lo + i, none⟩ = some (.int .i64 (gi D i))) := hcl
        clear hcl
        have hn : (D.length : Int) ≤ 20 := by have := HL.out; omega
        have hlb : w6.heap.size ≤ lb := HLT lb rfl
        clear HLT
        go_upto_region 7 with fail
        have KD : Hid (RD w X 66 r m w7.drew) := K7.out.dr
        have szD : w7.drew.heap.size = w7.heap.size := rfl
        have hrx := K7.out.rx
        have hXs := K7.out.c.1
        have hl1 : 1 ≤ (D.length : Int) := by omega
        have CLD : ∀ i, i < D.length → w7.drew.cell? ⟨lb, lo + i, none⟩ = some (.int .i64 (gi D i)) := fun i hi => by simpa using HCL.out i hi
        refine wp_region_held_drew (S := (fun w' => CF w' X #[.int .i64 r.f, .int .i64 r.ev, .int .i64 r.ct, .int .i64 r.un, .slice m.a0 r.ds.length m.c0, .slice m.a1 r.da.length m.c1, .slice m.a2 r.mo.length m.c2, .slice m.a3 r.pl.length m.c3, .int .i64 r.wk] ∧ ∀ i, i < D.length → w'.cell? ⟨lb, lo + i, none⟩ = some (.int .i64 (gi D i)))) (by kernel_rfl) ⟨KD.out.c, CLD⟩ (fun hHeld => ?_)
        refine wpAnyH_take (i := 0) (oi := { dst := some 30, op := Op.load 26 (Operand.tmp 6), type := 26, pos := "l12_draw.go:357", after := #[], guard := none }) (v := .agg ([.int .i64 r.f, .int .i64 r.ev, .int .i64 r.ct, .int .i64 r.un, .slice m.a0 r.ds.length m.c0, .slice m.a1 r.da.length m.c1, .slice m.a2 r.mo.length m.c2, .slice m.a3 r.pl.length m.c3, .int .i64 r.wk] : List Value).toArray) rfl (by kernel_rfl) (by kernel_rfl) (by kernel_rfl) (fun _ _ _ h => h) (yieldsIf_load_mid rfl 26 (.tmp 6) rfl X 0 rfl [.int .i64 r.f, .int .i64 r.ev, .int .i64 r.ct, .int .i64 r.un, .slice m.a0 r.ds.length m.c0, .slice m.a1 r.da.length m.c1, .slice m.a2 r.mo.length m.c2, .slice m.a3 r.pl.length m.c3, .int .i64 r.wk] _ (fun w' hb => CF.range hb.1) Tryd.underlying26 rfl ruleSize) hHeld ?_
        (try simp only [Act.put, List.setIfInBounds_toArray, List.set_cons_zero, List.set_cons_succ])
        refine wpAnyH_take (i := 1) (oi := { dst := some 31, op := Op.move (Operand.tmp 7), type := 3, pos := "l12_draw.go:357", after := #[{ on := 13, ground := Ground.gcOnly Departure.lateStores }], guard := none }) (v := ?_) rfl (by kernel_rfl) (by kernel_rfl) (by kernel_rfl) (fun _ _ _ h => h) (Or.inl ⟨by rfl, ?_⟩) hHeld ?_
        rotate_left
        · (intro w9 hC9; go_simp; first | done | rfl)
        (try simp only [Act.put, List.setIfInBounds_toArray, List.set_cons_zero, List.set_cons_succ])
        refine wpAnyH_take (i := 2) (oi := { dst := some 32, op := Op.move (Operand.tmp 8), type := 24, pos := "l12_draw.go:357", after := #[{ on := 14, ground := Ground.gcOnly Departure.lateStores }], guard := none }) (v := ?_) rfl (by kernel_rfl) (by kernel_rfl) (by kernel_rfl) (fun _ _ _ h => h) (Or.inl ⟨by rfl, ?_⟩) hHeld ?_
        rotate_left
        · (intro w9 hC9; go_simp; first | done | rfl)
        (try simp only [Act.put, List.setIfInBounds_toArray, List.set_cons_zero, List.set_cons_succ])
        refine wpAnyH_take (i := 3) (oi := { dst := some 33, op := Op.move (Operand.tmp 5), type := 44, pos := "l12_draw.go:357", after := #[], guard := none }) (v := ?_) rfl (by kernel_rfl) (by kernel_rfl) (by kernel_rfl) (fun _ _ _ h => h) (Or.inl ⟨by rfl, ?_⟩) hHeld ?_
        rotate_left
        · (intro w9 hC9; go_simp; first | done | rfl)
        (try simp only [Act.put, List.setIfInBounds_toArray, List.set_cons_zero, List.set_cons_succ])
        refine wpAnyH_take (i := 4) (oi := { dst := some 34, op := Op.move (Operand.tmp 8), type := 24, pos := "l12_draw.go:357", after := #[], guard := none }) (v := ?_) rfl (by kernel_rfl) (by kernel_rfl) (by kernel_rfl) (fun _ _ _ h => h) (Or.inl ⟨by rfl, ?_⟩) hHeld ?_
        rotate_left
        · (intro w9 hC9; go_simp; first | done | rfl)
        (try simp only [Act.put, List.setIfInBounds_toArray, List.set_cons_zero, List.set_cons_succ])
        refine wpAnyH_take (i := 5) (oi := { dst := some 35, op := Op.call { callee := Callee.builtin Builtin.len, args := #[Operand.tmp 34], argTypes := #[24] }, type := 3, pos := "l12_draw.go:357", after := #[{ on := 4, ground := Ground.data }], guard := none }) (v := ?_) rfl (by kernel_rfl) (by kernel_rfl) (by kernel_rfl) (fun _ _ _ h => h) (Or.inl ⟨by rfl, ?_⟩) hHeld ?_
        rotate_left
        · (intro w9 hC9; go_simp; first | done | rfl)
        (try simp only [Act.put, List.setIfInBounds_toArray, List.set_cons_zero, List.set_cons_succ])
        refine wpAnyH_take (i := 9) (oi := { dst := some 39, op := Op.move (Operand.tmp 5), type := 44, pos := "l12_draw.go:357", after := #[], guard := none }) (v := ?_) rfl (by kernel_rfl) (by kernel_rfl) (by kernel_rfl) (fun _ _ _ h => h) (Or.inl ⟨by rfl, ?_⟩) hHeld ?_
        rotate_left
        · (intro w9 hC9; go_simp; first | done | rfl)
        (try simp only [Act.put, List.setIfInBounds_toArray, List.set_cons_zero, List.set_cons_succ])
        refine wpAnyH_ready (rs := [6, 10]) (by kernel_rfl) (by simp) ?_
        refine AllReadyH.cons (o := { dst := some 36, op := Op.call { callee := Callee.value (Operand.func 36), args := #[Operand.tmp 33, Operand.tmp 35], argTypes := #[44, 3] }, type := 3, pos := "l12_draw.go:357", after := #[{ on := 3, ground := Ground.data }, { on := 5, ground := Ground.data }], guard := none }) rfl (fun K hK => ?_) ?_
        · go_simp
          go_at_call 36
          refine (pick_pos _ w7.drew _ _ KD.out.rd (by omega) (by omega)).mono ?_
          rintro e w8 ⟨⟨y, rfl, y0, y1⟩, hr8, hb8⟩
          have K8 : Hid (RD w X 67 r m w8) := KD.out.step hb8 hr8
          have sz8 := hb8.size
          rw [szD] at sz8
          have CL8 : ∀ i, i < D.length → w8.cell? ⟨lb, lo + i, none⟩ = some (.int .i64 (gi D i)) := fun i hi => by rw [hb8.cell (p := ⟨lb, lo + i, none⟩) (by show lb < _; omega) (by show lb ≠ w.heap.size + 1; omega)]; exact CLD i hi
          refine hK.out _ _ ⟨K8.out.c, CL8⟩ (fun hHeld => ?_)
          clear hK K
          (try simp only [Act.put, List.setIfInBounds_toArray, List.set_cons_zero, List.set_cons_succ])
          refine wpAnyH_take (i := 7) (oi := { dst := some 37, op := Op.indexAddr 24 (Operand.tmp 32) (Operand.tmp 36), type := 0, pos := "l12_draw.go:357", after := #[{ on := 2, ground := Ground.data }, { on := 6, ground := Ground.data }, { on := 14, ground := Ground.gcOnly Departure.lateStores }], guard := none }) (v := ?_) rfl (by kernel_rfl) (by kernel_rfl) (by kernel_rfl) (fun _ _ _ h => h) (Or.inl ⟨by rfl, ?_⟩) hHeld ?_
          rotate_left
          · (intro w9 hC9; go_simp; first | done | rfl)
          (try simp only [Act.put, List.setIfInBounds_toArray, List.set_cons_zero, List.set_cons_succ])
          refine wpAnyH_take (i := 8) (oi := { dst := some 38, op := Op.load 3 (Operand.tmp 37), type := 3, pos := "l12_draw.go:357", after := #[{ on := 7, ground := Ground.data }, { on := 14, ground := Ground.gcOnly Departure.lateStores }], guard := none }) (v := ?_) rfl (by kernel_rfl) (by kernel_rfl) (by kernel_rfl) (fun _ _ _ h => h) (Or.inl ⟨by rfl, ?_⟩) hHeld ?_
          rotate_left
          · (intro w9 hC9; have y2 := hC9.2 y.toNat (by omega); clear hC9; go_simp; first | done | rfl)
          (try simp only [Act.put, List.setIfInBounds_toArray, List.set_cons_zero, List.set_cons_succ])
          refine wpAnyH_ready (rs := [10]) (by kernel_rfl) (by simp) ?_
          refine AllReadyH.cons (o := { dst := some 40, op := Op.buildSlice 24 4 #[(0, Operand.const (Value.int IntKind.i64 0)), (1, Operand.const (Value.int IntKind.i64 0)), (2, Operand.const (Value.int IntKind.i64 0)), (3, Operand.const (Value.int IntKind.i64 1))], type := 24, pos := "l12_draw.go:357", after := #[], guard := none }) rfl (fun K hK => ?_) ?_
          · go_simp
            have CLA : ∀ i, i < D.length → (w8.alloc (.cells #[.int .i64 0, .int .i64 0, .int .i64 0, .int .i64 1] 3)).cell? ⟨lb, lo + i, none⟩ = some (.int .i64 (gi D i)) := fun i hi => by rw [((Below.refl w8.heap.size w8).alloc (Nat.le_refl _) (.cells #[.int .i64 0, .int .i64 0, .int .i64 0, .int .i64 1] 3)).cell (p := ⟨lb, lo + i, none⟩) (by show lb < _; omega)]; exact CL8 i hi
            refine hK.out _ _ ⟨(K8.out.al _).c, CLA⟩ (fun hHeld => ?_)
            clear hK K
            (try simp only [Act.put, List.setIfInBounds_toArray, List.set_cons_zero, List.set_cons_succ])
            refine wpAnyH_ready (rs := [11]) (by kernel_rfl) (by simp) ?_
            refine AllReadyH.cons (o := { dst := some 41, op := Op.call { callee := Callee.value (Operand.func 37), args := #[Operand.tmp 39, Operand.tmp 40], argTypes := #[44, 24] }, type := 3, pos := "l12_draw.go:357", after := #[{ on := 9, ground := Ground.data }, { on := 10, ground := Ground.data }, { on := 6, ground := Ground.chain }], guard := none }) rfl (fun K hK => ?_) ?_
            · go_simp
              go_at_call 37
              refine (one_list w8 _ _ K8.out.rd (by omega) 4 [0, 0, 0, 1] rfl (by omega) (by omega) _ rfl).mono ?_
              rintro e w9 ⟨⟨x, rfl, hx⟩, hr9, hb9⟩
              have K9 : Hid (RD w X 68 r m w9) := K8.out.step hb9 hr9
              have CL9 : ∀ i, i < D.length → w9.cell? ⟨lb, lo + i, none⟩ = some (.int .i64 (gi D i)) := fun i hi => by rw [hb9.cell (p := ⟨lb, lo + i, none⟩) (by show lb < _; omega) (by show lb ≠ w.heap.size + 1; omega)]; exact CL8 i hi
              refine hK.out _ _ ⟨K9.out.c, CL9⟩ (fun hHeld => ?_)
              clear hK K
              (try simp only [Act.put, List.setIfInBounds_toArray, List.set_cons_zero, List.set_cons_succ])
              have xb : 0 ≤ x ∧ x ≤ 1 := by simp only [List.mem_cons, List.not_mem_nil, or_false] at hx; omega
              have gb := HD.out _ (gi_mem (l := D) (i := y.toNat) (by omega))
              have g2 := IntWalk.i64_in (gi D y.toNat + x) (by omega)
              refine wpAnyH_take (i := 12) (oi := { dst := some 42, op := Op.binOp BinOp.add 3 (Operand.tmp 38) (Operand.tmp 41) 3, type := 3, pos := "l12_draw.go:357", after := #[{ on := 8, ground := Ground.data }, { on := 11, ground := Ground.data }, { on := 14, ground := Ground.gcOnly Departure.lateStores }], guard := none }) (v := ?_) rfl (by kernel_rfl) (by kernel_rfl) (by kernel_rfl) (fun _ _ _ h => h) (Or.inl ⟨by rfl, ?_⟩) hHeld ?_
              rotate_left
              · (intro w9 hC9; go_simp; first | done | rfl)
              (try simp only [Act.put, List.setIfInBounds_toArray, List.set_cons_zero, List.set_cons_succ])
              refine wpAnyH_ready (rs := [13]) (by kernel_rfl) (by simp) ?_
              refine AllReadyH.cons (o := { dst := none, op := Op.store 26 (Operand.tmp 2) (Operand.tmp 30), type := 0, pos := "l12_draw.go:357", after := #[{ on := 0, ground := Ground.data }, { on := 11, ground := Ground.chain }, { on := 0, ground := Ground.phase }, { on := 1, ground := Ground.textOnly Departure.lateStores }, { on := 2, ground := Ground.textOnly Departure.lateStores }, { on := 3, ground := Ground.textOnly Departure.lateStores }, { on := 4, ground := Ground.textOnly Departure.lateStores }, { on := 5, ground := Ground.textOnly Departure.lateStoresUnsure }, { on := 6, ground := Ground.textOnly Departure.lateStoresUnsure }, { on := 7, ground := Ground.textOnly Departure.lateStores }, { on := 8, ground := Ground.textOnly Departure.lateStores }, { on := 9, ground := Ground.textOnly Departure.lateStores }, { on := 10, ground := Ground.textOnly Departure.lateStores }, { on := 11, ground := Ground.textOnly Departure.lateStoresUnsure }, { on := 12, ground := Ground.textOnly Departure.lateStores }], guard := none }) rfl (fun K hK => ?_) ?_
              · refine step_store_mid (by rfl) 26 _ _ (by rfl) w.heap.size 0 #[.int .i64 r.f, .int .i64 r.ev, .int .i64 r.ct, .int .i64 r.un, .slice m.a0 r.ds.length m.c0, .slice m.a1 r.da.length m.c1, .slice m.a2 r.mo.length m.c2, .slice m.a3 r.pl.length m.c3, .int .i64 r.wk] (by rfl) (by rfl) (K9.out.z.there _ rfl) ruleSize (by simp [Value.oneCell']) ?_
                have SX : CF (w9.setCells w.heap.size 0 (#[.int .i64 r.f, .int .i64 r.ev, .int .i64 r.ct, .int .i64 r.un, .slice m.a0 r.ds.length m.c0, .slice m.a1 r.da.length m.c1, .slice m.a2 r.mo.length m.c2, .slice m.a3 r.pl.length m.c3, .int .i64 r.wk] : Array Value).toList) X #[.int .i64 r.f, .int .i64 r.ev, .int .i64 r.ct, .int .i64 r.un, .slice m.a0 r.ds.length m.c0, .slice m.a1 r.da.length m.c1, .slice m.a2 r.mo.length m.c2, .slice m.a3 r.pl.length m.c3, .int .i64 r.wk] := CF.apart (by have := K9.out.rx; omega) _ _ _ K9.out.c
                have FR : CF (w9.setCells w.heap.size 0 (#[.int .i64 r.f, .int .i64 r.ev, .int .i64 r.ct, .int .i64 r.un, .slice m.a0 r.ds.length m.c0, .slice m.a1 r.da.length m.c1, .slice m.a2 r.mo.length m.c2, .slice m.a3 r.pl.length m.c3, .int .i64 r.wk] : Array Value).toList) w.heap.size #[.int .i64 r.f, .int .i64 r.ev, .int .i64 r.ct, .int .i64 r.un, .slice m.a0 r.ds.length m.c0, .slice m.a1 r.da.length m.c1, .slice m.a2 r.mo.length m.c2, .slice m.a3 r.pl.length m.c3, .int .i64 r.wk] := K9.out.z.setCells #[.int .i64 r.f, .int .i64 r.ev, .int .i64 r.ct, .int .i64 r.un, .slice m.a0 r.ds.length m.c0, .slice m.a1 r.da.length m.c1, .slice m.a2 r.mo.length m.c2, .slice m.a3 r.pl.length m.c3, .int .i64 r.wk] rfl
                have FIN : Hid (OL w.heap.size r m (w9.setCells w.heap.size 0 (#[.int .i64 r.f, .int .i64 r.ev, .int .i64 r.ct, .int .i64 r.un, .slice m.a0 r.ds.length m.c0, .slice m.a1 r.da.length m.c1, .slice m.a2 r.mo.length m.c2, .slice m.a3 r.pl.length m.c3, .int .i64 r.wk] : Array Value).toList) ∧ Below w.heap.size w (w9.setCells w.heap.size 0 (#[.int .i64 r.f, .int .i64 r.ev, .int .i64 r.ct, .int .i64 r.un, .slice m.a0 r.ds.length m.c0, .slice m.a1 r.da.length m.c1, .slice m.a2 r.mo.length m.c2, .slice m.a3 r.pl.length m.c3, .int .i64 r.wk] : Array Value).toList)) := ⟨(OL.setCells (by omega) _ _ _ K9.out.l).down (by omega), (But.setCells (Nat.le_refl _) _ _ _ K9.out.b).below (by omega)⟩
                have CLF : ∀ i, i < D.length → (w9.setCells w.heap.size 0 (#[.int .i64 r.f, .int .i64 r.ev, .int .i64 r.ct, .int .i64 r.un, .slice m.a0 r.ds.length m.c0, .slice m.a1 r.da.length m.c1, .slice m.a2 r.mo.length m.c2, .slice m.a3 r.pl.length m.c3, .int .i64 r.wk] : Array Value).toList).cell? ⟨lb, lo + i, none⟩ = some (.int .i64 (gi D i)) := fun i hi => by rw [World.cell?_setCells_out _ _ _ _ _ (fun e => absurd e (by show lb ≠ w.heap.size; omega))]; exact CL9 i hi
                generalize w9.setCells w.heap.size 0 (#[.int .i64 r.f, .int .i64 r.ev, .int .i64 r.ct, .int .i64 r.un, .slice m.a0 r.ds.length m.c0, .slice m.a1 r.da.length m.c1, .slice m.a2 r.mo.length m.c2, .slice m.a3 r.pl.length m.c3, .int .i64 r.wk] : Array Value).toList = WF at SX FR FIN CLF ⊢
                refine hK.out _ _ ⟨SX, CLF⟩ (fun hHeld => ?_)
                clear hK K
                (try simp only [Act.put])
                refine wpAnyH_take (i := 14) (oi := { dst := some 3, op := Op.assign (Operand.tmp 31), type := 3, pos := "l12_draw.go:357", after := #[{ on := 1, ground := Ground.data }, { on := 13, ground := Ground.chain }, { on := 0, ground := Ground.phase }, { on := 1, ground := Ground.phase }, { on := 2, ground := Ground.textOnly Departure.lateStores }, { on := 3, ground := Ground.textOnly Departure.lateStores }, { on := 4, ground := Ground.textOnly Departure.lateStores }, { on := 5, ground := Ground.textOnly Departure.lateStoresUnsure }, { on := 6, ground := Ground.textOnly Departure.lateStoresUnsure }, { on := 7, ground := Ground.textOnly Departure.lateStores }, { on := 8, ground := Ground.textOnly Departure.lateStores }, { on := 9, ground := Ground.textOnly Departure.lateStores }, { on := 10, ground := Ground.textOnly Departure.lateStores }, { on := 11, ground := Ground.textOnly Departure.lateStoresUnsure }, { on := 12, ground := Ground.textOnly Departure.lateStores }, { on := 13, ground := Ground.phase }], guard := none }) (v := ?_) rfl (by kernel_rfl) (by kernel_rfl) (by kernel_rfl) (fun _ _ _ h => h) (Or.inl ⟨by rfl, ?_⟩) hHeld ?_
                rotate_left
                · (intro w9 hC9; go_simp; first | done | rfl)
                (try simp only [Act.put, List.setIfInBounds_toArray, List.set_cons_zero, List.set_cons_succ])
                refine wpAnyH_take (i := 15) (oi := { dst := some 4, op := Op.assign (Operand.tmp 42), type := 3, pos := "l12_draw.go:357", after := #[{ on := 12, ground := Ground.data }, { on := 14, ground := Ground.chain }, { on := 0, ground := Ground.phase }, { on := 1, ground := Ground.phase }, { on := 2, ground := Ground.phase }, { on := 3, ground := Ground.phase }, { on := 4, ground := Ground.phase }, { on := 5, ground := Ground.phase }, { on := 6, ground := Ground.phase }, { on := 7, ground := Ground.phase }, { on := 8, ground := Ground.phase }, { on := 9, ground := Ground.phase }, { on := 10, ground := Ground.phase }, { on := 11, ground := Ground.phase }, { on := 12, ground := Ground.phase }, { on := 13, ground := Ground.phase }, { on := 14, ground := Ground.phase }], guard := none }) (v := ?_) rfl (by kernel_rfl) (by kernel_rfl) (by kernel_rfl) (fun _ _ _ h => h) (Or.inl ⟨by rfl, ?_⟩) hHeld ?_
                rotate_left
                · (intro w9 hC9; go_simp; first | done | rfl)
                (try simp only [Act.put, List.setIfInBounds_toArray, List.set_cons_zero, List.set_cons_succ])
                refine wpAnyH_done (by kernel_rfl) ?_ _
                have z0 := (FR.2 0 _ rfl).1
                have z1 := (FR.2 1 _ rfl).1
                have z2 := (FR.2 2 _ rfl).1
                have z3 := (FR.2 3 _ rfl).1
                have z4 := (FR.2 4 _ rfl).1
                have z5 := (FR.2 5 _ rfl).1
                have z6 := (FR.2 6 _ rfl).1
                have z7 := (FR.2 7 _ rfl).1
                have z8 := (FR.2 8 _ rfl).1
                clear SX FR hHeld
                go_wp2
                refine bodyPost_ret (v := .tuple #[.agg #[.int .i64 r.f, .int .i64 r.ev, .int .i64 r.ct, .int .i64 r.un, .slice m.a0 r.ds.length m.c0, .slice m.a1 r.da.length m.c1, .slice m.a2 r.mo.length m.c2, .slice m.a3 r.pl.length m.c3, .int .i64 r.wk], .int .i64 s, .int .i64 (gi D y.toNat + x)]) (by simp [results, Tryd.results21, go_sem, *]) rfl ⟨r, m, _, _, rfl, FIN.out.1, SM.out, ⟨by omega, by omega⟩, ⟨by omega, by omega⟩, FIN.out.2⟩
              exact AllReadyH.nil
            exact AllReadyH.nil
          exact AllReadyH.nil
        refine AllReadyH.cons (o := { dst := some 40, op := Op.buildSlice 24 4 #[(0, Operand.const (Value.int IntKind.i64 0)), (1, Operand.const (Value.int IntKind.i64 0)), (2, Operand.const (Value.int IntKind.i64 0)), (3, Operand.const (Value.int IntKind.i64 1))], type := 24, pos := "l12_draw.go:357", after := #[], guard := none }) rfl (fun K hK => ?_) ?_
        · go_simp
          have CLA : ∀ i, i < D.length → (w7.drew.alloc (.cells #[.int .i64 0, .int .i64 0, .int .i64 0, .int .i64 1] 3)).cell? ⟨lb, lo + i, none⟩ = some (.int .i64 (gi D i)) := fun i hi => by rw [((Below.refl w7.heap.size w7.drew).alloc (Nat.le_refl _) (.cells #[.int .i64 0, .int .i64 0, .int .i64 0, .int .i64 1] 3)).cell (p := ⟨lb, lo + i, none⟩) (by show lb < _; omega)]; exact CLD i hi
          refine hK.out _ _ ⟨(KD.out.al _).c, CLA⟩ (fun hHeld => ?_)
          clear hK K
          (try simp only [Act.put, List.setIfInBounds_toArray, List.set_cons_zero, List.set_cons_succ])
          have KW : Hid (RD w X 66 r m (w7.drew.alloc (.cells #[.int .i64 0, .int .i64 0, .int .i64 0, .int .i64 1] 3))) := KD.out.al _
          have OL1 : ∀ i, i < 4 → (w7.drew.alloc (.cells #[.int .i64 0, .int .i64 0, .int .i64 0, .int .i64 1] 3)).cell? ⟨w7.heap.size, i, none⟩ = some (.int .i64 (([0, 0, 0, 1] : List Int).getD i 0)) := fun i hi => ints_at1 w7.drew [0, 0, 0, 1] _ rfl i hi
          have szW : (w7.drew.alloc (.cells #[.int .i64 0, .int .i64 0, .int .i64 0, .int .i64 1] 3)).heap.size = w7.heap.size + 1 := by simp
          refine wpAnyH_ready (rs := [6]) (by kernel_rfl) (by simp) ?_
          refine AllReadyH.cons (o := { dst := some 36, op := Op.call { callee := Callee.value (Operand.func 36), args := #[Operand.tmp 33, Operand.tmp 35], argTypes := #[44, 3] }, type := 3, pos := "l12_draw.go:357", after := #[{ on := 3, ground := Ground.data }, { on := 5, ground := Ground.data }], guard := none }) rfl (fun K hK => ?_) ?_
          · go_simp
            go_at_call 36
            refine (pick_pos _ (w7.drew.alloc (.cells #[.int .i64 0, .int .i64 0, .int .i64 0, .int .i64 1] 3)) _ _ KW.out.rd (by omega) (by omega)).mono ?_
            rintro e w8 ⟨⟨y, rfl, y0, y1⟩, hr8, hb8⟩
            have K8 : Hid (RD w X 67 r m w8) := KW.out.step hb8 hr8
            have OL3 : ∀ i, i < 4 → w8.cell? ⟨w7.heap.size, i, none⟩ = some (.int .i64 (([0, 0, 0, 1] : List Int).getD i 0)) := fun i hi => by rw [hb8.cell (p := ⟨w7.heap.size, i, none⟩) (by show w7.heap.size < _; omega) (by show w7.heap.size ≠ w.heap.size + 1; omega)]; exact OL1 i hi
            have sz8 := hb8.size
            have CL8 : ∀ i, i < D.length → w8.cell? ⟨lb, lo + i, none⟩ = some (.int .i64 (gi D i)) := fun i hi => by rw [hb8.cell (p := ⟨lb, lo + i, none⟩) (by show lb < _; omega) (by show lb ≠ w.heap.size + 1; omega)]; exact CLA i hi
            rw [szW] at sz8
            refine hK.out _ _ ⟨K8.out.c, CL8⟩ (fun hHeld => ?_)
            clear hK K
            (try simp only [Act.put, List.setIfInBounds_toArray, List.set_cons_zero, List.set_cons_succ])
            refine wpAnyH_take (i := 7) (oi := { dst := some 37, op := Op.indexAddr 24 (Operand.tmp 32) (Operand.tmp 36), type := 0, pos := "l12_draw.go:357", after := #[{ on := 2, ground := Ground.data }, { on := 6, ground := Ground.data }, { on := 14, ground := Ground.gcOnly Departure.lateStores }], guard := none }) (v := ?_) rfl (by kernel_rfl) (by kernel_rfl) (by kernel_rfl) (fun _ _ _ h => h) (Or.inl ⟨by rfl, ?_⟩) hHeld ?_
            rotate_left
            · (intro w9 hC9; go_simp; first | done | rfl)
            (try simp only [Act.put, List.setIfInBounds_toArray, List.set_cons_zero, List.set_cons_succ])
            refine wpAnyH_take (i := 8) (oi := { dst := some 38, op := Op.load 3 (Operand.tmp 37), type := 3, pos := "l12_draw.go:357", after := #[{ on := 7, ground := Ground.data }, { on := 14, ground := Ground.gcOnly Departure.lateStores }], guard := none }) (v := ?_) rfl (by kernel_rfl) (by kernel_rfl) (by kernel_rfl) (fun _ _ _ h => h) (Or.inl ⟨by rfl, ?_⟩) hHeld ?_
            rotate_left
            · (intro w9 hC9; have y2 := hC9.2 y.toNat (by omega); clear hC9; go_simp; first | done | rfl)
            (try simp only [Act.put, List.setIfInBounds_toArray, List.set_cons_zero, List.set_cons_succ])
            refine wpAnyH_ready (rs := [11]) (by kernel_rfl) (by simp) ?_
            refine AllReadyH.cons (o := { dst := some 41, op := Op.call { callee := Callee.value (Operand.func 37), args := #[Operand.tmp 39, Operand.tmp 40], argTypes := #[44, 24] }, type := 3, pos := "l12_draw.go:357", after := #[{ on := 9, ground := Ground.data }, { on := 10, ground := Ground.data }, { on := 6, ground := Ground.chain }], guard := none }) rfl (fun K hK => ?_) ?_
            · go_simp
              go_at_call 37
              refine (one_any w8 _ _ K8.out.rd (by omega) w7.heap.size 4 4 [0, 0, 0, 1] rfl (by omega) (by omega) (by omega) (by omega) OL3).mono ?_
              rintro e w9 ⟨⟨x, rfl, hx⟩, hr9, hb9⟩
              have K9 : Hid (RD w X 68 r m w9) := K8.out.step hb9 hr9
              have CL9 : ∀ i, i < D.length → w9.cell? ⟨lb, lo + i, none⟩ = some (.int .i64 (gi D i)) := fun i hi => by rw [hb9.cell (p := ⟨lb, lo + i, none⟩) (by show lb < _; omega) (by show lb ≠ w.heap.size + 1; omega)]; exact CL8 i hi
              refine hK.out _ _ ⟨K9.out.c, CL9⟩ (fun hHeld => ?_)
              clear hK K
              (try simp only [Act.put, List.setIfInBounds_toArray, List.set_cons_zero, List.set_cons_succ])
              have xb : 0 ≤ x ∧ x ≤ 1 := by simp only [List.mem_cons, List.not_mem_nil, or_false] at hx; omega
              have gb := HD.out _ (gi_mem (l := D) (i := y.toNat) (by omega))
              have g2 := IntWalk.i64_in (gi D y.toNat + x) (by omega)
              refine wpAnyH_take (i := 12) (oi := { dst := some 42, op := Op.binOp BinOp.add 3 (Operand.tmp 38) (Operand.tmp 41) 3, type := 3, pos := "l12_draw.go:357", after := #[{ on := 8, ground := Ground.data }, { on := 11, ground := Ground.data }, { on := 14, ground := Ground.gcOnly Departure.lateStores }], guard := none }) (v := ?_) rfl (by kernel_rfl) (by kernel_rfl) (by kernel_rfl) (fun _ _ _ h => h) (Or.inl ⟨by rfl, ?_⟩) hHeld ?_
              rotate_left
              · (intro w9 hC9; go_simp; first | done | rfl)
              (try simp only [Act.put, List.setIfInBounds_toArray, List.set_cons_zero, List.set_cons_succ])
              refine wpAnyH_ready (rs := [13]) (by kernel_rfl) (by simp) ?_
              refine AllReadyH.cons (o := { dst := none, op := Op.store 26 (Operand.tmp 2) (Operand.tmp 30), type := 0, pos := "l12_draw.go:357", after := #[{ on := 0, ground := Ground.data }, { on := 11, ground := Ground.chain }, { on := 0, ground := Ground.phase }, { on := 1, ground := Ground.textOnly Departure.lateStores }, { on := 2, ground := Ground.textOnly Departure.lateStores }, { on := 3, ground := Ground.textOnly Departure.lateStores }, { on := 4, ground := Ground.textOnly Departure.lateStores }, { on := 5, ground := Ground.textOnly Departure.lateStoresUnsure }, { on := 6, ground := Ground.textOnly Departure.lateStoresUnsure }, { on := 7, ground := Ground.textOnly Departure.lateStores }, { on := 8, ground := Ground.textOnly Departure.lateStores }, { on := 9, ground := Ground.textOnly Departure.lateStores }, { on := 10, ground := Ground.textOnly Departure.lateStores }, { on := 11, ground := Ground.textOnly Departure.lateStoresUnsure }, { on := 12, ground := Ground.textOnly Departure.lateStores }], guard := none }) rfl (fun K hK => ?_) ?_
              · refine step_store_mid (by rfl) 26 _ _ (by rfl) w.heap.size 0 #[.int .i64 r.f, .int .i64 r.ev, .int .i64 r.ct, .int .i64 r.un, .slice m.a0 r.ds.length m.c0, .slice m.a1 r.da.length m.c1, .slice m.a2 r.mo.length m.c2, .slice m.a3 r.pl.length m.c3, .int .i64 r.wk] (by rfl) (by rfl) (K9.out.z.there _ rfl) ruleSize (by simp [Value.oneCell']) ?_
                have SX : CF (w9.setCells w.heap.size 0 (#[.int .i64 r.f, .int .i64 r.ev, .int .i64 r.ct, .int .i64 r.un, .slice m.a0 r.ds.length m.c0, .slice m.a1 r.da.length m.c1, .slice m.a2 r.mo.length m.c2, .slice m.a3 r.pl.length m.c3, .int .i64 r.wk] : Array Value).toList) X #[.int .i64 r.f, .int .i64 r.ev, .int .i64 r.ct, .int .i64 r.un, .slice m.a0 r.ds.length m.c0, .slice m.a1 r.da.length m.c1, .slice m.a2 r.mo.length m.c2, .slice m.a3 r.pl.length m.c3, .int .i64 r.wk] := CF.apart (by have := K9.out.rx; omega) _ _ _ K9.out.c
                have FR : CF (w9.setCells w.heap.size 0 (#[.int .i64 r.f, .int .i64 r.ev, .int .i64 r.ct, .int .i64 r.un, .slice m.a0 r.ds.length m.c0, .slice m.a1 r.da.length m.c1, .slice m.a2 r.mo.length m.c2, .slice m.a3 r.pl.length m.c3, .int .i64 r.wk] : Array Value).toList) w.heap.size #[.int .i64 r.f, .int .i64 r.ev, .int .i64 r.ct, .int .i64 r.un, .slice m.a0 r.ds.length m.c0, .slice m.a1 r.da.length m.c1, .slice m.a2 r.mo.length m.c2, .slice m.a3 r.pl.length m.c3, .int .i64 r.wk] := K9.out.z.setCells #[.int .i64 r.f, .int .i64 r.ev, .int .i64 r.ct, .int .i64 r.un, .slice m.a0 r.ds.length m.c0, .slice m.a1 r.da.length m.c1, .slice m.a2 r.mo.length m.c2, .slice m.a3 r.pl.length m.c3, .int .i64 r.wk] rfl
                have FIN : Hid (OL w.heap.size r m (w9.setCells w.heap.size 0 (#[.int .i64 r.f, .int .i64 r.ev, .int .i64 r.ct, .int .i64 r.un, .slice m.a0 r.ds.length m.c0, .slice m.a1 r.da.length m.c1, .slice m.a2 r.mo.length m.c2, .slice m.a3 r.pl.length m.c3, .int .i64 r.wk] : Array Value).toList) ∧ Below w.heap.size w (w9.setCells w.heap.size 0 (#[.int .i64 r.f, .int .i64 r.ev, .int .i64 r.ct, .int .i64 r.un, .slice m.a0 r.ds.length m.c0, .slice m.a1 r.da.length m.c1, .slice m.a2 r.mo.length m.c2, .slice m.a3 r.pl.length m.c3, .int .i64 r.wk] : Array Value).toList)) := ⟨(OL.setCells (by omega) _ _ _ K9.out.l).down (by omega), (But.setCells (Nat.le_refl _) _ _ _ K9.out.b).below (by omega)⟩
                have CLF : ∀ i, i < D.length → (w9.setCells w.heap.size 0 (#[.int .i64 r.f, .int .i64 r.ev, .int .i64 r.ct, .int .i64 r.un, .slice m.a0 r.ds.length m.c0, .slice m.a1 r.da.length m.c1, .slice m.a2 r.mo.length m.c2, .slice m.a3 r.pl.length m.c3, .int .i64 r.wk] : Array Value).toList).cell? ⟨lb, lo + i, none⟩ = some (.int .i64 (gi D i)) := fun i hi => by rw [World.cell?_setCells_out _ _ _ _ _ (fun e => absurd e (by show lb ≠ w.heap.size; omega))]; exact CL9 i hi
                generalize w9.setCells w.heap.size 0 (#[.int .i64 r.f, .int .i64 r.ev, .int .i64 r.ct, .int .i64 r.un, .slice m.a0 r.ds.length m.c0, .slice m.a1 r.da.length m.c1, .slice m.a2 r.mo.length m.c2, .slice m.a3 r.pl.length m.c3, .int .i64 r.wk] : Array Value).toList = WF at SX FR FIN CLF ⊢
                refine hK.out _ _ ⟨SX, CLF⟩ (fun hHeld => ?_)
                clear hK K
                (try simp only [Act.put])
                refine wpAnyH_take (i := 14) (oi := { dst := some 3, op := Op.assign (Operand.tmp 31), type := 3, pos := "l12_draw.go:357", after := #[{ on := 1, ground := Ground.data }, { on := 13, ground := Ground.chain }, { on := 0, ground := Ground.phase }, { on := 1, ground := Ground.phase }, { on := 2, ground := Ground.textOnly Departure.lateStores }, { on := 3, ground := Ground.textOnly Departure.lateStores }, { on := 4, ground := Ground.textOnly Departure.lateStores }, { on := 5, ground := Ground.textOnly Departure.lateStoresUnsure }, { on := 6, ground := Ground.textOnly Departure.lateStoresUnsure }, { on := 7, ground := Ground.textOnly Departure.lateStores }, { on := 8, ground := Ground.textOnly Departure.lateStores }, { on := 9, ground := Ground.textOnly Departure.lateStores }, { on := 10, ground := Ground.textOnly Departure.lateStores }, { on := 11, ground := Ground.textOnly Departure.lateStoresUnsure }, { on := 12, ground := Ground.textOnly Departure.lateStores }, { on := 13, ground := Ground.phase }], guard := none }) (v := ?_) rfl (by kernel_rfl) (by kernel_rfl) (by kernel_rfl) (fun _ _ _ h => h) (Or.inl ⟨by rfl, ?_⟩) hHeld ?_
                rotate_left
                · (intro w9 hC9; go_simp; first | done | rfl)
                (try simp only [Act.put, List.setIfInBounds_toArray, List.set_cons_zero, List.set_cons_succ])
                refine wpAnyH_take (i := 15) (oi := { dst := some 4, op := Op.assign (Operand.tmp 42), type := 3, pos := "l12_draw.go:357", after := #[{ on := 12, ground := Ground.data }, { on := 14, ground := Ground.chain }, { on := 0, ground := Ground.phase }, { on := 1, ground := Ground.phase }, { on := 2, ground := Ground.phase }, { on := 3, ground := Ground.phase }, { on := 4, ground := Ground.phase }, { on := 5, ground := Ground.phase }, { on := 6, ground := Ground.phase }, { on := 7, ground := Ground.phase }, { on := 8, ground := Ground.phase }, { on := 9, ground := Ground.phase }, { on := 10, ground := Ground.phase }, { on := 11, ground := Ground.phase }, { on := 12, ground := Ground.phase }, { on := 13, ground := Ground.phase }, { on := 14, ground := Ground.phase }], guard := none }) (v := ?_) rfl (by kernel_rfl) (by kernel_rfl) (by kernel_rfl) (fun _ _ _ h => h) (Or.inl ⟨by rfl, ?_⟩) hHeld ?_
                rotate_left
                · (intro w9 hC9; go_simp; first | done | rfl)
                (try simp only [Act.put, List.setIfInBounds_toArray, List.set_cons_zero, List.set_cons_succ])
                refine wpAnyH_done (by kernel_rfl) ?_ _
                have z0 := (FR.2 0 _ rfl).1
                have z1 := (FR.2 1 _ rfl).1
                have z2 := (FR.2 2 _ rfl).1
                have z3 := (FR.2 3 _ rfl).1
                have z4 := (FR.2 4 _ rfl).1
                have z5 := (FR.2 5 _ rfl).1
                have z6 := (FR.2 6 _ rfl).1
                have z7 := (FR.2 7 _ rfl).1
                have z8 := (FR.2 8 _ rfl).1
                clear SX FR hHeld
                go_wp2
                refine bodyPost_ret (v := .tuple #[.agg #[.int .i64 r.f, .int .i64 r.ev, .int .i64 r.ct, .int .i64 r.un, .slice m.a0 r.ds.length m.c0, .slice m.a1 r.da.length m.c1, .slice m.a2 r.mo.length m.c2, .slice m.a3 r.pl.length m.c3, .int .i64 r.wk], .int .i64 s, .int .i64 (gi D y.toNat + x)]) (by simp [results, Tryd.results21, go_sem, *]) rfl ⟨r, m, _, _, rfl, FIN.out.1, SM.out, ⟨by omega, by omega⟩, ⟨by omega, by omega⟩, FIN.out.2⟩
              exact AllReadyH.nil
            exact AllReadyH.nil
          exact AllReadyH.nil
        exact AllReadyH.nil
      · clear HI7 HD HL
        go_upto_region 8 with fail
        have KD : Hid (RD w X 66 r m w7.drew) := K7.out.dr
        refine wp_region_held_drew (S := (fun w' => CF w' X #[.int .i64 r.f, .int .i64 r.ev, .int .i64 r.ct, .int .i64 r.un, .slice m.a0 r.ds.length m.c0, .slice m.a1 r.da.length m.c1, .slice m.a2 r.mo.length m.c2, .slice m.a3 r.pl.length m.c3, .int .i64 r.wk])) (by kernel_rfl) KD.out.c (fun hHeld => ?_)
        refine wpAnyH_take (i := 0) (oi := { dst := some 43, op := Op.load 26 (Operand.tmp 6), type := 26, pos := "l12_draw.go:360", after := #[], guard := none }) (v := .agg ([.int .i64 r.f, .int .i64 r.ev, .int .i64 r.ct, .int .i64 r.un, .slice m.a0 r.ds.length m.c0, .slice m.a1 r.da.length m.c1, .slice m.a2 r.mo.length m.c2, .slice m.a3 r.pl.length m.c3, .int .i64 r.wk] : List Value).toArray) rfl (by kernel_rfl) (by kernel_rfl) (by kernel_rfl) (fun _ _ _ h => h) (yieldsIf_load_mid rfl 26 (.tmp 6) rfl X 0 rfl [.int .i64 r.f, .int .i64 r.ev, .int .i64 r.ct, .int .i64 r.un, .slice m.a0 r.ds.length m.c0, .slice m.a1 r.da.length m.c1, .slice m.a2 r.mo.length m.c2, .slice m.a3 r.pl.length m.c3, .int .i64 r.wk] _ (fun w' hb => CF.range hb) Tryd.underlying26 rfl ruleSize) hHeld ?_
        (try simp only [Act.put, List.setIfInBounds_toArray, List.set_cons_zero, List.set_cons_succ])
        refine wpAnyH_take (i := 1) (oi := { dst := some 44, op := Op.move (Operand.tmp 7), type := 3, pos := "l12_draw.go:360", after := #[{ on := 7, ground := Ground.gcOnly Departure.lateStores }], guard := none }) (v := ?_) rfl (by kernel_rfl) (by kernel_rfl) (by kernel_rfl) (fun _ _ _ h => h) (Or.inl ⟨by rfl, ?_⟩) hHeld ?_
        rotate_left
        · (intro w9 hC9; go_simp; first | done | rfl)
        (try simp only [Act.put, List.setIfInBounds_toArray, List.set_cons_zero, List.set_cons_succ])
        refine wpAnyH_take (i := 2) (oi := { dst := some 45, op := Op.move (Operand.tmp 7), type := 3, pos := "l12_draw.go:360", after := #[{ on := 8, ground := Ground.gcOnly Departure.lateStores }], guard := none }) (v := ?_) rfl (by kernel_rfl) (by kernel_rfl) (by kernel_rfl) (fun _ _ _ h => h) (Or.inl ⟨by rfl, ?_⟩) hHeld ?_
        rotate_left
        · (intro w9 hC9; go_simp; first | done | rfl)
        (try simp only [Act.put, List.setIfInBounds_toArray, List.set_cons_zero, List.set_cons_succ])
        refine wpAnyH_take (i := 3) (oi := { dst := some 46, op := Op.move (Operand.tmp 5), type := 44, pos := "l12_draw.go:360", after := #[], guard := none }) (v := ?_) rfl (by kernel_rfl) (by kernel_rfl) (by kernel_rfl) (fun _ _ _ h => h) (Or.inl ⟨by rfl, ?_⟩) hHeld ?_
        rotate_left
        · (intro w9 hC9; go_simp; first | done | rfl)
        (try simp only [Act.put, List.setIfInBounds_toArray, List.set_cons_zero, List.set_cons_succ])
        refine wpAnyH_ready (rs := [4]) (by kernel_rfl) (by simp) ?_
        refine AllReadyH.cons (o := { dst := some 47, op := Op.call { callee := Callee.value (Operand.func 36), args := #[Operand.tmp 46, Operand.const (Value.int IntKind.i64 256)], argTypes := #[44, 3] }, type := 3, pos := "l12_draw.go:360", after := #[{ on := 3, ground := Ground.data }], guard := none }) rfl (fun K hK => ?_) ?_
        · go_simp
          go_at_call 36
          refine (pick_pos _ w7.drew _ _ KD.out.rd (by omega) (by omega)).mono ?_
          rintro e w8 ⟨⟨p, rfl, p0, p1⟩, hr8, hb8⟩
          have K8 : Hid (RD w X 67 r m w8) := KD.out.step hb8 hr8
          refine hK.out _ _ K8.out.c (fun hHeld => ?_)
          clear hK K
          (try simp only [Act.put, List.setIfInBounds_toArray, List.set_cons_zero, List.set_cons_succ])
          have g1 := IntWalk.i64_in (s + p) (by omega)
          have g2 := IntWalk.i64_in (s + p - 2) (by omega)
          refine wpAnyH_take (i := 5) (oi := { dst := some 48, op := Op.binOp BinOp.add 3 (Operand.tmp 45) (Operand.tmp 47) 3, type := 3, pos := "l12_draw.go:360", after := #[{ on := 2, ground := Ground.data }, { on := 4, ground := Ground.data }, { on := 8, ground := Ground.gcOnly Departure.lateStores }], guard := none }) (v := ?_) rfl (by kernel_rfl) (by kernel_rfl) (by kernel_rfl) (fun _ _ _ h => h) (Or.inl ⟨by rfl, ?_⟩) hHeld ?_
          rotate_left
          · (intro w9 hC9; go_simp; first | done | rfl)
          (try simp only [Act.put, List.setIfInBounds_toArray, List.set_cons_zero, List.set_cons_succ])
          refine wpAnyH_take (i := 6) (oi := { dst := some 49, op := Op.binOp BinOp.sub 3 (Operand.tmp 48) (Operand.const (Value.int IntKind.i64 2)) 3, type := 3, pos := "l12_draw.go:360", after := #[{ on := 5, ground := Ground.data }, { on := 8, ground := Ground.gcOnly Departure.lateStores }], guard := none }) (v := ?_) rfl (by kernel_rfl) (by kernel_rfl) (by kernel_rfl) (fun _ _ _ h => h) (Or.inl ⟨by rfl, ?_⟩) hHeld ?_
          rotate_left
          · (intro w9 hC9; go_simp; first | done | rfl)
          (try simp only [Act.put, List.setIfInBounds_toArray, List.set_cons_zero, List.set_cons_succ])
          refine wpAnyH_ready (rs := [7]) (by kernel_rfl) (by simp) ?_
          refine AllReadyH.cons (o := { dst := none, op := Op.store 26 (Operand.tmp 2) (Operand.tmp 43), type := 0, pos := "l12_draw.go:360", after := #[{ on := 0, ground := Ground.data }, { on := 4, ground := Ground.chain }, { on := 0, ground := Ground.phase }, { on := 1, ground := Ground.textOnly Departure.lateStores }, { on := 2, ground := Ground.textOnly Departure.lateStores }, { on := 3, ground := Ground.textOnly Departure.lateStores }, { on := 4, ground := Ground.textOnly Departure.lateStoresUnsure }, { on := 5, ground := Ground.textOnly Departure.lateStores }, { on := 6, ground := Ground.textOnly Departure.lateStores }], guard := none }) rfl (fun K hK => ?_) ?_
          · refine step_store_mid (by rfl) 26 _ _ (by rfl) w.heap.size 0 #[.int .i64 r.f, .int .i64 r.ev, .int .i64 r.ct, .int .i64 r.un, .slice m.a0 r.ds.length m.c0, .slice m.a1 r.da.length m.c1, .slice m.a2 r.mo.length m.c2, .slice m.a3 r.pl.length m.c3, .int .i64 r.wk] (by rfl) (by rfl) (K8.out.z.there _ rfl) ruleSize (by simp [Value.oneCell']) ?_
            have SX : CF (w8.setCells w.heap.size 0 (#[.int .i64 r.f, .int .i64 r.ev, .int .i64 r.ct, .int .i64 r.un, .slice m.a0 r.ds.length m.c0, .slice m.a1 r.da.length m.c1, .slice m.a2 r.mo.length m.c2, .slice m.a3 r.pl.length m.c3, .int .i64 r.wk] : Array Value).toList) X #[.int .i64 r.f, .int .i64 r.ev, .int .i64 r.ct, .int .i64 r.un, .slice m.a0 r.ds.length m.c0, .slice m.a1 r.da.length m.c1, .slice m.a2 r.mo.length m.c2, .slice m.a3 r.pl.length m.c3, .int .i64 r.wk] := CF.apart (by have := K8.out.rx; omega) _ _ _ K8.out.c
            have FR : CF (w8.setCells w.heap.size 0 (#[.int .i64 r.f, .int .i64 r.ev, .int .i64 r.ct, .int .i64 r.un, .slice m.a0 r.ds.length m.c0, .slice m.a1 r.da.length m.c1, .slice m.a2 r.mo.length m.c2, .slice m.a3 r.pl.length m.c3, .int .i64 r.wk] : Array Value).toList) w.heap.size #[.int .i64 r.f, .int .i64 r.ev, .int .i64 r.ct, .int .i64 r.un, .slice m.a0 r.ds.length m.c0, .slice m.a1 r.da.length m.c1, .slice m.a2 r.mo.length m.c2, .slice m.a3 r.pl.length m.c3, .int .i64 r.wk] := K8.out.z.setCells #[.int .i64 r.f, .int .i64 r.ev, .int .i64 r.ct, .int .i64 r.un, .slice m.a0 r.ds.length m.c0, .slice m.a1 r.da.length m.c1, .slice m.a2 r.mo.length m.c2, .slice m.a3 r.pl.length m.c3, .int .i64 r.wk] rfl
            have FIN : Hid (OL w.heap.size r m (w8.setCells w.heap.size 0 (#[.int .i64 r.f, .int .i64 r.ev, .int .i64 r.ct, .int .i64 r.un, .slice m.a0 r.ds.length m.c0, .slice m.a1 r.da.length m.c1, .slice m.a2 r.mo.length m.c2, .slice m.a3 r.pl.length m.c3, .int .i64 r.wk] : Array Value).toList) ∧ Below w.heap.size w (w8.setCells w.heap.size 0 (#[.int .i64 r.f, .int .i64 r.ev, .int .i64 r.ct, .int .i64 r.un, .slice m.a0 r.ds.length m.c0, .slice m.a1 r.da.length m.c1, .slice m.a2 r.mo.length m.c2, .slice m.a3 r.pl.length m.c3, .int .i64 r.wk] : Array Value).toList)) := ⟨(OL.setCells (by omega) _ _ _ K8.out.l).down (by omega), (But.setCells (Nat.le_refl _) _ _ _ K8.out.b).below (by omega)⟩
            generalize w8.setCells w.heap.size 0 (#[.int .i64 r.f, .int .i64 r.ev, .int .i64 r.ct, .int .i64 r.un, .slice m.a0 r.ds.length m.c0, .slice m.a1 r.da.length m.c1, .slice m.a2 r.mo.length m.c2, .slice m.a3 r.pl.length m.c3, .int .i64 r.wk] : Array Value).toList = WF at SX FR FIN ⊢
            refine hK.out _ _ SX (fun hHeld => ?_)
            clear hK K
            (try simp only [Act.put])
            refine wpAnyH_take (i := 8) (oi := { dst := some 3, op := Op.assign (Operand.tmp 44), type := 3, pos := "l12_draw.go:360", after := #[{ on := 1, ground := Ground.data }, { on := 7, ground := Ground.chain }, { on := 0, ground := Ground.phase }, { on := 1, ground := Ground.phase }, { on := 2, ground := Ground.textOnly Departure.lateStores }, { on := 3, ground := Ground.textOnly Departure.lateStores }, { on := 4, ground := Ground.textOnly Departure.lateStoresUnsure }, { on := 5, ground := Ground.textOnly Departure.lateStores }, { on := 6, ground := Ground.textOnly Departure.lateStores }, { on := 7, ground := Ground.phase }], guard := none }) (v := ?_) rfl (by kernel_rfl) (by kernel_rfl) (by kernel_rfl) (fun _ _ _ h => h) (Or.inl ⟨by rfl, ?_⟩) hHeld ?_
            rotate_left
            · (intro w9 hC9; go_simp; first | done | rfl)
            (try simp only [Act.put, List.setIfInBounds_toArray, List.set_cons_zero, List.set_cons_succ])
            refine wpAnyH_take (i := 9) (oi := { dst := some 4, op := Op.assign (Operand.tmp 49), type := 3, pos := "l12_draw.go:360", after := #[{ on := 6, ground := Ground.data }, { on := 8, ground := Ground.chain }, { on := 0, ground := Ground.phase }, { on := 1, ground := Ground.phase }, { on := 2, ground := Ground.phase }, { on := 3, ground := Ground.phase }, { on := 4, ground := Ground.phase }, { on := 5, ground := Ground.phase }, { on := 6, ground := Ground.phase }, { on := 7, ground := Ground.phase }, { on := 8, ground := Ground.phase }], guard := none }) (v := ?_) rfl (by kernel_rfl) (by kernel_rfl) (by kernel_rfl) (fun _ _ _ h => h) (Or.inl ⟨by rfl, ?_⟩) hHeld ?_
            rotate_left
            · (intro w9 hC9; go_simp; first | done | rfl)
            (try simp only [Act.put, List.setIfInBounds_toArray, List.set_cons_zero, List.set_cons_succ])
            refine wpAnyH_done (by kernel_rfl) ?_ _
            have z0 := (FR.2 0 _ rfl).1
            have z1 := (FR.2 1 _ rfl).1
            have z2 := (FR.2 2 _ rfl).1
            have z3 := (FR.2 3 _ rfl).1
            have z4 := (FR.2 4 _ rfl).1
            have z5 := (FR.2 5 _ rfl).1
            have z6 := (FR.2 6 _ rfl).1
            have z7 := (FR.2 7 _ rfl).1
            have z8 := (FR.2 8 _ rfl).1
            clear SX FR hHeld
            go_wp2
            refine bodyPost_ret (v := .tuple #[.agg #[.int .i64 r.f, .int .i64 r.ev, .int .i64 r.ct, .int .i64 r.un, .slice m.a0 r.ds.length m.c0, .slice m.a1 r.da.length m.c1, .slice m.a2 r.mo.length m.c2, .slice m.a3 r.pl.length m.c3, .int .i64 r.wk], .int .i64 s, .int .i64 (s + p - 2)]) (by simp [results, Tryd.results21, go_sem, *]) rfl ⟨r, m, _, _, rfl, FIN.out.1, SM.out, ⟨by omega, by omega⟩, ⟨by omega, by omega⟩, FIN.out.2⟩
          exact AllReadyH.nil
        exact AllReadyH.nil
    · have h0 : (q == 0) = false := beq_eq_false_iff_ne.2 e0
      clear e0
      have K7 : Hid (RD w X 66 r m w6) := K6.out
      clear K6
      generalize w6 = w7 at *
      go_upto_region 8 with fail
      have KD : Hid (RD w X 66 r m w7.drew) := K7.out.dr
      refine wp_region_held_drew (S := (fun w' => CF w' X #[.int .i64 r.f, .int .i64 r.ev, .int .i64 r.ct, .int .i64 r.un, .slice m.a0 r.ds.length m.c0, .slice m.a1 r.da.length m.c1, .slice m.a2 r.mo.length m.c2, .slice m.a3 r.pl.length m.c3, .int .i64 r.wk])) (by kernel_rfl) KD.out.c (fun hHeld => ?_)
      refine wpAnyH_take (i := 0) (oi := { dst := some 43, op := Op.load 26 (Operand.tmp 6), type := 26, pos := "l12_draw.go:360", after := #[], guard := none }) (v := .agg ([.int .i64 r.f, .int .i64 r.ev, .int .i64 r.ct, .int .i64 r.un, .slice m.a0 r.ds.length m.c0, .slice m.a1 r.da.length m.c1, .slice m.a2 r.mo.length m.c2, .slice m.a3 r.pl.length m.c3, .int .i64 r.wk] : List Value).toArray) rfl (by kernel_rfl) (by kernel_rfl) (by kernel_rfl) (fun _ _ _ h => h) (yieldsIf_load_mid rfl 26 (.tmp 6) rfl X 0 rfl [.int .i64 r.f, .int .i64 r.ev, .int .i64 r.ct, .int .i64 r.un, .slice m.a0 r.ds.length m.c0, .slice m.a1 r.da.length m.c1, .slice m.a2 r.mo.length m.c2, .slice m.a3 r.pl.length m.c3, .int .i64 r.wk] _ (fun w' hb => CF.range hb) Tryd.underlying26 rfl ruleSize) hHeld ?_
      (try simp only [Act.put, List.setIfInBounds_toArray, List.set_cons_zero, List.set_cons_succ])
      refine wpAnyH_take (i := 1) (oi := { dst := some 44, op := Op.move (Operand.tmp 7), type := 3, pos := "l12_draw.go:360", after := #[{ on := 7, ground := Ground.gcOnly Departure.lateStores }], guard := none }) (v := ?_) rfl (by kernel_rfl) (by kernel_rfl) (by kernel_rfl) (fun _ _ _ h => h) (Or.inl ⟨by rfl, ?_⟩) hHeld ?_
      rotate_left
      · (intro w9 hC9; go_simp; first | done | rfl)
      (try simp only [Act.put, List.setIfInBounds_toArray, List.set_cons_zero, List.set_cons_succ])
      refine wpAnyH_take (i := 2) (oi := { dst := some 45, op := Op.move (Operand.tmp 7), type := 3, pos := "l12_draw.go:360", after := #[{ on := 8, ground := Ground.gcOnly Departure.lateStores }], guard := none }) (v := ?_) rfl (by kernel_rfl) (by kernel_rfl) (by kernel_rfl) (fun _ _ _ h => h) (Or.inl ⟨by rfl, ?_⟩) hHeld ?_
      rotate_left
      · (intro w9 hC9; go_simp; first | done | rfl)
      (try simp only [Act.put, List.setIfInBounds_toArray, List.set_cons_zero, List.set_cons_succ])
      refine wpAnyH_take (i := 3) (oi := { dst := some 46, op := Op.move (Operand.tmp 5), type := 44, pos := "l12_draw.go:360", after := #[], guard := none }) (v := ?_) rfl (by kernel_rfl) (by kernel_rfl) (by kernel_rfl) (fun _ _ _ h => h) (Or.inl ⟨by rfl, ?_⟩) hHeld ?_
      rotate_left
      · (intro w9 hC9; go_simp; first | done | rfl)
      (try simp only [Act.put, List.setIfInBounds_toArray, List.set_cons_zero, List.set_cons_succ])
      refine wpAnyH_ready (rs := [4]) (by kernel_rfl) (by simp) ?_
      refine AllReadyH.cons (o := { dst := some 47, op := Op.call { callee := Callee.value (Operand.func 36), args := #[Operand.tmp 46, Operand.const (Value.int IntKind.i64 256)], argTypes := #[44, 3] }, type := 3, pos := "l12_draw.go:360", after := #[{ on := 3, ground := Ground.data }], guard := none }) rfl (fun K hK => ?_) ?_
      · go_simp
        go_at_call 36
        refine (pick_pos _ w7.drew _ _ KD.out.rd (by omega) (by omega)).mono ?_
        rintro e w8 ⟨⟨p, rfl, p0, p1⟩, hr8, hb8⟩
        have K8 : Hid (RD w X 67 r m w8) := KD.out.step hb8 hr8
        refine hK.out _ _ K8.out.c (fun hHeld => ?_)
        clear hK K
        (try simp only [Act.put, List.setIfInBounds_toArray, List.set_cons_zero, List.set_cons_succ])
        have g1 := IntWalk.i64_in (s + p) (by omega)
        have g2 := IntWalk.i64_in (s + p - 2) (by omega)
        refine wpAnyH_take (i := 5) (oi := { dst := some 48, op := Op.binOp BinOp.add 3 (Operand.tmp 45) (Operand.tmp 47) 3, type := 3, pos := "l12_draw.go:360", after := #[{ on := 2, ground := Ground.data }, { on := 4, ground := Ground.data }, { on := 8, ground := Ground.gcOnly Departure.lateStores }], guard := none }) (v := ?_) rfl (by kernel_rfl) (by kernel_rfl) (by kernel_rfl) (fun _ _ _ h => h) (Or.inl ⟨by rfl, ?_⟩) hHeld ?_
        rotate_left
        · (intro w9 hC9; go_simp; first | done | rfl)
        (try simp only [Act.put, List.setIfInBounds_toArray, List.set_cons_zero, List.set_cons_succ])
        refine wpAnyH_take (i := 6) (oi := { dst := some 49, op := Op.binOp BinOp.sub 3 (Operand.tmp 48) (Operand.const (Value.int IntKind.i64 2)) 3, type := 3, pos := "l12_draw.go:360", after := #[{ on := 5, ground := Ground.data }, { on := 8, ground := Ground.gcOnly Departure.lateStores }], guard := none }) (v := ?_) rfl (by kernel_rfl) (by kernel_rfl) (by kernel_rfl) (fun _ _ _ h => h) (Or.inl ⟨by rfl, ?_⟩) hHeld ?_
        rotate_left
        · (intro w9 hC9; go_simp; first | done | rfl)
        (try simp only [Act.put, List.setIfInBounds_toArray, List.set_cons_zero, List.set_cons_succ])
        refine wpAnyH_ready (rs := [7]) (by kernel_rfl) (by simp) ?_
        refine AllReadyH.cons (o := { dst := none, op := Op.store 26 (Operand.tmp 2) (Operand.tmp 43), type := 0, pos := "l12_draw.go:360", after := #[{ on := 0, ground := Ground.data }, { on := 4, ground := Ground.chain }, { on := 0, ground := Ground.phase }, { on := 1, ground := Ground.textOnly Departure.lateStores }, { on := 2, ground := Ground.textOnly Departure.lateStores }, { on := 3, ground := Ground.textOnly Departure.lateStores }, { on := 4, ground := Ground.textOnly Departure.lateStoresUnsure }, { on := 5, ground := Ground.textOnly Departure.lateStores }, { on := 6, ground := Ground.textOnly Departure.lateStores }], guard := none }) rfl (fun K hK => ?_) ?_
        · refine step_store_mid (by rfl) 26 _ _ (by rfl) w.heap.size 0 #[.int .i64 r.f, .int .i64 r.ev, .int .i64 r.ct, .int .i64 r.un, .slice m.a0 r.ds.length m.c0, .slice m.a1 r.da.length m.c1, .slice m.a2 r.mo.length m.c2, .slice m.a3 r.pl.length m.c3, .int .i64 r.wk] (by rfl) (by rfl) (K8.out.z.there _ rfl) ruleSize (by simp [Value.oneCell']) ?_
          have SX : CF (w8.setCells w.heap.size 0 (#[.int .i64 r.f, .int .i64 r.ev, .int .i64 r.ct, .int .i64 r.un, .slice m.a0 r.ds.length m.c0, .slice m.a1 r.da.length m.c1, .slice m.a2 r.mo.length m.c2, .slice m.a3 r.pl.length m.c3, .int .i64 r.wk] : Array Value).toList) X #[.int .i64 r.f, .int .i64 r.ev, .int .i64 r.ct, .int .i64 r.un, .slice m.a0 r.ds.length m.c0, .slice m.a1 r.da.length m.c1, .slice m.a2 r.mo.length m.c2, .slice m.a3 r.pl.length m.c3, .int .i64 r.wk] := CF.apart (by have := K8.out.rx; omega) _ _ _ K8.out.c
          have FR : CF (w8.setCells w.heap.size 0 (#[.int .i64 r.f, .int .i64 r.ev, .int .i64 r.ct, .int .i64 r.un, .slice m.a0 r.ds.length m.c0, .slice m.a1 r.da.length m.c1, .slice m.a2 r.mo.length m.c2, .slice m.a3 r.pl.length m.c3, .int .i64 r.wk] : Array Value).toList) w.heap.size #[.int .i64 r.f, .int .i64 r.ev, .int .i64 r.ct, .int .i64 r.un, .slice m.a0 r.ds.length m.c0, .slice m.a1 r.da.length m.c1, .slice m.a2 r.mo.length m.c2, .slice m.a3 r.pl.length m.c3, .int .i64 r.wk] := K8.out.z.setCells #[.int .i64 r.f, .int .i64 r.ev, .int .i64 r.ct, .int .i64 r.un, .slice m.a0 r.ds.length m.c0, .slice m.a1 r.da.length m.c1, .slice m.a2 r.mo.length m.c2, .slice m.a3 r.pl.length m.c3, .int .i64 r.wk] rfl
          have FIN : Hid (OL w.heap.size r m (w8.setCells w.heap.size 0 (#[.int .i64 r.f, .int .i64 r.ev, .int .i64 r.ct, .int .i64 r.un, .slice m.a0 r.ds.length m.c0, .slice m.a1 r.da.length m.c1, .slice m.a2 r.mo.length m.c2, .slice m.a3 r.pl.length m.c3, .int .i64 r.wk] : Array Value).toList) ∧ Below w.heap.size w (w8.setCells w.heap.size 0 (#[.int .i64 r.f, .int .i64 r.ev, .int .i64 r.ct, .int .i64 r.un, .slice m.a0 r.ds.length m.c0, .slice m.a1 r.da.length m.c1, .slice m.a2 r.mo.length m.c2, .slice m.a3 r.pl.length m.c3, .int .i64 r.wk] : Array Value).toList)) := ⟨(OL.setCells (by omega) _ _ _ K8.out.l).down (by omega), (But.setCells (Nat.le_refl _) _ _ _ K8.out.b).below (by omega)⟩
          generalize w8.setCells w.heap.size 0 (#[.int .i64 r.f, .int .i64 r.ev, .int .i64 r.ct, .int .i64 r.un, .slice m.a0 r.ds.length m.c0, .slice m.a1 r.da.length m.c1, .slice m.a2 r.mo.length m.c2, .slice m.a3 r.pl.length m.c3, .int .i64 r.wk] : Array Value).toList = WF at SX FR FIN ⊢
          refine hK.out _ _ SX (fun hHeld => ?_)
          clear hK K
          (try simp only [Act.put])
          refine wpAnyH_take (i := 8) (oi := { dst := some 3, op := Op.assign (Operand.tmp 44), type := 3, pos := "l12_draw.go:360", after := #[{ on := 1, ground := Ground.data }, { on := 7, ground := Ground.chain }, { on := 0, ground := Ground.phase }, { on := 1, ground := Ground.phase }, { on := 2, ground := Ground.textOnly Departure.lateStores }, { on := 3, ground := Ground.textOnly Departure.lateStores }, { on := 4, ground := Ground.textOnly Departure.lateStoresUnsure }, { on := 5, ground := Ground.textOnly Departure.lateStores }, { on := 6, ground := Ground.textOnly Departure.lateStores }, { on := 7, ground := Ground.phase }], guard := none }) (v := ?_) rfl (by kernel_rfl) (by kernel_rfl) (by kernel_rfl) (fun _ _ _ h => h) (Or.inl ⟨by rfl, ?_⟩) hHeld ?_
          rotate_left
          · (intro w9 hC9; go_simp; first | done | rfl)
          (try simp only [Act.put, List.setIfInBounds_toArray, List.set_cons_zero, List.set_cons_succ])
          refine wpAnyH_take (i := 9) (oi := { dst := some 4, op := Op.assign (Operand.tmp 49), type := 3, pos := "l12_draw.go:360", after := #[{ on := 6, ground := Ground.data }, { on := 8, ground := Ground.chain }, { on := 0, ground := Ground.phase }, { on := 1, ground := Ground.phase }, { on := 2, ground := Ground.phase }, { on := 3, ground := Ground.phase }, { on := 4, ground := Ground.phase }, { on := 5, ground := Ground.phase }, { on := 6, ground := Ground.phase }, { on := 7, ground := Ground.phase }, { on := 8, ground := Ground.phase }], guard := none }) (v := ?_) rfl (by kernel_rfl) (by kernel_rfl) (by kernel_rfl) (fun _ _ _ h => h) (Or.inl ⟨by rfl, ?_⟩) hHeld ?_
          rotate_left
          · (intro w9 hC9; go_simp; first | done | rfl)
          (try simp only [Act.put, List.setIfInBounds_toArray, List.set_cons_zero, List.set_cons_succ])
          refine wpAnyH_done (by kernel_rfl) ?_ _
          have z0 := (FR.2 0 _ rfl).1
          have z1 := (FR.2 1 _ rfl).1
          have z2 := (FR.2 2 _ rfl).1
          have z3 := (FR.2 3 _ rfl).1
          have z4 := (FR.2 4 _ rfl).1
          have z5 := (FR.2 5 _ rfl).1
          have z6 := (FR.2 6 _ rfl).1
          have z7 := (FR.2 7 _ rfl).1
          have z8 := (FR.2 8 _ rfl).1
          clear SX FR hHeld
          go_wp2
          refine bodyPost_ret (v := .tuple #[.agg #[.int .i64 r.f, .int .i64 r.ev, .int .i64 r.ct, .int .i64 r.un, .slice m.a0 r.ds.length m.c0, .slice m.a1 r.da.length m.c1, .slice m.a2 r.mo.length m.c2, .slice m.a3 r.pl.length m.c3, .int .i64 r.wk], .int .i64 s, .int .i64 (s + p - 2)]) (by simp [results, Tryd.results21, go_sem, *]) rfl ⟨r, m, _, _, rfl, FIN.out.1, SM.out, ⟨by omega, by omega⟩, ⟨by omega, by omega⟩, FIN.out.2⟩
        exact AllReadyH.nil
      exact AllReadyH.nil
end Go.Proofs.YtlfglhpepoepcaaDoor
namespace Go.Proofs.YtlfglhpepoepcaaDoor
open Go.RowKit
set_option linter.unusedVariables false
/-- A rule in its own block, its lists ahead of it: its numbers may be set. -/
structure RQ (w : World) (X : Nat) (r : Rl) (m : Rm) (W : World) : Prop where
  c : CF W X (rcs r m)
  old : ∃ W1 : World, W1.heap.size = X ∧ RAny W1 r m ∧ Below X W1 W
  bel : Below w.heap.size w W
  le : w.heap.size ≤ X
theorem RQ.any {w W : World} {X : Nat} {r : Rl} {m : Rm} (h : RQ w X r m W) : RAny W r m := by
  obtain ⟨W1, rfl, a, b⟩ := h.old
  exact a.on b
theorem RQ.on {w W W' : World} {X : Nat} {r : Rl} {m : Rm} (h : RQ w X r m W) (hb : Below W.heap.size W W') : RQ w X r m W' := by
  obtain ⟨W1, h1, a, b⟩ := h.old
  exact ⟨h.c.below hb, ⟨W1, h1, a, b.trans (hb.mono (Nat.le_of_lt h.c.1))⟩, bstep h.bel hb, h.le⟩
theorem RQ.put {w W : World} {X : Nat} {r r' : Rl} {m : Rm} (h : RQ w X r m W) (i : Nat) (v : Value) (hi : i < 9) (hc : rcs r' m = (rcs r m).set! i v) (h0 : r'.ds = r.ds) (h1 : r'.da = r.da) (h2 : r'.mo = r.mo) (h3 : r'.pl = r.pl) : RQ w X r' m (W.setCell ⟨X, i, none⟩ v) := by
  obtain ⟨W1, hX, a, b⟩ := h.old
  refine ⟨by rw [hc]; exact h.c.set i v (by unfold rcs; exact hi), ⟨W1, hX, ⟨by rw [h0]; exact a.l0, by rw [h1]; exact a.l1, by rw [h2]; exact a.l2, by rw [h3]; exact a.l3, ?_, a.tab⟩, b.setCell (p := ⟨X, i, none⟩) (Nat.le_refl _) v⟩, h.bel.setCell (p := ⟨X, i, none⟩) h.le v, h.le⟩
  obtain ⟨t, i1, i2, i3⟩ := a.mem
  exact ⟨by rw [h0]; exact t, by rw [h1]; exact i1, by rw [h2]; exact i2, by rw [h3]; exact i3⟩
theorem IsInts.kept {w W W' : World} {B : Nat} {a : Option Addr} {l : List Int} (h : IsInts w a l) (hb : Below w.heap.size w W) : IsInts W a l := h.below hb
theorem comes_re (f ev ct un ct' un' : Int) (ds : List (Int × Int)) (da mo pl : List Int) (wk s t : Int) : comes ⟨f, ev, ct, un, ds, da, mo, pl, wk⟩ s t = comes ⟨f, ev, ct', un', ds, da, mo, pl, wk⟩ s t := rfl
theorem may_re {f ev ct un ct' un' : Int} {ds : List (Int × Int)} {da mo pl : List Int} {wk s t : Int} (h : ofB f ev ct un wk = ofB f ev ct' un' wk) : mayB ⟨f, ev, ct, un, ds, da, mo, pl, wk⟩ s t = mayB ⟨f, ev, ct', un', ds, da, mo, pl, wk⟩ s t := by
  unfold mayB ruOf ruB
  simp only
  rw [h]
theorem of_ct {f ev wk c : Int} (h0 : 1 ≤ c) (h1 : c ≤ 9) : ofB f ev c 0 wk = ofB f ev 0 0 wk := by
  rw [Bool.eq_iff_iff, of_iff, of_iff]
  constructor
  · rintro h; omega
  · rintro h; omega
theorem count_law {f ev c : Int} {ds : List (Int × Int)} {da mo pl : List Int} {wk s t : Int} (h0 : 1 ≤ c) (h1 : c ≤ 9) : daysL ⟨f, ev, c, 0, ds, da, mo, pl, wk⟩ s t = (daysL ⟨f, ev, 0, 0, ds, da, mo, pl, wk⟩ s t).take c.toNat := by
  have hm : mayB ⟨f, ev, c, 0, ds, da, mo, pl, wk⟩ s t = mayB ⟨f, ev, 0, 0, ds, da, mo, pl, wk⟩ s t := may_re (of_ct h0 h1)
  cases hv : mayB ⟨f, ev, 0, 0, ds, da, mo, pl, wk⟩ s t with
  | false => rw [days_no hv, days_no (hm.trans hv)]; simp
  | true =>
    rw [days_eq hv, days_eq (hm.trans hv), comes_re f ev c 0 0 0]
    have e1 : (mostT ⟨f, ev, c, 0, ds, da, mo, pl, wk⟩ 200) = c := by unfold mostT; rw [if_pos]; exact ⟨by show 0 < c; omega, by show c < 200; omega⟩
    have e2 : (mostT ⟨f, ev, 0, 0, ds, da, mo, pl, wk⟩ 200) = 200 := by unfold mostT; rw [if_neg]; rintro ⟨h, _⟩; exact absurd h (by show ¬ (0 : Int) < 0; omega)
    have e3 : limT ⟨f, ev, c, 0, ds, da, mo, pl, wk⟩ t = limT ⟨f, ev, 0, 0, ds, da, mo, pl, wk⟩ t := rfl
    rw [e1, e2, e3, List.take_take]
    congr 1
    omega
end Go.Proofs.YtlfglhpepoepcaaDoor
namespace Go.Proofs.YtlfglhpepoepcaaDoor
open Go.RowKit
set_option linter.unusedVariables false
theorem until_law {f ev ct un : Int} {ds : List (Int × Int)} {da mo pl : List Int} {wk s t d : Int} (h : mayB ⟨f, ev, ct, un, ds, da, mo, pl, wk⟩ s t = true) (h0 : 1 ≤ d) (h1 : d ≤ t) : daysL ⟨f, ev, 0, d, ds, da, mo, pl, wk⟩ s t = daysL ⟨f, ev, 0, 0, ds, da, mo, pl, wk⟩ s d := by
  obtain ⟨hru, ⟨s0, s1⟩, ⟨t0, t1⟩, ht⟩ := may_ok h
  have hof : ofB f ev ct un wk = true := by unfold ruOf ruB at hru; simp only [Bool.and_eq_true] at hru; exact hru.1
  obtain ⟨a0, a1, _, _, _, a5⟩ := (of_iff _ _ _ _ _).1 hof
  have e1 : ofB f ev 0 d wk = true := (of_iff _ _ _ _ _).2 ⟨a0, a1, ⟨by omega, by omega⟩, ⟨by omega, by omega⟩, .inl rfl, a5⟩
  have e2 : ofB f ev 0 0 wk = true := (of_iff _ _ _ _ _).2 ⟨a0, a1, ⟨by omega, by omega⟩, ⟨by omega, by omega⟩, .inl rfl, a5⟩
  have m1 : mayB ⟨f, ev, 0, d, ds, da, mo, pl, wk⟩ s t = true := (may_re (by rw [e1, hof])).trans h
  have m2 : mayB ⟨f, ev, 0, 0, ds, da, mo, pl, wk⟩ s t = true := (may_re (by rw [e2, hof])).trans h
  have m3 : mayB ⟨f, ev, 0, 0, ds, da, mo, pl, wk⟩ s d = true := by
    unfold mayB
    rw [(may_ok m2).1, (in_iff _ _ _).2 ⟨s0, s1⟩, (in_iff d 0 3652058).2 ⟨by omega, by omega⟩]
    simp; omega
  rw [days_eq m1, days_eq m3, comes_re f ev 0 d 0 0]
  have q1 : limT ⟨f, ev, 0, d, ds, da, mo, pl, wk⟩ t = d := by
    unfold limT
    by_cases hd : d < t
    · rw [if_pos]; exact ⟨by show 0 < d; omega, hd⟩
    · rw [if_neg]; · omega
      · rintro ⟨_, q⟩; exact hd q
  have q2 : limT ⟨f, ev, 0, 0, ds, da, mo, pl, wk⟩ d = d := by
    unfold limT
    rw [if_neg]; rintro ⟨q, _⟩; exact absurd q (by show ¬ (0 : Int) < 0; omega)
  rw [q1, q2]
  rfl
set_option maxHeartbeats 4000000 in
theorem lawEpAsked (r : Rl) (m : Rm) (s d : Int) (w : World) (hr : RAny w r m) :
    Calls Tryd.prog 32 #[.agg #[.int .i64 r.f, .int .i64 r.ev, .int .i64 r.ct, .int .i64 r.un, .slice m.a0 r.ds.length m.c0, .slice m.a1 r.da.length m.c1, .slice m.a2 r.mo.length m.c2, .slice m.a3 r.pl.length m.c3, .int .i64 r.wk], .int .i64 s, .int .i64 d] w fun e w' => e = .returned (.bool (mayB r s d)) ∧ Below w.heap.size w w' := by
  obtain ⟨W0, hW0⟩ : ∃ W0, W0 = w.alloc (.cells #[.int .i64 r.f, .int .i64 r.ev, .int .i64 r.ct, .int .i64 r.un, .slice m.a0 r.ds.length m.c0, .slice m.a1 r.da.length m.c1, .slice m.a2 r.mo.length m.c2, .slice m.a3 r.pl.length m.c3, .int .i64 r.wk] 26) := ⟨_, rfl⟩
  have hb0 : Below w.heap.size w W0 := by rw [hW0]; exact (Below.refl _ w).alloc (Nat.le_refl _) _
  have HW0 : Hid (W0 = w.alloc (.cells #[.int .i64 r.f, .int .i64 r.ev, .int .i64 r.ct, .int .i64 r.un, .slice m.a0 r.ds.length m.c0, .slice m.a1 r.da.length m.c1, .slice m.a2 r.mo.length m.c2, .slice m.a3 r.pl.length m.c3, .int .i64 r.wk] 26)) := hW0
  have HB0 : Hid (Below w.heap.size w W0) := hb0
  have hr0 := hr.on hb0
  have HOK : Hid (Calls Tryd.prog 54 #[.agg #[.int .i64 r.f, .int .i64 r.ev, .int .i64 r.ct, .int .i64 r.un, .slice m.a0 r.ds.length m.c0, .slice m.a1 r.da.length m.c1, .slice m.a2 r.mo.length m.c2, .slice m.a3 r.pl.length m.c3, .int .i64 r.wk]] W0 fun z w' => z = .returned (.bool (ruOf r)) ∧ Below W0.heap.size W0 w') := implRuleOk _ _ _ _ _ _ _ _ _ _ _ _ _ _ _ _ _ W0 hr0.mem.t hr0.mem.d hr0.mem.o hr0.mem.p hr0.l0 hr0.l1 hr0.l2 hr0.l3
  clear hW0 hb0 hr0 hr
  cases h1 : ruOf r with
  | false =>
    rw [h1] at HOK
    have HV : Hid (mayB r s d = false) := by unfold Hid mayB; rw [h1]; rfl
    go_enter Tryd.func32, Tryd.ntmps32
    go_wp2_with fail
    rw [← HW0.out]
    refine HOK.out.mono ?_
    rintro e w1 ⟨rfl, b1⟩
    have HB1 : Hid (Below w.heap.size w w1) := bstep HB0.out b1
    clear b1
    go_wp2
    go_ret
    exact ⟨ret_b HV.out.symm, HB1.out⟩
  | true =>
    rw [h1] at HOK
    have HR : Hid (ruOf r = true) := h1
    clear h1
    by_cases s0 : s < 0
    · have hq : inB s 0 3652058 = false := (in_not _ _ _).2 (by omega)
      have HV : Hid (mayB r s d = false) := by unfold Hid mayB; rw [HR.out, hq]; rfl
      go_enter Tryd.func32, Tryd.ntmps32
      go_wp2_with fail
      rw [← HW0.out]
      refine HOK.out.mono ?_
      rintro e w1 ⟨rfl, b1⟩
      have HB1 : Hid (Below w.heap.size w w1) := bstep HB0.out b1
      clear b1
      go_wp2
      go_ret
      exact ⟨ret_b HV.out.symm, HB1.out⟩
    by_cases s1 : s > 3652058
    · have hq : inB s 0 3652058 = false := (in_not _ _ _).2 (by omega)
      have s0' : s ≥ 0 := by omega
      have HV : Hid (mayB r s d = false) := by unfold Hid mayB; rw [HR.out, hq]; rfl
      go_enter Tryd.func32, Tryd.ntmps32
      go_wp2_with fail
      rw [← HW0.out]
      refine HOK.out.mono ?_
      rintro e w1 ⟨rfl, b1⟩
      have HB1 : Hid (Below w.heap.size w w1) := bstep HB0.out b1
      clear b1
      go_wp2
      go_ret
      exact ⟨ret_b HV.out.symm, HB1.out⟩
    have hs : inB s 0 3652058 = true := (in_iff _ _ _).2 ⟨by omega, by omega⟩
    have s0' : s ≥ 0 := by omega
    have s1' : s ≤ 3652058 := by omega
    by_cases d0 : d < 0
    · have hq : inB d 0 3652058 = false := (in_not _ _ _).2 (by omega)
      have HV : Hid (mayB r s d = false) := by unfold Hid mayB; rw [HR.out, hs, hq]; rfl
      go_enter Tryd.func32, Tryd.ntmps32
      go_wp2_with fail
      rw [← HW0.out]
      refine HOK.out.mono ?_
      rintro e w1 ⟨rfl, b1⟩
      have HB1 : Hid (Below w.heap.size w w1) := bstep HB0.out b1
      clear b1
      go_wp2
      go_ret
      exact ⟨ret_b HV.out.symm, HB1.out⟩
    by_cases d1 : d > 3652058
    · have hq : inB d 0 3652058 = false := (in_not _ _ _).2 (by omega)
      have d0' : d ≥ 0 := by omega
      have HV : Hid (mayB r s d = false) := by unfold Hid mayB; rw [HR.out, hs, hq]; rfl
      go_enter Tryd.func32, Tryd.ntmps32
      go_wp2_with fail
      rw [← HW0.out]
      refine HOK.out.mono ?_
      rintro e w1 ⟨rfl, b1⟩
      have HB1 : Hid (Below w.heap.size w w1) := bstep HB0.out b1
      clear b1
      go_wp2
      go_ret
      exact ⟨ret_b HV.out.symm, HB1.out⟩
    have hd : inB d 0 3652058 = true := (in_iff _ _ _).2 ⟨by omega, by omega⟩
    have d0' : d ≥ 0 := by omega
    have d1' : d ≤ 3652058 := by omega
    have g1 := IntWalk.i64_in (d - s) (by omega)
    have HV : Hid (mayB r s d = decide (d - s ≤ 11000)) := by unfold Hid mayB; rw [HR.out, hs, hd]; rfl
    go_enter Tryd.func32, Tryd.ntmps32
    go_wp2_with fail
    rw [← HW0.out]
    refine HOK.out.mono ?_
    rintro e w1 ⟨rfl, b1⟩
    have HB1 : Hid (Below w.heap.size w w1) := bstep HB0.out b1
    clear b1
    go_wp2
    go_ret
    exact ⟨ret_b HV.out.symm, HB1.out⟩
end Go.Proofs.YtlfglhpepoepcaaDoor
namespace Go.Proofs.YtlfglhpepoepcaaDoor
open Go.RowKit
set_option linter.unusedVariables false
theorem ru_nopl {f ev ct un : Int} {ds : List (Int × Int)} {da mo pl : List Int} {wk : Int} (h : ruOf ⟨f, ev, ct, un, ds, da, mo, pl, wk⟩ = true) : ruOf ⟨f, ev, ct, un, ds, da, mo, [], wk⟩ = true := by
  unfold ruOf ruB liB at h ⊢
  simp only [Bool.and_eq_true, decide_eq_true_eq] at h ⊢
  obtain ⟨h1, h2, h3, h4, h5, h6, h7⟩ := h
  refine ⟨h1, h2, h3, ?_, h5, h6, ?_⟩
  · rintro ⟨q, _⟩; simp at q
  · rfl
theorem places_law {f ev ct un : Int} {ds : List (Int × Int)} {da mo pl : List Int} {wk s t d : Int} (h : d ∈ daysL ⟨f, ev, ct, un, ds, da, mo, pl, wk⟩ s t) (hc : ¬ 0 < ct) : onB ⟨f, ev, ct, un, ds, da, mo, [], wk⟩ s d = true := by
  obtain ⟨hm, hx⟩ := days_mem h
  have bd := days_bd h
  obtain ⟨hru, ⟨s0, s1⟩, ⟨t0, t1⟩, ht⟩ := may_ok hm
  have hX := ru_nopl hru
  have hm' : mayB ⟨f, ev, ct, un, ds, da, mo, [], wk⟩ s d = true := by
    unfold mayB
    rw [hX, (in_iff _ _ _).2 ⟨s0, s1⟩, (in_iff d 0 3652058).2 ⟨by omega, by omega⟩]
    simp; omega
  refine on_iff.2 ⟨hm', ?_⟩
  have e1 : mostT ⟨f, ev, ct, un, ds, da, mo, [], wk⟩ 20000 = 20000 := by unfold mostT; rw [if_neg]; rintro ⟨q, _⟩; exact hc q
  have e2 : limT ⟨f, ev, ct, un, ds, da, mo, [], wk⟩ d = d := by
    unfold limT
    rw [if_neg]
    rintro ⟨q1, q2⟩
    have := bd.2.2.1 q1
    exact absurd q2 (by show ¬ un < d; have : d ≤ un := this; omega)
  have hr := (ru_ok hX).1
  have ql : (comes ⟨f, ev, ct, un, ds, da, mo, [], wk⟩ s d).length ≤ (d + 1 - s).toNat := comes_len hr s0 s1
  rw [e1, e2, List.take_of_length_le (by omega)]
  refine (comes_iff hr s0 s1).2 ⟨?_, Int.le_refl _⟩
  obtain ⟨⟨a, k, hk⟩, _⟩ := (comes_iff (ru_ok hru).1 s0 s1).1 hx
  refine ⟨a, k, ?_⟩
  unfold chJ choice at hk ⊢
  rw [if_pos (show ([] : List Int).length = 0 from rfl)]
  split at hk
  · exact hk
  · exact plL_mem (Nat.le_refl _) hk
theorem implRuleOn_yes (r : Rl) (m : Rm) (s d : Int) (w : World) (hr : RAny w r m) (h : onB r s d = true) :
    Calls Tryd.prog 22 #[.agg #[.int .i64 r.f, .int .i64 r.ev, .int .i64 r.ct, .int .i64 r.un, .slice m.a0 r.ds.length m.c0, .slice m.a1 r.da.length m.c1, .slice m.a2 r.mo.length m.c2, .slice m.a3 r.pl.length m.c3, .int .i64 r.wk], .int .i64 s, .int .i64 d] w fun e w' => e = .returned (.bool true) ∧ Below w.heap.size w w' := by
  have := implRuleOn r m s d w hr
  rw [h] at this
  exact this
/-- A rule without its places, copied into a block of its own. -/
theorem RQ.nopl {w W : World} {X : Nat} {f ev ct un : Int} {ds : List (Int × Int)} {da mo pl : List Int} {wk : Int} {m : Rm} (h : RQ w X ⟨f, ev, ct, un, ds, da, mo, pl, wk⟩ m W) :
    RQ w W.heap.size ⟨f, ev, ct, un, ds, da, mo, [], wk⟩ ⟨m.a0, m.c0, m.a1, m.c1, m.a2, m.c2, none, 0⟩ (W.alloc (.cells #[.int .i64 f, .int .i64 ev, .int .i64 ct, .int .i64 un, .slice m.a0 ds.length m.c0, .slice m.a1 da.length m.c1, .slice m.a2 mo.length m.c2, .slice none 0 0, .int .i64 wk] 26)) := by
  have a := h.any
  obtain ⟨t, i1, i2, i3⟩ := a.mem
  have bA : Below W.heap.size W (W.alloc (.cells #[.int .i64 f, .int .i64 ev, .int .i64 ct, .int .i64 un, .slice m.a0 ds.length m.c0, .slice m.a1 da.length m.c1, .slice m.a2 mo.length m.c2, .slice none 0 0, .int .i64 wk] 26)) := (Below.refl _ _).alloc (Nat.le_refl _) _
  exact ⟨CF.new _ _ _, ⟨W, rfl, ⟨a.l0, a.l1, a.l2, Nat.zero_le _, ⟨t, i1, i2, .inl rfl⟩, a.tab⟩, bA⟩, bstep h.bel bA, h.bel.size⟩
end Go.Proofs.YtlfglhpepoepcaaDoor
namespace Go.Proofs.YtlfglhpepoepcaaDoor
open Go.RowKit
set_option linter.unusedVariables false
/-- Numbers in even steps, up to one. -/
def steps (s c te : Int) : List Int := (List.range ((te - s) / c + 1).toNat).map fun i : Nat => s + (i : Int) * c
theorem steps_mem {s c te x : Int} (hc : 0 < c) : x ∈ steps s c te ↔ ∃ k : Nat, x = s + (k : Int) * c ∧ x ≤ te := by
  unfold steps
  rw [List.mem_map]
  constructor
  · rintro ⟨i, hi, rfl⟩
    have hi := List.mem_range.1 hi
    have h2 : (i : Int) ≤ (te - s) / c := by omega
    have h3 := (Int.le_ediv_iff_mul_le hc).1 h2
    exact ⟨i, rfl, by omega⟩
  · rintro ⟨k, rfl, h⟩
    have h3 : (k : Int) ≤ (te - s) / c := (Int.le_ediv_iff_mul_le hc).2 (by omega)
    exact ⟨k, List.mem_range.2 (by omega), rfl⟩
theorem steps_asc {s c te : Int} (hc : 0 < c) : (steps s c te).Pairwise (· < ·) := by
  unfold steps
  rw [List.pairwise_map]
  refine List.Pairwise.imp ?_ List.pairwise_lt_range
  intro a b h
  have : (a : Int) * c < (b : Int) * c := Int.mul_lt_mul_of_pos_right (by omega) hc
  omega
/-- A rule without lists that comes every so many of its periods. -/
def plainR (f ev : Int) : Rl := ⟨f, ev, 0, 0, [], [], [], [], 0⟩
theorem fit_mem {r : Rl} {s a b x : Int} : x ∈ fitL r s a b ↔ (a ≤ x ∧ x < b) ∧ (0 ≤ x ∧ x ≤ 3652058) ∧ fitB r s x = true := by
  unfold fitL
  rw [List.mem_filter, ira_mem]
  simp only [Bool.and_eq_true, decide_eq_true_eq]
theorem plain_day {ev s x : Int} (h0 : 0 ≤ s) (hx : x ≤ 3652058) (he : 1 ≤ ev) : dayP (plainR 1 ev) s x ↔ ∃ k : Nat, x = s + (k : Int) * ev := by
  unfold dayP
  constructor
  · rintro ⟨hs, k, hk⟩
    refine ⟨k, ?_⟩
    unfold chJ choice at hk
    rw [if_pos (show (plainR 1 ev).pl.length = 0 from rfl)] at hk
    have h := (fit_mem.1 hk).1
    have e1 : spanF (plainR 1 ev) s ((k : Int) * (plainR 1 ev).ev) = s + (k : Int) * ev := rfl
    have e2 : spanL (plainR 1 ev) s ((k : Int) * (plainR 1 ev).ev) = s + (k : Int) * ev := rfl
    rw [e1, e2] at h
    omega
  · rintro ⟨k, rfl⟩
    have hk : 0 ≤ (k : Int) * ev := Int.mul_nonneg (by omega) (by omega)
    refine ⟨by omega, k, ?_⟩
    unfold chJ choice
    rw [if_pos (show (plainR 1 ev).pl.length = 0 from rfl)]
    have e1 : spanF (plainR 1 ev) s ((k : Int) * (plainR 1 ev).ev) = s + (k : Int) * ev := rfl
    have e2 : spanL (plainR 1 ev) s ((k : Int) * (plainR 1 ev).ev) = s + (k : Int) * ev := rfl
    rw [e1, e2]
    exact fit_mem.2 ⟨⟨by omega, by omega⟩, ⟨by omega, hx⟩, rfl⟩
theorem plain_week {ev s x : Int} (h0 : 0 ≤ s) (hx : x ≤ 3652058) (he : 1 ≤ ev) : dayP (plainR 2 ev) s x ↔ ∃ k : Nat, x = s + (k : Int) * (7 * ev) := by
  have f1 : ∀ k : Nat, spanF (plainR 2 ev) s ((k : Int) * (plainR 2 ev).ev) = s - (s % 7 - 0 + 7) % 7 + 7 * ((k : Int) * ev) := fun _ => rfl
  have f2 : ∀ k : Nat, spanL (plainR 2 ev) s ((k : Int) * (plainR 2 ev).ev) = s - (s % 7 - 0 + 7) % 7 + 7 * ((k : Int) * ev) + 6 := fun _ => rfl
  have f3 : ∀ y : Int, fitB (plainR 2 ev) s y = decide (y % 7 = s % 7) := fun y => by
    unfold fitB ownB
    rw [if_pos (show (plainR 2 ev).f = 2 from rfl)]
    simp [plainR]
  have f4 : ∀ k : Nat, (k : Int) * (7 * ev) = 7 * ((k : Int) * ev) := fun k => by rw [Int.mul_left_comm]
  unfold dayP
  constructor
  · rintro ⟨hs, k, hk⟩
    refine ⟨k, ?_⟩
    unfold chJ choice at hk
    rw [if_pos (show (plainR 2 ev).pl.length = 0 from rfl)] at hk
    obtain ⟨h, _, h7⟩ := fit_mem.1 hk
    rw [f1, f2] at h
    rw [f3, decide_eq_true_eq] at h7
    rw [f4]
    omega
  · rintro ⟨k, rfl⟩
    have hk : 0 ≤ (k : Int) * ev := Int.mul_nonneg (by omega) (by omega)
    rw [f4] at hx ⊢
    refine ⟨by omega, k, ?_⟩
    unfold chJ choice
    rw [if_pos (show (plainR 2 ev).pl.length = 0 from rfl), f1, f2]
    refine fit_mem.2 ⟨⟨by omega, by omega⟩, ⟨by omega, hx⟩, ?_⟩
    rw [f3, decide_eq_true_eq]
    omega
theorem plain_comes {f ev c s t : Int} (hr : ROk (plainR f ev)) (h0 : 0 ≤ s) (h1 : s ≤ 3652058) (ht : t ≤ 3652058) (hc : 0 < c) (hd : ∀ x, x ≤ 3652058 → (dayP (plainR f ev) s x ↔ ∃ k : Nat, x = s + (k : Int) * c)) : comes (plainR f ev) s t = steps s c t := by
  refine asc_ext (comes_asc hr h0 h1) (steps_asc hc) fun x => ?_
  rw [comes_iff hr h0 h1, steps_mem hc]
  constructor
  · rintro ⟨a, b⟩
    obtain ⟨k, hk⟩ := (hd x (by omega)).1 a
    exact ⟨k, hk, b⟩
  · rintro ⟨k, hk, b⟩
    exact ⟨(hd x (by omega)).2 ⟨k, hk⟩, b⟩
theorem steps_gi {s c te : Int} {n i : Nat} (h : i < ((steps s c te).take n).length) : gi ((steps s c te).take n) i = s + (i : Int) * c := by
  rw [gi_get h, List.getElem_take]
  unfold steps
  rw [List.getElem_map, List.getElem_range]
theorem every_law {f ev c s t : Int} (he : 1 ≤ ev) (hf : f = 1 ∧ c = ev ∨ f = 2 ∧ c = 7 * ev) {i : Nat} (h : i < (daysL (plainR f ev) s t).length) : gi (daysL (plainR f ev) s t) i = s + (i : Int) * c := by
  cases hm : mayB (plainR f ev) s t with
  | false => rw [days_no hm] at h; simp at h
  | true =>
    obtain ⟨hru, ⟨s0, s1⟩, ⟨t0, t1⟩, _⟩ := may_ok hm
    have hr := (ru_ok hru).1
    have e2 : limT (plainR f ev) t = t := by
      unfold limT
      rw [if_neg]; rintro ⟨q, _⟩; exact absurd q (by show ¬ (0 : Int) < 0; omega)
    have e3 : comes (plainR f ev) s t = steps s c t := by
      rcases hf with ⟨rfl, rfl⟩ | ⟨rfl, rfl⟩
      · exact plain_comes hr s0 s1 t1 (by omega) fun x hx => plain_day s0 hx he
      · exact plain_comes hr s0 s1 t1 (by omega) fun x hx => plain_week s0 hx he
    rw [days_eq hm, e2, e3] at h ⊢
    exact steps_gi h
end Go.Proofs.YtlfglhpepoepcaaDoor
namespace Go.Proofs.YtlfglhpepoepcaaDoor
open Go.RowKit
set_option linter.unusedVariables false
/-- The day behind a month's last is the first of one. -/
theorem next_first {x : Int} (h0 : 0 ≤ x) (h1 : x < 3652058) (h : dOf x = dim (yOf x) (mOf x)) : dOf (x + 1) = 1 := by
  obtain ⟨ok, e⟩ := date_ex h0 (by omega)
  obtain ⟨a0, a1, a2, a3, a4, a5⟩ := (okD_iff _ _ _).1 ok
  have hs := mfirst_succ (yOf x) (mOf x) a2 a3 a0
  have e2 : num (yOf x) (mOf x) 1 + dim (yOf x) (mOf x) = x + 1 := by unfold num at e ⊢; omega
  rw [e2] at hs
  have dm := fun y m => dim_bd y m
  by_cases h12 : mOf x = 12
  · rw [if_pos h12] at hs
    have hy : yOf x + 1 ≤ 9999 := by
      by_cases hy : yOf x + 1 ≤ 9999
      · exact hy
      · have h9 : yOf x + 1 = 10000 := by omega
        rw [h9] at hs
        have : num 10000 1 1 = fst 10000 := by unfold num; rw [cum_one]; omega
        rw [this, fst_max] at hs
        omega
    exact (date_is ((okD_iff _ _ _).2 ⟨by omega, hy, by omega, by omega, by omega, by have := (dm (yOf x + 1) 1).1; omega⟩) hs).2.2
  · rw [if_neg h12] at hs
    exact (date_is ((okD_iff _ _ _).2 ⟨a0, a1, by omega, by omega, by omega, by have := (dm (yOf x) (mOf x + 1)).1; omega⟩) hs).2.2
/-- Every month on its last day; and: of all days of every month the last. -/
def lastR : Rl := ⟨3, 1, 0, 0, [], [-1], [], [], 0⟩
def lastW : Rl := ⟨3, 1, 0, 0, [(0, 0), (0, 1), (0, 2), (0, 3), (0, 4), (0, 5), (0, 6)], [], [], [-1], 0⟩
theorem lastR_ok : ruOf lastR = true := by decide
theorem lastW_ok : ruOf lastW = true := by decide
theorem lastR_day {s t x : Int} (h : x ∈ daysL lastR s t) : dOf x = dim (yOf x) (mOf x) := by
  obtain ⟨hm, hx⟩ := days_mem h
  have bd := days_bd h
  obtain ⟨hru, ⟨s0, s1⟩, _⟩ := may_ok hm
  obtain ⟨⟨a, k, hk⟩, _⟩ := (comes_iff (ru_ok hru).1 s0 s1).1 hx
  have hf := (fit_parts (fit_of_ch hk)).2.1
  have db := date_bd bd.2.2.2.1 bd.2.2.2.2
  rcases hf with hf | hf | hf
  · exact absurd hf (by show ¬ (1 : Nat) = 0; omega)
  · have : dOf x = -1 := by simpa [lastR] using hf
    omega
  · have : dOf x - dim (yOf x) (mOf x) - 1 = -1 := by simpa [lastR] using hf
    omega
theorem lastB_mem {l : List Int} {x : Int} (ha : l.Pairwise (· < ·)) : x ∈ plL [-1] l l.length ↔ x ∈ l ∧ ∀ y ∈ l, y ≤ x := by
  unfold plL plB hasI
  rw [List.mem_map]
  constructor
  · rintro ⟨i, hi, rfl⟩
    obtain ⟨h1, h2⟩ := List.mem_filter.1 hi
    have h1 := List.mem_range.1 h1
    have h3 : i = l.length - 1 := by
      simp only [Bool.or_eq_true, decide_eq_true_eq, List.mem_singleton] at h2
      omega
    have e : l.getD i 0 = l[i] := by simp [h1]
    rw [e]
    refine ⟨List.getElem_mem h1, fun y hy => ?_⟩
    obtain ⟨j, hj, rfl⟩ := List.getElem_of_mem hy
    rcases Nat.lt_or_ge j i with hlt | hge
    · exact Int.le_of_lt (List.pairwise_iff_getElem.1 ha j i hj h1 hlt)
    · have : j = i := by omega
      subst this; exact Int.le_refl _
  · rintro ⟨hx, hm⟩
    obtain ⟨i, hi, rfl⟩ := List.getElem_of_mem hx
    have h3 : i = l.length - 1 := by
      rcases Nat.lt_or_ge i (l.length - 1) with hlt | hge
      · have h4 := List.pairwise_iff_getElem.1 ha i (l.length - 1) hi (by omega) hlt
        have h5 := hm _ (List.getElem_mem (show l.length - 1 < l.length by omega))
        omega
      · omega
    refine ⟨i, List.mem_filter.2 ⟨List.mem_range.2 hi, ?_⟩, by simp [hi]⟩
    simp only [Bool.or_eq_true, decide_eq_true_eq, List.mem_singleton]
    right; omega
theorem week_all (x past left : Int) : lastW.ds.any (byB x past left) = true := by
  have h : x % 7 = 0 ∨ x % 7 = 1 ∨ x % 7 = 2 ∨ x % 7 = 3 ∨ x % 7 = 4 ∨ x % 7 = 5 ∨ x % 7 = 6 := by omega
  unfold lastW byB
  rcases h with h | h | h | h | h | h | h <;> simp [h]
theorem lastW_fit (s x : Int) : fitB lastW s x = true := by
  unfold fitB dfB
  rw [week_all]
  simp [lastW]
theorem lastR_fit (s x : Int) (h : 1 ≤ dOf x) : fitB lastR s x = decide (dOf x = dim (yOf x) (mOf x)) := by
  unfold fitB dtB hasI
  rw [Bool.eq_iff_iff]
  simp [lastR]
  omega
theorem last_ch {s x : Int} (h0 : 0 ≤ s) (h1 : s ≤ 3652058) (k : Nat) : x ∈ chJ lastR s k ↔ x ∈ chJ lastW s k := by
  have hd := date_bd h0 h1
  obtain ⟨Y, hY⟩ : ∃ Y, Y = yOf s + (mOf s - 1 + (k : Int) * 1) / 12 := ⟨_, rfl⟩
  obtain ⟨M, hM⟩ : ∃ M, M = (mOf s - 1 + (k : Int) * 1) % 12 + 1 := ⟨_, rfl⟩
  have y1 : 1 ≤ Y := by omega
  have m1 : 1 ≤ M := by omega
  have m2 : M ≤ 12 := by omega
  have dm := dim_bd Y M
  have cb := cum_bd Y M m1 (by omega)
  have F1 : spanF lastR s ((k : Int) * lastR.ev) = num Y M 1 := by subst hY hM; rfl
  have L1 : spanL lastR s ((k : Int) * lastR.ev) = num Y M 1 + dim Y M - 1 := by subst hY hM; rfl
  have F2 : spanF lastW s ((k : Int) * lastW.ev) = num Y M 1 := by subst hY hM; rfl
  have L2 : spanL lastW s ((k : Int) * lastW.ev) = num Y M 1 + dim Y M - 1 := by subst hY hM; rfl
  have key : ∀ z, num Y M 1 ≤ z → z < num Y M 1 + dim Y M → z ≤ 3652058 → Y ≤ 9999 ∧ yOf z = Y ∧ mOf z = M ∧ dOf z = z - num Y M 1 + 1 := by
    intro z hz0 hz1 hz2
    have y9 : Y ≤ 9999 := by
      by_cases hy : Y ≤ 9999
      · exact hy
      · have := fst_mono 10000 Y (by omega) (by omega)
        have := fst_max
        unfold num at hz0; omega
    have hn : num Y M (z - num Y M 1 + 1) = z := by unfold num; omega
    exact ⟨y9, date_is ((okD_iff _ _ _).2 ⟨y1, y9, m1, m2, by omega, by omega⟩) hn⟩
  have top : num Y M 1 ≤ 3652058 → 0 ≤ num Y M 1 ∧ num Y M 1 + dim Y M - 1 ≤ 3652058 := by
    intro h
    have y9 := (key (num Y M 1) (by omega) (by omega) h).1
    have q := num_year ((okD_iff Y M (dim Y M)).2 ⟨y1, y9, m1, m2, by omega, by omega⟩)
    have := fst_mono (Y + 1) 10000 (by omega) (by omega)
    have := fst_max
    have := fst_bd Y y1 (by omega)
    unfold num at q ⊢
    omega
  unfold chJ choice
  rw [if_pos (show lastR.pl.length = 0 from rfl), if_neg (show ¬ lastW.pl.length = 0 from by decide), F1, L1, F2, L2]
  rw [show lastW.pl = [-1] from rfl, lastB_mem (fitL_asc _ _ _ _), fit_mem, fit_mem, lastW_fit]
  constructor
  · rintro ⟨⟨a, b⟩, ⟨c, d⟩, e⟩
    obtain ⟨_, ky, km, kd⟩ := key x a (by omega) d
    rw [lastR_fit s x (by omega), decide_eq_true_eq, ky, km] at e
    refine ⟨⟨⟨a, b⟩, ⟨c, d⟩, rfl⟩, fun y hy => ?_⟩
    have := (fit_mem.1 hy).1
    omega
  · rintro ⟨⟨⟨a, b⟩, ⟨c, d⟩, _⟩, e⟩
    have tp := top (by omega)
    have hL := e (num Y M 1 + dim Y M - 1) (fit_mem.2 ⟨⟨by omega, by omega⟩, ⟨by omega, by omega⟩, lastW_fit _ _⟩)
    obtain ⟨_, ky, km, kd⟩ := key x a (by omega) d
    refine ⟨⟨a, b⟩, ⟨c, d⟩, ?_⟩
    rw [lastR_fit s x (by omega), decide_eq_true_eq, ky, km]
    omega
theorem last_law (s t : Int) : daysL lastR s t = daysL lastW s t := by
  have hmm : mayB lastR s t = mayB lastW s t := by unfold mayB; rw [lastR_ok, lastW_ok]
  cases hm : mayB lastR s t with
  | false => rw [days_no hm, days_no (hmm.symm.trans hm)]
  | true =>
    have hm' := hmm.symm.trans hm
    obtain ⟨hru, ⟨s0, s1⟩, _⟩ := may_ok hm
    have hr := (ru_ok hru).1
    have hr' := (ru_ok lastW_ok).1
    rw [days_eq hm, days_eq hm']
    have el : limT lastR t = limT lastW t := rfl
    have em : mostT lastR 200 = mostT lastW 200 := rfl
    rw [el, em]
    congr 1
    refine asc_ext (comes_asc hr s0 s1) (comes_asc hr' s0 s1) fun x => ?_
    rw [comes_iff hr s0 s1, comes_iff hr' s0 s1]
    unfold dayP
    constructor
    · rintro ⟨⟨a, k, hk⟩, b⟩; exact ⟨⟨a, k, (last_ch s0 s1 k).1 hk⟩, b⟩
    · rintro ⟨⟨a, k, hk⟩, b⟩; exact ⟨⟨a, k, (last_ch s0 s1 k).2 hk⟩, b⟩
end Go.Proofs.YtlfglhpepoepcaaDoor
namespace Go.Proofs.YtlfglhpepoepcaaDoor
open Go.RowKit
set_option linter.unusedVariables false
theorem of_wk {f ev ct un wk wk' : Int} (h0 : 0 ≤ wk) (h1 : wk ≤ 6) (h0' : 0 ≤ wk') (h1' : wk' ≤ 6) : ofB f ev ct un wk = ofB f ev ct un wk' := by
  rw [Bool.eq_iff_iff, of_iff, of_iff]
  constructor
  · rintro h; omega
  · rintro h; omega
/-- Every week, whole weeks: on which days, wherever the week begins. -/
theorem week_day {ct un : Int} {ds : List (Int × Int)} {da mo : List Int} {wk s x : Int} (h0 : 0 ≤ wk) (h1 : wk ≤ 6) (x0 : 0 ≤ x) (x1 : x ≤ 3652058) : dayP ⟨2, 1, ct, un, ds, da, mo, [], wk⟩ s x ↔ s ≤ x ∧ fitB ⟨2, 1, ct, un, ds, da, mo, [], wk⟩ s x = true := by
  have f1 : ∀ k : Nat, spanF ⟨2, 1, ct, un, ds, da, mo, [], wk⟩ s ((k : Int) * 1) = s - (s % 7 - wk + 7) % 7 + 7 * ((k : Int) * 1) := fun _ => rfl
  have f2 : ∀ k : Nat, spanL ⟨2, 1, ct, un, ds, da, mo, [], wk⟩ s ((k : Int) * 1) = s - (s % 7 - wk + 7) % 7 + 7 * ((k : Int) * 1) + 6 := fun _ => rfl
  unfold dayP
  constructor
  · rintro ⟨a, k, hk⟩
    exact ⟨a, fit_of_ch hk⟩
  · rintro ⟨a, hf⟩
    refine ⟨a, ((x - (s - (s % 7 - wk + 7) % 7)) / 7).toNat, ?_⟩
    unfold chJ choice
    rw [if_pos (show ([] : List Int).length = 0 from rfl), f1, f2]
    exact fit_mem.2 ⟨⟨by omega, by omega⟩, ⟨x0, x1⟩, hf⟩
theorem week_law {ct un : Int} {ds : List (Int × Int)} {da mo : List Int} {wk wk' s t : Int} (h0 : 0 ≤ wk) (h1 : wk ≤ 6) (h0' : 0 ≤ wk') (h1' : wk' ≤ 6) : daysL ⟨2, 1, ct, un, ds, da, mo, [], wk⟩ s t = daysL ⟨2, 1, ct, un, ds, da, mo, [], wk'⟩ s t := by
  have hmm : mayB ⟨2, 1, ct, un, ds, da, mo, [], wk⟩ s t = mayB ⟨2, 1, ct, un, ds, da, mo, [], wk'⟩ s t := by
    unfold mayB ruOf ruB
    simp only
    rw [of_wk h0 h1 h0' h1']
  cases hm : mayB ⟨2, 1, ct, un, ds, da, mo, [], wk⟩ s t with
  | false => rw [days_no hm, days_no (hmm.symm.trans hm)]
  | true =>
    have hm' := hmm.symm.trans hm
    obtain ⟨hru, ⟨s0, s1⟩, ⟨t0, t1⟩, _⟩ := may_ok hm
    have hr := (ru_ok hru).1
    have hr' := (ru_ok (may_ok hm').1).1
    rw [days_eq hm, days_eq hm']
    have el : limT ⟨2, 1, ct, un, ds, da, mo, [], wk⟩ t = limT ⟨2, 1, ct, un, ds, da, mo, [], wk'⟩ t := rfl
    have em : mostT ⟨2, 1, ct, un, ds, da, mo, [], wk⟩ 200 = mostT ⟨2, 1, ct, un, ds, da, mo, [], wk'⟩ 200 := rfl
    have ll := lim_le ⟨2, 1, ct, un, ds, da, mo, [], wk'⟩ t
    rw [el, em]
    congr 1
    refine asc_ext (comes_asc hr s0 s1) (comes_asc hr' s0 s1) fun x => ?_
    rw [comes_iff hr s0 s1, comes_iff hr' s0 s1]
    constructor
    · rintro ⟨a, b⟩
      have a0 := a.1
      have q := (week_day h0 h1 (by omega) (by omega)).1 a
      exact ⟨(week_day h0' h1' (by omega) (by omega)).2 ⟨q.1, q.2⟩, b⟩
    · rintro ⟨a, b⟩
      have a0 := a.1
      have q := (week_day h0' h1' (by omega) (by omega)).1 a
      exact ⟨(week_day h0 h1 (by omega) (by omega)).2 ⟨q.1, q.2⟩, b⟩
/-- Every month on one of its so many days of the week. -/
def nthR (num wd : Int) : Rl := ⟨3, 1, 0, 0, [(num, wd)], [], [], [], 0⟩
theorem nth_fit {num wd s t x : Int} (h : x ∈ daysL (nthR num wd) s t) : wd = x % 7 ∧ (num = 0 ∨ num = (dOf x - 1) / 7 + 1 ∨ num = -((dim (yOf x) (mOf x) - dOf x) / 7 + 1)) ∧ 1 ≤ dOf x ∧ dOf x ≤ dim (yOf x) (mOf x) ∧ s ≤ x ∧ x ≤ t ∧ 0 ≤ x ∧ x ≤ 3652058 := by
  obtain ⟨hm, hx⟩ := days_mem h
  have bd := days_bd h
  obtain ⟨hru, ⟨s0, s1⟩, _⟩ := may_ok hm
  obtain ⟨⟨a, k, hk⟩, _⟩ := (comes_iff (ru_ok hru).1 s0 s1).1 hx
  have hf := (fit_parts (fit_of_ch hk)).2.2.1
  have db := date_bd bd.2.2.2.1 bd.2.2.2.2
  have hdf : dfB (nthR num wd) x = true := by
    rcases hf with hf | hf
    · exact absurd hf (by show ¬ (1 : Nat) = 0; omega)
    · exact hf
  have e : dfB (nthR num wd) x = byB x (dOf x - 1) (dim (yOf x) (mOf x) - dOf x) (num, wd) := by
    unfold dfB
    have p1 : pastOf (nthR num wd) x = dOf x - 1 := rfl
    have p2 : leftOf (nthR num wd) x = dim (yOf x) (mOf x) - dOf x := rfl
    rw [p1, p2]
    simp [nthR]
  rw [e] at hdf
  unfold byB at hdf
  rw [decide_eq_true_eq] at hdf
  exact ⟨hdf.1, hdf.2, db.2.2.2.2.1, db.2.2.2.2.2.1, bd.1, bd.2.1, bd.2.2.2.1, bd.2.2.2.2⟩
theorem nth_pos {num wd s t x : Int} (hn : 1 ≤ num) (h : x ∈ daysL (nthR num wd) s t) : wd = x % 7 ∧ 7 * num - 6 ≤ dOf x ∧ dOf x ≤ 7 * num := by
  obtain ⟨a, b, c, d, _⟩ := nth_fit h
  refine ⟨a, ?_, ?_⟩ <;> (rcases b with b | b | b <;> omega)
theorem nth_neg {num wd s t x : Int} (hn : 1 ≤ num) (h : x ∈ daysL (nthR (-num) wd) s t) : wd = x % 7 ∧ 7 * num - 7 ≤ dim (yOf x) (mOf x) - dOf x ∧ dim (yOf x) (mOf x) - dOf x < 7 * num := by
  obtain ⟨a, b, c, d, _⟩ := nth_fit h
  refine ⟨a, ?_, ?_⟩ <;> (rcases b with b | b | b <;> omega)
end Go.Proofs.YtlfglhpepoepcaaDoor
namespace Go.Proofs.YtlfglhpepoepcaaDoor
open Go.RowKit
set_option linter.unusedVariables false
set_option maxHeartbeats 400000 in
theorem implWeekDay_in (d : Int) (w : World) (h0 : 0 ≤ d) (h1 : d ≤ 3652058) :
    Calls Tryd.prog 26 #[.int .i64 d] w fun e w' => e = .returned (.int .i64 (d % 7)) ∧ w' = w := by
  go_enter Tryd.func26, Tryd.ntmps26
  go_wp2_with (first | (go_at_call 44; refine (implDayR d _ true ((in_iff _ _ _).2 ⟨h0, h1⟩)).mono ?_; rintro e w' ⟨rfl, rfl⟩) | (go_at_call 47; refine (implWd d _ h0 (by omega)).mono ?_; rintro e w' ⟨rfl, rfl⟩))
  go_ret
  exact ⟨rfl, rfl⟩
end Go.Proofs.YtlfglhpepoepcaaDoor
namespace Go.Proofs.YtlfglhpepoepcaaDoor
open Go.RowKit
set_option linter.unusedVariables false
set_option maxHeartbeats 2000000 in
theorem lawHas (a : Option Addr) (cap : Nat) (l : List Int) (n : Int) (r : Bool) (hr : r = true ↔ n ∈ l) (w : World) (h : IsInts w a l) (hl : l.length ≤ 4000000) :
    Calls Tryd.prog 24 #[.slice a l.length cap, .int .i64 n] w fun e w' => e = .returned (.bool r) ∧ Below w.heap.size w w' := by
  have H1 : Hid (IsInts w a l) := h
  have HR : Hid (r = true ↔ n ∈ l) := hr
  clear h hr
  go_enter Tryd.func24, Tryd.ntmps24
  go_wp2
  go_loopw [5] (fun i wr => ∃ k : Nat, k ≤ l.length ∧ i = .int .i64 k ∧ (∀ j, j < k → gi l j ≠ n) ∧ Below w.heap.size w wr) (fun i _ => l.length - (intOf i).toNat)
  case atStart => exact ⟨0, by omega, rfl, fun j hj => by omega, Below.refl _ _⟩
  case round =>
    obtain ⟨k, hk, rfl, ha, hb⟩ := hrel
    have HA : Hid (∀ j, j < k → gi l j ≠ n) := ha
    clear ha
    by_cases hlt : k < l.length
    · have G1 := H1.out.below hb
      rcases G1 with G1 | ⟨b, o, rfl, hbs, hc⟩
      · rw [G1] at hlt; simp at hlt
      have c0 : wr.cell? ⟨b, o + k, none⟩ = some (.int .i64 (gi l k)) := hc k hlt
      clear hc
      have hi1 : (k : Int) < (l.length : Int) := by omega
      by_cases hx : gi l k = n
      · have HV : Hid (r = true) := HR.out.2 (hx ▸ gi_mem hlt)
        have hx' : (gi l k == n) = true := beq_iff_eq.2 hx
        clear hx
        go_wp2
        first | (go_quiet (fail); go_wp2) | skip
        go_ret
        exact ⟨ret_b HV.out.symm, by first | exact hb | exact Below.drewN' hb _⟩
      · have HG : Hid (∀ j, j < k + 1 → gi l j ≠ n) := fun j hj => by
          by_cases e : j = k
          · subst e; exact hx
          · exact HA.out j (by omega)
        have hx' : (gi l k == n) = false := beq_eq_false_iff_ne.2 hx
        clear hx
        go_wp2
        first | (go_quiet (fail); go_wp2) | skip
        go_roundw
        case rel => exact ⟨k + 1, by omega, by go_num, HG.out, by first | exact hb | exact Below.drewN' hb _⟩
        case measure => first | (simp [intOf]; done) | (simp [intOf]; omega)
    · have HV : Hid (r = false) := by
        cases hrr : r with
        | false => rfl
        | true =>
          obtain ⟨i, hi, e⟩ := gi_ex (HR.out.1 hrr)
          exact absurd e (HA.out i (by omega))
      go_wp2
      go_ret
      exact ⟨ret_b HV.out.symm, hb⟩
end Go.Proofs.YtlfglhpepoepcaaDoor
namespace Go.Proofs.YtlfglhpepoepcaaDoor
open Go.RowKit
set_option linter.unusedVariables false
theorem implOn_is (f ev ct un : Int) (ds : List (Int × Int)) (da mo pl : List Int) (wk : Int) (m : Rm) (s d : Int) (b : Bool) (w : World) (hr : RAny w ⟨f, ev, ct, un, ds, da, mo, pl, wk⟩ m) (h : onB ⟨f, ev, ct, un, ds, da, mo, pl, wk⟩ s d = b) :
    Calls Tryd.prog 22 #[.agg #[.int .i64 f, .int .i64 ev, .int .i64 ct, .int .i64 un, .slice m.a0 ds.length m.c0, .slice m.a1 da.length m.c1, .slice m.a2 mo.length m.c2, .slice m.a3 pl.length m.c3, .int .i64 wk], .int .i64 s, .int .i64 d] w fun e w' => e = .returned (.bool b) ∧ Below w.heap.size w w' := by
  subst h; exact implRuleOn ⟨f, ev, ct, un, ds, da, mo, pl, wk⟩ m s d w hr
theorem specOn_is (f ev ct un : Int) (ds : List (Int × Int)) (da mo pl : List Int) (wk : Int) (m : Rm) (s d : Int) (b : Bool) (w : World) (hr : RAny w ⟨f, ev, ct, un, ds, da, mo, pl, wk⟩ m) (h : onB ⟨f, ev, ct, un, ds, da, mo, pl, wk⟩ s d = b) :
    Calls Tryd.prog 23 #[.agg #[.int .i64 f, .int .i64 ev, .int .i64 ct, .int .i64 un, .slice m.a0 ds.length m.c0, .slice m.a1 da.length m.c1, .slice m.a2 mo.length m.c2, .slice m.a3 pl.length m.c3, .int .i64 wk], .int .i64 s, .int .i64 d] w fun e w' => e = .returned (.bool b) ∧ Below w.heap.size w w' := by
  subst h; exact specRuleOn ⟨f, ev, ct, un, ds, da, mo, pl, wk⟩ m s d w hr
theorem implDateOf_all (n : Int) (w : World) (ht : Tab w) (h0 : 0 ≤ n) (h1 : n ≤ 3652058) :
    Calls Tryd.prog 25 #[.int .i64 n] w fun e w' => e = .returned (.agg #[.int .i64 (yOf n), .int .i64 (mOf n), .int .i64 (dOf n)]) ∧ Below w.heap.size w w' := by
  refine (implDateOf_yes n w ht h0 h1).mono fun e w' hh => ⟨?_, hh.2⟩
  obtain ⟨y, m, d, rfl, ok, e⟩ := hh.1
  obtain ⟨a, b, c⟩ := date_is ok e
  rw [a, b, c]
theorem implDim_v (D Y M L : Int) (w : World) (ht : Tab w) (h0 : 0 ≤ D) (h1 : D ≤ 3652058) (hy : yOf D = Y) (hm : mOf D = M) (hl : dim Y M = L) :
    Calls Tryd.prog 27 #[.int .i64 Y, .int .i64 M] w fun e w' => e = .returned (.int .i64 L) ∧ w' = w := by
  subst hy hm hl
  have db := date_bd h0 h1
  have q := implMonthDays (yOf D) (mOf D) w ht
  rw [mdays_in ⟨db.1, db.2.1, db.2.2.1, db.2.2.2.1⟩] at q
  exact q
theorem implWeekDay_val (d V : Int) (w : World) (h0 : 0 ≤ d) (h1 : d ≤ 3652058) (hv : V = d % 7) :
    Calls Tryd.prog 26 #[.int .i64 d] w fun e w' => e = .returned (.int .i64 V) ∧ w' = w := by
  subst hv; exact implWeekDay_in d w h0 h1
theorem lawHasY (a : Option Addr) (cap : Nat) (l : List Int) (n : Int) (hin : n ∈ l) (w : World) (h : IsInts w a l) (hl : l.length ≤ 4000000) :
    Calls Tryd.prog 24 #[.slice a l.length cap, .int .i64 n] w fun e w' => e = .returned (.bool true) ∧ Below w.heap.size w w' :=
  lawHas a cap l n true ⟨fun _ => hin, fun _ => rfl⟩ w h hl
theorem lawHasN (a : Option Addr) (cap : Nat) (l : List Int) (n : Int) (hin : ¬ n ∈ l) (w : World) (h : IsInts w a l) (hl : l.length ≤ 4000000) :
    Calls Tryd.prog 24 #[.slice a l.length cap, .int .i64 n] w fun e w' => e = .returned (.bool false) ∧ Below w.heap.size w w' :=
  lawHas a cap l n false ⟨fun q => (by cases q), fun q => absurd q hin⟩ w h hl
/-- Whether one of a rule's first so many days of the week is the one of a day, or it has none. -/
def weekB (ds : List (Int × Int)) (V : Int) (k : Nat) : Bool := decide ((ds.length : Int) = 0) || (ds.take k).any fun b => b.2 == V
theorem weekB_zero (ds : List (Int × Int)) (V : Int) : weekB ds V 0 = decide ((ds.length : Int) = 0) := by unfold weekB; simp
theorem weekB_yes {ds : List (Int × Int)} {V : Int} {k : Nat} (h : weekB ds V k = true) : weekB ds V (k + 1) = true := by
  unfold weekB at h ⊢
  rw [Bool.or_eq_true] at h ⊢
  rcases h with h | h
  · exact .inl h
  · refine .inr ?_
    obtain ⟨b, hb, q⟩ := List.any_eq_true.1 h
    refine List.any_eq_true.2 ⟨b, ?_, q⟩
    have e : ds.take k = (ds.take (k + 1)).take k := by rw [List.take_take]; congr 1; omega
    rw [e] at hb
    exact List.mem_of_mem_take hb
theorem weekB_no {ds : List (Int × Int)} {V : Int} {k : Nat} (hk : k < ds.length) (h : weekB ds V k = false) : weekB ds V (k + 1) = (tSh ds k == V) := by
  have e2 : tSh ds k = ds[k].2 := by unfold tSh; simp [hk]
  unfold weekB at h ⊢
  rw [Bool.or_eq_false_iff] at h
  rw [h.1, Bool.false_or, List.take_succ_eq_append_getElem hk, List.any_append, h.2, Bool.false_or, e2]
  simp
theorem weekB_all {ds : List (Int × Int)} {V : Int} (h : ds.length = 0 ∨ ∃ b ∈ ds, b.2 = V) : weekB ds V ds.length = true := by
  unfold weekB
  rw [Bool.or_eq_true]
  rcases h with h | ⟨b, hb, q⟩
  · exact .inl (by simp [h])
  · exact .inr (List.any_eq_true.2 ⟨b, by rw [List.take_length]; exact hb, beq_iff_eq.2 q⟩)
set_option maxRecDepth 100000 in
set_option maxHeartbeats 16000000 in
theorem lawRuleOn (a : Option Addr) (len cap : Nat) (w : World) (h : IsCode w a len cap) (ht : Tab w) :
    Calls Tryd.prog 4 #[.slice a len cap] w fun e w' => e = .returned (.bool true) ∧ Below w.heap.size w w' := by
  have hlen := h.1
  have HTB : Hid (Tab w) := ht
  clear ht
  by_cases hl : (len : Int) > 1048576
  · go_enter Tryd.func4, Tryd.ntmps4
    go_wp2
    go_ret
    exact ⟨rfl, Below.refl _ _⟩
  go_enter Tryd.func4, Tryd.ntmps4
  go_wp2_with fail
  refine (drawRuleOn w a len cap h).mono ?_
  rintro e w1 ⟨r, m, s, t, rfl, O1, sm, sb, tb, b1⟩
  obtain ⟨f, ev, ct, un, ds, da, mo, pl, wk⟩ := r
  have hrc : rcs ⟨f, ev, ct, un, ds, da, mo, pl, wk⟩ m = #[.int .i64 f, .int .i64 ev, .int .i64 ct, .int .i64 un, .slice m.a0 ds.length m.c0, .slice m.a1 da.length m.c1, .slice m.a2 mo.length m.c2, .slice m.a3 pl.length m.c3, .int .i64 wk] := rfl
  rw [hrc]
  clear hrc h
  have bA : Below w1.heap.size w1 (w1.alloc (.cells #[.int .i64 f, .int .i64 ev, .int .i64 ct, .int .i64 un, .slice m.a0 ds.length m.c0, .slice m.a1 da.length m.c1, .slice m.a2 mo.length m.c2, .slice m.a3 pl.length m.c3, .int .i64 wk] 26)) := (Below.refl _ _).alloc (Nat.le_refl _) _
  have K2 : RQ w w1.heap.size (⟨f, ev, ct, un, ds, da, mo, pl, wk⟩ : Rl) m (w1.alloc (.cells #[.int .i64 f, .int .i64 ev, .int .i64 ct, .int .i64 un, .slice m.a0 ds.length m.c0, .slice m.a1 da.length m.c1, .slice m.a2 mo.length m.c2, .slice m.a3 pl.length m.c3, .int .i64 wk] 26)) := ⟨CF.new _ _ _, ⟨w1, rfl, any_of (w := w) (B := w.heap.size) (r := ⟨f, ev, ct, un, ds, da, mo, pl, wk⟩) (O1.re rfl rfl rfl rfl) sm (HTB.out.on b1), bA⟩, b1.trans (bA.mono b1.size), b1.size⟩
  have HK2 : Hid (RQ w w1.heap.size (⟨f, ev, ct, un, ds, da, mo, pl, wk⟩ : Rl) m (w1.alloc (.cells #[.int .i64 f, .int .i64 ev, .int .i64 ct, .int .i64 un, .slice m.a0 ds.length m.c0, .slice m.a1 da.length m.c1, .slice m.a2 mo.length m.c2, .slice m.a3 pl.length m.c3, .int .i64 wk] 26))) := K2
  have SM : Hid (Sml 4 (⟨f, ev, ct, un, ds, da, mo, pl, wk⟩ : Rl)) := sm
  clear K2 bA O1 sm b1
  have t0 : 0 ≤ t := tb.1
  have t1 : t ≤ 800000 := tb.2
  have s0 : 0 ≤ s := sb.1
  have s1 : s ≤ 3652058 := sb.2
  clear sb tb
  go_wp2_with fail
  generalize w1.alloc (.cells #[.int .i64 f, .int .i64 ev, .int .i64 ct, .int .i64 un, .slice m.a0 ds.length m.c0, .slice m.a1 da.length m.c1, .slice m.a2 mo.length m.c2, .slice m.a3 pl.length m.c3, .int .i64 wk] 26) = W2 at HK2 ⊢
  generalize w1.heap.size = X at HK2 ⊢
  cases ho : onB ⟨f, ev, ct, un, ds, da, mo, pl, wk⟩ s t with
  | false =>
    refine (implOn_is f ev ct un ds da mo pl wk m s t false W2 HK2.out.any ho).mono ?_
    rintro e w3 ⟨rfl, b3⟩
    have HO : Hid (onB ⟨f, ev, ct, un, ds, da, mo, pl, wk⟩ s t = false) := ho
    have K3 : RQ w X (⟨f, ev, ct, un, ds, da, mo, pl, wk⟩ : Rl) m w3 := HK2.out.on b3
    clear b3 HK2 ho
    have x0 : World.cell? w3 ⟨X, 0, none⟩ = some (.int .i64 f) := (K3.c.2 0 _ rfl).1
    have x1 : World.cell? w3 ⟨X, 1, none⟩ = some (.int .i64 ev) := (K3.c.2 1 _ rfl).1
    have x2 : World.cell? w3 ⟨X, 2, none⟩ = some (.int .i64 ct) := (K3.c.2 2 _ rfl).1
    have x3 : World.cell? w3 ⟨X, 3, none⟩ = some (.int .i64 un) := (K3.c.2 3 _ rfl).1
    have x4 : World.cell? w3 ⟨X, 4, none⟩ = some (.slice m.a0 ds.length m.c0) := (K3.c.2 4 _ rfl).1
    have x5 : World.cell? w3 ⟨X, 5, none⟩ = some (.slice m.a1 da.length m.c1) := (K3.c.2 5 _ rfl).1
    have x6 : World.cell? w3 ⟨X, 6, none⟩ = some (.slice m.a2 mo.length m.c2) := (K3.c.2 6 _ rfl).1
    have x7 : World.cell? w3 ⟨X, 7, none⟩ = some (.slice m.a3 pl.length m.c3) := (K3.c.2 7 _ rfl).1
    have x8 : World.cell? w3 ⟨X, 8, none⟩ = some (.int .i64 wk) := (K3.c.2 8 _ rfl).1
    have HK3 : Hid (RQ w X (⟨f, ev, ct, un, ds, da, mo, pl, wk⟩ : Rl) m w3) := K3
    clear K3
    go_wp2_with fail
    refine (specOn_is f ev ct un ds da mo pl wk m s t false w3 HK3.out.any HO.out).mono ?_
    rintro e w4 ⟨rfl, b4⟩
    have HK4 : Hid (RQ w X (⟨f, ev, ct, un, ds, da, mo, pl, wk⟩ : Rl) m w4) := HK3.out.on b4
    have K4 := HK4.out
    clear HK3 b4 x0 x1 x2 x3 x4 x5 x6 x7 x8
    have x0 : World.cell? w4 ⟨X, 0, none⟩ = some (.int .i64 f) := (K4.c.2 0 _ rfl).1
    have x1 : World.cell? w4 ⟨X, 1, none⟩ = some (.int .i64 ev) := (K4.c.2 1 _ rfl).1
    have x2 : World.cell? w4 ⟨X, 2, none⟩ = some (.int .i64 ct) := (K4.c.2 2 _ rfl).1
    have x3 : World.cell? w4 ⟨X, 3, none⟩ = some (.int .i64 un) := (K4.c.2 3 _ rfl).1
    have x4 : World.cell? w4 ⟨X, 4, none⟩ = some (.slice m.a0 ds.length m.c0) := (K4.c.2 4 _ rfl).1
    have x5 : World.cell? w4 ⟨X, 5, none⟩ = some (.slice m.a1 da.length m.c1) := (K4.c.2 5 _ rfl).1
    have x6 : World.cell? w4 ⟨X, 6, none⟩ = some (.slice m.a2 mo.length m.c2) := (K4.c.2 6 _ rfl).1
    have x7 : World.cell? w4 ⟨X, 7, none⟩ = some (.slice m.a3 pl.length m.c3) := (K4.c.2 7 _ rfl).1
    have x8 : World.cell? w4 ⟨X, 8, none⟩ = some (.int .i64 wk) := (K4.c.2 8 _ rfl).1
    clear K4
    have HNI : Hid (¬ t ∈ daysL ⟨f, ev, ct, un, ds, da, mo, pl, wk⟩ s t) := fun q => by have := days_on q; rw [HO.out] at this; cases this
    go_wp2_with fail
    refine (specOn_is f ev ct un ds da mo pl wk m s t false w4 HK4.out.any HO.out).mono ?_
    rintro e w5 ⟨rfl, b5⟩
    have HK5 : Hid (RQ w X (⟨f, ev, ct, un, ds, da, mo, pl, wk⟩ : Rl) m w5) := HK4.out.on b5
    have K5 := HK5.out
    clear HK4 b5 x0 x1 x2 x3 x4 x5 x6 x7 x8
    have x0 : World.cell? w5 ⟨X, 0, none⟩ = some (.int .i64 f) := (K5.c.2 0 _ rfl).1
    have x1 : World.cell? w5 ⟨X, 1, none⟩ = some (.int .i64 ev) := (K5.c.2 1 _ rfl).1
    have x2 : World.cell? w5 ⟨X, 2, none⟩ = some (.int .i64 ct) := (K5.c.2 2 _ rfl).1
    have x3 : World.cell? w5 ⟨X, 3, none⟩ = some (.int .i64 un) := (K5.c.2 3 _ rfl).1
    have x4 : World.cell? w5 ⟨X, 4, none⟩ = some (.slice m.a0 ds.length m.c0) := (K5.c.2 4 _ rfl).1
    have x5 : World.cell? w5 ⟨X, 5, none⟩ = some (.slice m.a1 da.length m.c1) := (K5.c.2 5 _ rfl).1
    have x6 : World.cell? w5 ⟨X, 6, none⟩ = some (.slice m.a2 mo.length m.c2) := (K5.c.2 6 _ rfl).1
    have x7 : World.cell? w5 ⟨X, 7, none⟩ = some (.slice m.a3 pl.length m.c3) := (K5.c.2 7 _ rfl).1
    have x8 : World.cell? w5 ⟨X, 8, none⟩ = some (.int .i64 wk) := (K5.c.2 8 _ rfl).1
    clear K5
    go_wp2_with fail
    refine (implRuleDays ⟨f, ev, ct, un, ds, da, mo, pl, wk⟩ m s t w5 HK5.out.any).mono ?_
    rintro e w6 ⟨⟨v6, rfl, O6⟩, b6⟩
    obtain ⟨va, vc, rfl, I6, _, _⟩ := O6.val
    have HI6 := Hid.mk' I6
    have HLD := Hid.mk' (days_len ⟨f, ev, ct, un, ds, da, mo, pl, wk⟩ s t)
    have HB6 : Hid (Below w.heap.size w w6) := bstep HK5.out.bel b6
    clear O6 I6 b6 HK5 x0 x1 x2 x3 x4 x5 x6 x7 x8
    generalize daysL ⟨f, ev, ct, un, ds, da, mo, pl, wk⟩ s t = D at *
    go_wp2_with fail
    refine (lawHas va vc D t false ⟨fun q => (by cases q), fun q => absurd q HNI.out⟩ w6 HI6.out (by have := HLD.out; omega)).mono ?_
    rintro e w7 ⟨rfl, b7⟩
    have B7 := bstep HB6.out b7
    clear b7
    go_wp2
    go_ret
    exact ⟨rfl, B7⟩
  | true =>
    refine (implOn_is f ev ct un ds da mo pl wk m s t true W2 HK2.out.any ho).mono ?_
    rintro e w3 ⟨rfl, b3⟩
    have HO : Hid (onB ⟨f, ev, ct, un, ds, da, mo, pl, wk⟩ s t = true) := ho
    have K3 : RQ w X (⟨f, ev, ct, un, ds, da, mo, pl, wk⟩ : Rl) m w3 := HK2.out.on b3
    clear b3 HK2 ho
    have x0 : World.cell? w3 ⟨X, 0, none⟩ = some (.int .i64 f) := (K3.c.2 0 _ rfl).1
    have x1 : World.cell? w3 ⟨X, 1, none⟩ = some (.int .i64 ev) := (K3.c.2 1 _ rfl).1
    have x2 : World.cell? w3 ⟨X, 2, none⟩ = some (.int .i64 ct) := (K3.c.2 2 _ rfl).1
    have x3 : World.cell? w3 ⟨X, 3, none⟩ = some (.int .i64 un) := (K3.c.2 3 _ rfl).1
    have x4 : World.cell? w3 ⟨X, 4, none⟩ = some (.slice m.a0 ds.length m.c0) := (K3.c.2 4 _ rfl).1
    have x5 : World.cell? w3 ⟨X, 5, none⟩ = some (.slice m.a1 da.length m.c1) := (K3.c.2 5 _ rfl).1
    have x6 : World.cell? w3 ⟨X, 6, none⟩ = some (.slice m.a2 mo.length m.c2) := (K3.c.2 6 _ rfl).1
    have x7 : World.cell? w3 ⟨X, 7, none⟩ = some (.slice m.a3 pl.length m.c3) := (K3.c.2 7 _ rfl).1
    have x8 : World.cell? w3 ⟨X, 8, none⟩ = some (.int .i64 wk) := (K3.c.2 8 _ rfl).1
    have HK3 : Hid (RQ w X (⟨f, ev, ct, un, ds, da, mo, pl, wk⟩ : Rl) m w3) := K3
    clear K3
    go_wp2_with fail
    refine (specOn_is f ev ct un ds da mo pl wk m s t true w3 HK3.out.any HO.out).mono ?_
    rintro e w4 ⟨rfl, b4⟩
    have HK4 : Hid (RQ w X (⟨f, ev, ct, un, ds, da, mo, pl, wk⟩ : Rl) m w4) := HK3.out.on b4
    have K4 := HK4.out
    clear HK3 b4 x0 x1 x2 x3 x4 x5 x6 x7 x8
    have x0 : World.cell? w4 ⟨X, 0, none⟩ = some (.int .i64 f) := (K4.c.2 0 _ rfl).1
    have x1 : World.cell? w4 ⟨X, 1, none⟩ = some (.int .i64 ev) := (K4.c.2 1 _ rfl).1
    have x2 : World.cell? w4 ⟨X, 2, none⟩ = some (.int .i64 ct) := (K4.c.2 2 _ rfl).1
    have x3 : World.cell? w4 ⟨X, 3, none⟩ = some (.int .i64 un) := (K4.c.2 3 _ rfl).1
    have x4 : World.cell? w4 ⟨X, 4, none⟩ = some (.slice m.a0 ds.length m.c0) := (K4.c.2 4 _ rfl).1
    have x5 : World.cell? w4 ⟨X, 5, none⟩ = some (.slice m.a1 da.length m.c1) := (K4.c.2 5 _ rfl).1
    have x6 : World.cell? w4 ⟨X, 6, none⟩ = some (.slice m.a2 mo.length m.c2) := (K4.c.2 6 _ rfl).1
    have x7 : World.cell? w4 ⟨X, 7, none⟩ = some (.slice m.a3 pl.length m.c3) := (K4.c.2 7 _ rfl).1
    have x8 : World.cell? w4 ⟨X, 8, none⟩ = some (.int .i64 wk) := (K4.c.2 8 _ rfl).1
    clear K4
    have hfit := on_fit HO.out
    have hst : s ≤ t := hfit.2.1
    have hfp := fit_parts hfit.2.2
    have HW : Hid (ds.length = 0 ∨ ∃ b ∈ ds, b.2 = t % 7) := by
      rcases hfp.2.2.1 with q | q
      · exact .inl q
      · right
        unfold dfB at q
        obtain ⟨b, hb, q2⟩ := List.any_eq_true.1 q
        unfold byB at q2
        exact ⟨b, hb, (of_decide_eq_true q2).1⟩
    have HMO : mo.length = 0 ∨ mOf t ∈ mo := hfp.1
    have HDA : da.length = 0 ∨ dOf t ∈ da ∨ dOf t - dim (yOf t) (mOf t) - 1 ∈ da := hfp.2.1
    have HIN : Hid (t ∈ daysL ⟨f, ev, ct, un, ds, da, mo, pl, wk⟩ s t ∨ (daysL ⟨f, ev, ct, un, ds, da, mo, pl, wk⟩ s t).length = 200) := on_days HO.out
    have hml : (mo.length : Int) ≤ 4 := by have q : mo.length ≤ 4 := SM.out.2.2.1; omega
    have hdl : (ds.length : Int) ≤ 4 := by have q : ds.length ≤ 4 := SM.out.1; omega
    have hal : (da.length : Int) ≤ 4 := by have q : da.length ≤ 4 := SM.out.2.1; omega
    clear hfit hfp
    go_wp2_with fail
    refine (implDateOf_all t w4 HK4.out.any.tab t0 (by omega)).mono ?_
    rintro e w5 ⟨rfl, b5⟩
    have db := date_bd t0 (show t ≤ 3652058 by omega)
    have dm := dim_bd (yOf t) (mOf t)
    have d1 : 1 ≤ dOf t := db.2.2.2.2.1
    have d2 : dOf t ≤ dim (yOf t) (mOf t) := db.2.2.2.2.2.1
    have d3 : dim (yOf t) (mOf t) ≤ 31 := dm.2
    clear db dm
    obtain ⟨Y, hY⟩ : ∃ Y, yOf t = Y := ⟨_, rfl⟩
    obtain ⟨MM, hM⟩ : ∃ M, mOf t = M := ⟨_, rfl⟩
    obtain ⟨LL, hLL⟩ : ∃ L, dim (yOf t) (mOf t) = L := ⟨_, rfl⟩
    obtain ⟨DD, hDD⟩ : ∃ D, dOf t = D := ⟨_, rfl⟩
    rw [hLL] at d2 d3 HDA
    rw [hDD] at d1 d2 HDA
    rw [hM] at HMO
    rw [hY, hM] at hLL
    have HYY : Hid (yOf t = Y) := hY
    have HMM : Hid (mOf t = MM) := hM
    have HLL : Hid (dim Y MM = LL) := hLL
    rw [hY, hM, hDD]
    clear hY hM hLL hDD
    have HMO := Hid.mk' HMO
    have HDA := Hid.mk' HDA
    have bz : Below w5.heap.size w5 (w5.alloc (.cells #[.int .i64 Y, .int .i64 MM, .int .i64 DD] 35)) := (Below.refl _ _).alloc (Nat.le_refl _) _
    have HZ : Hid (CF (w5.alloc (.cells #[.int .i64 Y, .int .i64 MM, .int .i64 DD] 35)) w5.heap.size #[.int .i64 Y, .int .i64 MM, .int .i64 DD]) := CF.new _ _ _
    have HK5 : Hid (RQ w X (⟨f, ev, ct, un, ds, da, mo, pl, wk⟩ : Rl) m (w5.alloc (.cells #[.int .i64 Y, .int .i64 MM, .int .i64 DD] 35))) := HK4.out.on (bstep b5 bz)
    have K5 := HK4.out.on b5
    have lX : X < w5.heap.size := K5.c.1
    have nX : ¬ X = w5.heap.size := by omega
    clear b5 bz HK4 x0 x1 x2 x3 x4 x5 x6 x7 x8
    have x0 : World.cell? w5 ⟨X, 0, none⟩ = some (.int .i64 f) := (K5.c.2 0 _ rfl).1
    have x1 : World.cell? w5 ⟨X, 1, none⟩ = some (.int .i64 ev) := (K5.c.2 1 _ rfl).1
    have x2 : World.cell? w5 ⟨X, 2, none⟩ = some (.int .i64 ct) := (K5.c.2 2 _ rfl).1
    have x3 : World.cell? w5 ⟨X, 3, none⟩ = some (.int .i64 un) := (K5.c.2 3 _ rfl).1
    have x4 : World.cell? w5 ⟨X, 4, none⟩ = some (.slice m.a0 ds.length m.c0) := (K5.c.2 4 _ rfl).1
    have x5 : World.cell? w5 ⟨X, 5, none⟩ = some (.slice m.a1 da.length m.c1) := (K5.c.2 5 _ rfl).1
    have x6 : World.cell? w5 ⟨X, 6, none⟩ = some (.slice m.a2 mo.length m.c2) := (K5.c.2 6 _ rfl).1
    have x7 : World.cell? w5 ⟨X, 7, none⟩ = some (.slice m.a3 pl.length m.c3) := (K5.c.2 7 _ rfl).1
    have x8 : World.cell? w5 ⟨X, 8, none⟩ = some (.int .i64 wk) := (K5.c.2 8 _ rfl).1
    clear K5
    obtain ⟨V, hV⟩ : ∃ V, V = t % 7 := ⟨_, rfl⟩
    have HV : Hid (V = t % 7) := hV
    rw [← hV] at HW
    clear hV
    have hw0 : decide ((ds.length : Int) = 0) = weekB ds V 0 := (weekB_zero ds V).symm
    have hw1 : ((ds.length : Int) == 0) = weekB ds V 0 := hw0
    have HWA : Hid (weekB ds V ds.length = true) := weekB_all HW.out
    have HWY : Hid (∀ k, weekB ds V k = true → weekB ds V (k + 1) = true) := fun k q => weekB_yes q
    have HWN : Hid (∀ k, k < ds.length → weekB ds V k = false → weekB ds V (k + 1) = (tSh ds k == V)) := fun k a q => weekB_no a q
    go_wp2
    generalize w5.alloc (.cells #[.int .i64 Y, .int .i64 MM, .int .i64 DD] 35) = W5 at HZ HK5 ⊢
    generalize w5.heap.size = Z at HZ ⊢
    clear x0 x1 x2 x3 x4 x5 x6 x7 x8 lX nX hw0 hw1
    go_loopw [8, 9] (fun b i wr => ∃ k : Nat, k ≤ ds.length ∧ b = .bool (weekB ds V k) ∧ i = .int .i64 k ∧ Below W5.heap.size W5 wr) (fun _ i _ => ds.length - (intOf i).toNat)
    case atStart => exact ⟨0, by omega, rfl, rfl, Below.refl _ _⟩
    case round =>
      obtain ⟨k, hk, rfl, rfl, hb⟩ := hrel
      have K := HK5.out.on hb
      have x4 : World.cell? wr ⟨X, 4, none⟩ = some (.slice m.a0 ds.length m.c0) := (K.c.2 4 _ rfl).1
      have HKr : Hid (RQ w X (⟨f, ev, ct, un, ds, da, mo, pl, wk⟩ : Rl) m wr) := K
      have HB : Hid (Below W5.heap.size W5 wr) := hb
      clear K hb
      by_cases hlt : k < ds.length
      · have hi0 : (0 : Int) ≤ (k : Int) := by omega
        have hi1 : (k : Int) < (ds.length : Int) := by omega
        cases hwk : weekB ds V k with
        | true =>
          have HN : Hid (weekB ds V (k + 1) = true) := HWY.out k hwk
          clear hwk
          go_wp2
          refine wp_region_cl (fun w' => Below wr.heap.size wr w') (by kernel_rfl) (by kernel_rfl) (Below.refl _ _).drew ?_
          repeat (first
            | go_big_quiet_skip
            | (go_big_quiet_want; go_big_quiet_op; go_big_quiet_on)
            | (go_big_quiet_want
               apply Exists.intro
               refine ⟨fun w7 hC7 => ?_, ?_⟩
               · (have b7 := hC7
                  have y4 : World.cell? w7 ⟨X, 4, none⟩ = some (.slice m.a0 ds.length m.c0) := ((HKr.out.on hC7).c.2 4 _ rfl).1
                  clear hC7
                  go_simp
                  first
                    | done
                    | rfl
                    | exact ⟨rfl, rfl⟩
                    | (with_reducible refine (implWeekDay_val t V w7 t0 (by omega) HV.out).mono ?_
                       rintro e w8 ⟨rfl, rfl⟩
                       first | exact ⟨rfl, b7⟩ | (go_simp; exact b7)))
               (go_simp; go_big_quiet_on)))
          refine wpQuiet_nil ?_
          intro w7 b7
          have hb := bstep HB.out b7
          clear b7
          go_wp2
          go_roundw
          case rel => exact ⟨k + 1, by omega, by rw [HN.out], by go_num, hb⟩
          case measure => simp [intOf]; omega
        | false =>
          have HN : Hid (weekB ds V (k + 1) = (tSh ds k == V)) := HWN.out k hlt hwk
          clear hwk
          obtain ⟨b, off, ha⟩ : ∃ b off, m.a0 = some ⟨b, off, none⟩ := by
            rcases HKr.out.any.mem.t with q | ⟨b, off, q, _⟩
            · have q2 : ds = [] := q
              rw [q2] at hlt; simp at hlt
            · exact ⟨b, off, q⟩
          have hcs : b < wr.heap.size ∧ wr.cell? ⟨b, off + k * 2 + 1, none⟩ = some (.int .i64 (tSh ds k)) := by
            rcases HKr.out.any.mem.t with q | ⟨b', off', q, hl, hc⟩
            · have q2 : ds = [] := q
              rw [q2] at hlt; simp at hlt
            · have q2 := ha.symm.trans q
              simp only [Option.some.injEq, Addr.mk.injEq, and_true] at q2
              obtain ⟨rfl, rfl⟩ := q2
              exact ⟨hl, (hc k hlt).2⟩
          have HA : Hid (m.a0 = some ⟨b, off, none⟩) := ha
          have e0 := hcs.2
          have hbs := hcs.1
          clear ha hcs
          generalize tSh ds k = YY at *
          rw [HA.out] at x4
          obtain ⟨q, hq⟩ : ∃ q, q = (YY == V) := ⟨_, rfl⟩
          have hq1 : (YY == V) = q := hq.symm
          have hq2 : decide (YY = V) = q := hq.symm
          rw [hq1] at HN
          clear hq
          go_wp2
          refine wp_region_cl (fun w' => Below wr.heap.size wr w') (by kernel_rfl) (by kernel_rfl) (Below.refl _ _).drew ?_
          repeat (first
            | go_big_quiet_skip
            | (go_big_quiet_want; go_big_quiet_op; go_big_quiet_on)
            | (go_big_quiet_want
               apply Exists.intro
               refine ⟨fun w7 hC7 => ?_, ?_⟩
               · (have b7 := hC7
                  have y4 : World.cell? w7 ⟨X, 4, none⟩ = some (.slice (some ⟨b, off, none⟩) ds.length m.c0) := by rw [← HA.out]; exact ((HKr.out.on hC7).c.2 4 _ rfl).1
                  have e7 : World.cell? w7 ⟨b, off + k * 2 + 1, none⟩ = some (.int .i64 YY) := (hC7.cell (p := ⟨b, off + k * 2 + 1, none⟩) hbs).trans e0
                  clear hC7
                  go_simp
                  first
                    | done
                    | rfl
                    | exact ⟨rfl, rfl⟩
                    | (with_reducible refine (implWeekDay_val t V w7 t0 (by omega) HV.out).mono ?_
                       rintro e w8 ⟨rfl, rfl⟩
                       first | exact ⟨rfl, b7⟩ | (go_simp; exact b7)))
               (go_simp; go_big_quiet_on)))
          refine wpQuiet_nil ?_
          intro w7 b7
          have hb := bstep HB.out b7
          clear b7 e0
          go_wp2
          go_roundw
          case rel => exact ⟨k + 1, by omega, by rw [HN.out], by go_num, hb⟩
          case measure => simp [intOf]; omega
      · have hkk : k = ds.length := by omega
        subst hkk
        rw [HWA.out]
        generalize wr = w9 at *
        have gw1 := IntWalk.i64_in (DD - LL) (by omega)
        have gw2 := IntWalk.i64_in (DD - LL - 1) (by omega)
        have HZ9 : Hid (CF w9 Z #[.int .i64 Y, .int .i64 MM, .int .i64 DD]) := HZ.out.below HB.out
        by_cases hda : (da.length : Int) = 0
        · have ga := decide_eq_true hda
          have gb : ((da.length : Int) == 0) = true := beq_iff_eq.2 hda
          have HKq : Hid (RQ w X (⟨f, ev, ct, un, ds, da, mo, pl, wk⟩ : Rl) m w9) := HK5.out.on HB.out
          go_wp2
          refine wp_region_cl (fun w' => Below w9.heap.size w9 w') (by kernel_rfl) (by kernel_rfl) (Below.refl _ _).drew ?_
          repeat (first
            | go_big_quiet_skip
            | (go_big_quiet_want; go_big_quiet_op; go_big_quiet_on)
            | (go_big_quiet_want
               apply Exists.intro
               refine ⟨fun w7 hC7 => ?_, ?_⟩
               · (have b7 := hC7
                  have y5 : World.cell? w7 ⟨X, 5, none⟩ = some (.slice m.a1 da.length m.c1) := ((HKq.out.on hC7).c.2 5 _ rfl).1
                  have z0 : World.cell? w7 ⟨Z, 0, none⟩ = some (.int .i64 Y) := ((HZ9.out.below hC7).2 0 _ rfl).1
                  have z1 : World.cell? w7 ⟨Z, 1, none⟩ = some (.int .i64 MM) := ((HZ9.out.below hC7).2 1 _ rfl).1
                  have z2 : World.cell? w7 ⟨Z, 2, none⟩ = some (.int .i64 DD) := ((HZ9.out.below hC7).2 2 _ rfl).1
                  clear hC7
                  go_simp
                  first
                    | done
                    | rfl
                    | exact ⟨rfl, rfl⟩
                    | (with_reducible refine (implDim_v t Y MM LL w7 (HKq.out.on b7).any.tab t0 (by omega) HYY.out HMM.out HLL.out).mono ?_
                       rintro e w8 ⟨rfl, rfl⟩
                       first | exact ⟨rfl, b7⟩ | (go_simp; exact b7)))
               (go_simp; go_big_quiet_on)))
          refine wpQuiet_nil ?_
          intro w7 b7
          clear HKq
          have b9 := bstep HB.out b7
          have K7 := HK5.out.on b9
          have Z7 := Hid.mk' (HZ9.out.below b7)
          have HK7 := Hid.mk' K7
          clear x4
          have x0 : World.cell? w7 ⟨X, 0, none⟩ = some (.int .i64 f) := (K7.c.2 0 _ rfl).1
          have x1 : World.cell? w7 ⟨X, 1, none⟩ = some (.int .i64 ev) := (K7.c.2 1 _ rfl).1
          have x2 : World.cell? w7 ⟨X, 2, none⟩ = some (.int .i64 ct) := (K7.c.2 2 _ rfl).1
          have x3 : World.cell? w7 ⟨X, 3, none⟩ = some (.int .i64 un) := (K7.c.2 3 _ rfl).1
          have x4 : World.cell? w7 ⟨X, 4, none⟩ = some (.slice m.a0 ds.length m.c0) := (K7.c.2 4 _ rfl).1
          have x5 : World.cell? w7 ⟨X, 5, none⟩ = some (.slice m.a1 da.length m.c1) := (K7.c.2 5 _ rfl).1
          have x6 : World.cell? w7 ⟨X, 6, none⟩ = some (.slice m.a2 mo.length m.c2) := (K7.c.2 6 _ rfl).1
          have x7 : World.cell? w7 ⟨X, 7, none⟩ = some (.slice m.a3 pl.length m.c3) := (K7.c.2 7 _ rfl).1
          have x8 : World.cell? w7 ⟨X, 8, none⟩ = some (.int .i64 wk) := (K7.c.2 8 _ rfl).1
          clear K7 b9 b7
          go_wp2_with fail
          refine (implRuleDays ⟨f, ev, ct, un, ds, da, mo, pl, wk⟩ m s t w7 HK7.out.any).mono ?_
          rintro e w10 ⟨⟨v10, rfl, O10⟩, b10⟩
          obtain ⟨va, vc, rfl, I10, _, _⟩ := O10.val
          have HK10 : Hid (RQ w X (⟨f, ev, ct, un, ds, da, mo, pl, wk⟩ : Rl) m w10) := HK7.out.on b10
          have Z10 := Hid.mk' (Z7.out.below b10)
          have HI10 := Hid.mk' I10
          have HLD := Hid.mk' (days_len ⟨f, ev, ct, un, ds, da, mo, pl, wk⟩ s t)
          clear O10 I10 b10 HK7 Z7 x0 x1 x2 x3 x4 x5 x6 x7 x8
          have HIN2 := HIN
          generalize daysL ⟨f, ev, ct, un, ds, da, mo, pl, wk⟩ s t = D at *
          have x6 : World.cell? w10 ⟨X, 6, none⟩ = some (.slice m.a2 mo.length m.c2) := (HK10.out.c.2 6 _ rfl).1
          have z1 : World.cell? w10 ⟨Z, 1, none⟩ = some (.int .i64 MM) := (Z10.out.2 1 _ rfl).1
          by_cases hmo : (mo.length : Int) = 0
          · have HB10 : Hid (Below w.heap.size w w10) := HK10.out.bel
            by_cases ht : t ∈ D
            · have HTI : Hid (t ∈ D) := ht
              clear ht
              go_wp2_with fail
              refine (lawHas va vc D t true ⟨fun _ => HTI.out, fun _ => rfl⟩ w10 HI10.out (by have := HLD.out; omega)).mono ?_
              rintro e w12 ⟨rfl, b12⟩
              have B12 := bstep HB10.out b12
              clear b12
              go_wp2
              go_ret
              exact ⟨rfl, B12⟩
            · have HTI : Hid (¬ t ∈ D) := ht
              have h200 : (D.length : Int) = 200 := by
                rcases HIN.out with q | q
                · exact absurd q ht
                · omega
              have h201 : ((D.length : Int) == 200) = true := beq_iff_eq.2 h200
              clear ht
              go_wp2_with fail
              refine (lawHas va vc D t false ⟨fun q => (by cases q), fun q => absurd q HTI.out⟩ w10 HI10.out (by have := HLD.out; omega)).mono ?_
              rintro e w12 ⟨rfl, b12⟩
              have B12 := bstep HB10.out b12
              clear b12
              go_wp2
              go_ret
              exact ⟨rfl, B12⟩
          · have g3 : ((mo.length : Int) == 0) = false := beq_eq_false_iff_ne.2 hmo
            have HMI : Hid (MM ∈ mo) := by
              rcases HMO.out with q | q
              · exact absurd q (by omega)
              · exact q
            clear hmo
            go_wp2_with fail
            refine (lawHas m.a2 m.c2 mo MM true ⟨fun _ => HMI.out, fun _ => rfl⟩ w10 HK10.out.any.mem.o (by omega)).mono ?_
            rintro e w11 ⟨rfl, b11⟩
            have HB11 : Hid (Below w.heap.size w w11) := bstep HK10.out.bel b11
            have HI11 := Hid.mk' (HI10.out.below b11)
            clear b11 x6 z1
            by_cases ht : t ∈ D
            · have HTI : Hid (t ∈ D) := ht
              clear ht
              go_wp2_with fail
              refine (lawHas va vc D t true ⟨fun _ => HTI.out, fun _ => rfl⟩ w11 HI11.out (by have := HLD.out; omega)).mono ?_
              rintro e w12 ⟨rfl, b12⟩
              have B12 := bstep HB11.out b12
              clear b12
              go_wp2
              go_ret
              exact ⟨rfl, B12⟩
            · have HTI : Hid (¬ t ∈ D) := ht
              have h200 : (D.length : Int) = 200 := by
                rcases HIN.out with q | q
                · exact absurd q ht
                · omega
              have h201 : ((D.length : Int) == 200) = true := beq_iff_eq.2 h200
              clear ht
              go_wp2_with fail
              refine (lawHas va vc D t false ⟨fun q => (by cases q), fun q => absurd q HTI.out⟩ w11 HI11.out (by have := HLD.out; omega)).mono ?_
              rintro e w12 ⟨rfl, b12⟩
              have B12 := bstep HB11.out b12
              clear b12
              go_wp2
              go_ret
              exact ⟨rfl, B12⟩
        · have ga := decide_eq_false hda
          have gb : ((da.length : Int) == 0) = false := beq_eq_false_iff_ne.2 hda
          by_cases hdd : DD ∈ da
          · have HQ : Hid (DD ∈ da) := hdd
            clear hdd hda
            have HKq : Hid (RQ w X (⟨f, ev, ct, un, ds, da, mo, pl, wk⟩ : Rl) m w9) := HK5.out.on HB.out
            go_wp2
            refine wp_region_cl (fun w' => Below w9.heap.size w9 w') (by kernel_rfl) (by kernel_rfl) (Below.refl _ _).drew ?_
            repeat (first
              | go_big_quiet_skip
              | (go_big_quiet_want; go_big_quiet_op; go_big_quiet_on)
              | (go_big_quiet_want
                 apply Exists.intro
                 refine ⟨fun w7 hC7 => ?_, ?_⟩
                 · (have b7 := hC7
                    have y5 : World.cell? w7 ⟨X, 5, none⟩ = some (.slice m.a1 da.length m.c1) := ((HKq.out.on hC7).c.2 5 _ rfl).1
                    have z0 : World.cell? w7 ⟨Z, 0, none⟩ = some (.int .i64 Y) := ((HZ9.out.below hC7).2 0 _ rfl).1
                    have z1 : World.cell? w7 ⟨Z, 1, none⟩ = some (.int .i64 MM) := ((HZ9.out.below hC7).2 1 _ rfl).1
                    have z2 : World.cell? w7 ⟨Z, 2, none⟩ = some (.int .i64 DD) := ((HZ9.out.below hC7).2 2 _ rfl).1
                    clear hC7
                    go_simp
                    first
                      | done
                      | rfl
                      | exact ⟨rfl, rfl⟩
                      | (with_reducible refine (lawHasY m.a1 m.c1 da DD HQ.out w7 (HKq.out.on b7).any.mem.d (by omega)).mono ?_
                         rintro e w8 ⟨rfl, hb8⟩
                         first | exact ⟨rfl, bstep b7 hb8⟩ | (go_simp; exact bstep b7 hb8))
                      | (with_reducible refine (lawHasY m.a1 m.c1 da (DD - LL - 1) HQ2.out w7 (HKq.out.on b7).any.mem.d (by omega)).mono ?_
                         rintro e w8 ⟨rfl, hb8⟩
                         first | exact ⟨rfl, bstep b7 hb8⟩ | (go_simp; exact bstep b7 hb8))
                      | (with_reducible refine (implDim_v t Y MM LL w7 (HKq.out.on b7).any.tab t0 (by omega) HYY.out HMM.out HLL.out).mono ?_
                         rintro e w8 ⟨rfl, rfl⟩
                         first | exact ⟨rfl, b7⟩ | (go_simp; exact b7)))
                 (go_simp; go_big_quiet_on)))
            refine wpQuiet_nil ?_
            intro w7 b7
            clear HKq
            have b9 := bstep HB.out b7
            have K7 := HK5.out.on b9
            have Z7 := Hid.mk' (HZ9.out.below b7)
            have HK7 := Hid.mk' K7
            clear x4
            have x0 : World.cell? w7 ⟨X, 0, none⟩ = some (.int .i64 f) := (K7.c.2 0 _ rfl).1
            have x1 : World.cell? w7 ⟨X, 1, none⟩ = some (.int .i64 ev) := (K7.c.2 1 _ rfl).1
            have x2 : World.cell? w7 ⟨X, 2, none⟩ = some (.int .i64 ct) := (K7.c.2 2 _ rfl).1
            have x3 : World.cell? w7 ⟨X, 3, none⟩ = some (.int .i64 un) := (K7.c.2 3 _ rfl).1
            have x4 : World.cell? w7 ⟨X, 4, none⟩ = some (.slice m.a0 ds.length m.c0) := (K7.c.2 4 _ rfl).1
            have x5 : World.cell? w7 ⟨X, 5, none⟩ = some (.slice m.a1 da.length m.c1) := (K7.c.2 5 _ rfl).1
            have x6 : World.cell? w7 ⟨X, 6, none⟩ = some (.slice m.a2 mo.length m.c2) := (K7.c.2 6 _ rfl).1
            have x7 : World.cell? w7 ⟨X, 7, none⟩ = some (.slice m.a3 pl.length m.c3) := (K7.c.2 7 _ rfl).1
            have x8 : World.cell? w7 ⟨X, 8, none⟩ = some (.int .i64 wk) := (K7.c.2 8 _ rfl).1
            clear K7 b9 b7
            go_wp2_with fail
            refine (implRuleDays ⟨f, ev, ct, un, ds, da, mo, pl, wk⟩ m s t w7 HK7.out.any).mono ?_
            rintro e w10 ⟨⟨v10, rfl, O10⟩, b10⟩
            obtain ⟨va, vc, rfl, I10, _, _⟩ := O10.val
            have HK10 : Hid (RQ w X (⟨f, ev, ct, un, ds, da, mo, pl, wk⟩ : Rl) m w10) := HK7.out.on b10
            have Z10 := Hid.mk' (Z7.out.below b10)
            have HI10 := Hid.mk' I10
            have HLD := Hid.mk' (days_len ⟨f, ev, ct, un, ds, da, mo, pl, wk⟩ s t)
            clear O10 I10 b10 HK7 Z7 x0 x1 x2 x3 x4 x5 x6 x7 x8
            have HIN2 := HIN
            generalize daysL ⟨f, ev, ct, un, ds, da, mo, pl, wk⟩ s t = D at *
            have x6 : World.cell? w10 ⟨X, 6, none⟩ = some (.slice m.a2 mo.length m.c2) := (HK10.out.c.2 6 _ rfl).1
            have z1 : World.cell? w10 ⟨Z, 1, none⟩ = some (.int .i64 MM) := (Z10.out.2 1 _ rfl).1
            by_cases hmo : (mo.length : Int) = 0
            · have HB10 : Hid (Below w.heap.size w w10) := HK10.out.bel
              by_cases ht : t ∈ D
              · have HTI : Hid (t ∈ D) := ht
                clear ht
                go_wp2_with fail
                refine (lawHas va vc D t true ⟨fun _ => HTI.out, fun _ => rfl⟩ w10 HI10.out (by have := HLD.out; omega)).mono ?_
                rintro e w12 ⟨rfl, b12⟩
                have B12 := bstep HB10.out b12
                clear b12
                go_wp2
                go_ret
                exact ⟨rfl, B12⟩
              · have HTI : Hid (¬ t ∈ D) := ht
                have h200 : (D.length : Int) = 200 := by
                  rcases HIN.out with q | q
                  · exact absurd q ht
                  · omega
                have h201 : ((D.length : Int) == 200) = true := beq_iff_eq.2 h200
                clear ht
                go_wp2_with fail
                refine (lawHas va vc D t false ⟨fun q => (by cases q), fun q => absurd q HTI.out⟩ w10 HI10.out (by have := HLD.out; omega)).mono ?_
                rintro e w12 ⟨rfl, b12⟩
                have B12 := bstep HB10.out b12
                clear b12
                go_wp2
                go_ret
                exact ⟨rfl, B12⟩
            · have g3 : ((mo.length : Int) == 0) = false := beq_eq_false_iff_ne.2 hmo
              have HMI : Hid (MM ∈ mo) := by
                rcases HMO.out with q | q
                · exact absurd q (by omega)
                · exact q
              clear hmo
              go_wp2_with fail
              refine (lawHas m.a2 m.c2 mo MM true ⟨fun _ => HMI.out, fun _ => rfl⟩ w10 HK10.out.any.mem.o (by omega)).mono ?_
              rintro e w11 ⟨rfl, b11⟩
              have HB11 : Hid (Below w.heap.size w w11) := bstep HK10.out.bel b11
              have HI11 := Hid.mk' (HI10.out.below b11)
              clear b11 x6 z1
              by_cases ht : t ∈ D
              · have HTI : Hid (t ∈ D) := ht
                clear ht
                go_wp2_with fail
                refine (lawHas va vc D t true ⟨fun _ => HTI.out, fun _ => rfl⟩ w11 HI11.out (by have := HLD.out; omega)).mono ?_
                rintro e w12 ⟨rfl, b12⟩
                have B12 := bstep HB11.out b12
                clear b12
                go_wp2
                go_ret
                exact ⟨rfl, B12⟩
              · have HTI : Hid (¬ t ∈ D) := ht
                have h200 : (D.length : Int) = 200 := by
                  rcases HIN.out with q | q
                  · exact absurd q ht
                  · omega
                have h201 : ((D.length : Int) == 200) = true := beq_iff_eq.2 h200
                clear ht
                go_wp2_with fail
                refine (lawHas va vc D t false ⟨fun q => (by cases q), fun q => absurd q HTI.out⟩ w11 HI11.out (by have := HLD.out; omega)).mono ?_
                rintro e w12 ⟨rfl, b12⟩
                have B12 := bstep HB11.out b12
                clear b12
                go_wp2
                go_ret
                exact ⟨rfl, B12⟩
          · have HQ : Hid (¬ DD ∈ da) := hdd
            have HQ2 : Hid (DD - LL - 1 ∈ da) := by
              rcases HDA.out with q | q | q
              · exact absurd q (by omega)
              · exact absurd q hdd
              · exact q
            clear hdd hda
            have HKq : Hid (RQ w X (⟨f, ev, ct, un, ds, da, mo, pl, wk⟩ : Rl) m w9) := HK5.out.on HB.out
            go_wp2
            refine wp_region_cl (fun w' => Below w9.heap.size w9 w') (by kernel_rfl) (by kernel_rfl) (Below.refl _ _).drew ?_
            repeat (first
              | go_big_quiet_skip
              | (go_big_quiet_want; go_big_quiet_op; go_big_quiet_on)
              | (go_big_quiet_want
                 apply Exists.intro
                 refine ⟨fun w7 hC7 => ?_, ?_⟩
                 · (have b7 := hC7
                    have y5 : World.cell? w7 ⟨X, 5, none⟩ = some (.slice m.a1 da.length m.c1) := ((HKq.out.on hC7).c.2 5 _ rfl).1
                    have z0 : World.cell? w7 ⟨Z, 0, none⟩ = some (.int .i64 Y) := ((HZ9.out.below hC7).2 0 _ rfl).1
                    have z1 : World.cell? w7 ⟨Z, 1, none⟩ = some (.int .i64 MM) := ((HZ9.out.below hC7).2 1 _ rfl).1
                    have z2 : World.cell? w7 ⟨Z, 2, none⟩ = some (.int .i64 DD) := ((HZ9.out.below hC7).2 2 _ rfl).1
                    clear hC7
                    go_simp
                    first
                      | done
                      | rfl
                      | exact ⟨rfl, rfl⟩
                      | (with_reducible refine (lawHasN m.a1 m.c1 da DD HQ.out w7 (HKq.out.on b7).any.mem.d (by omega)).mono ?_
                         rintro e w8 ⟨rfl, hb8⟩
                         first | exact ⟨rfl, bstep b7 hb8⟩ | (go_simp; exact bstep b7 hb8))
                      | (with_reducible refine (lawHasY m.a1 m.c1 da (DD - LL - 1) HQ2.out w7 (HKq.out.on b7).any.mem.d (by omega)).mono ?_
                         rintro e w8 ⟨rfl, hb8⟩
                         first | exact ⟨rfl, bstep b7 hb8⟩ | (go_simp; exact bstep b7 hb8))
                      | (with_reducible refine (implDim_v t Y MM LL w7 (HKq.out.on b7).any.tab t0 (by omega) HYY.out HMM.out HLL.out).mono ?_
                         rintro e w8 ⟨rfl, rfl⟩
                         first | exact ⟨rfl, b7⟩ | (go_simp; exact b7)))
                 (go_simp; go_big_quiet_on)))
            refine wpQuiet_nil ?_
            intro w7 b7
            clear HKq
            have b9 := bstep HB.out b7
            have K7 := HK5.out.on b9
            have Z7 := Hid.mk' (HZ9.out.below b7)
            have HK7 := Hid.mk' K7
            clear x4
            have x0 : World.cell? w7 ⟨X, 0, none⟩ = some (.int .i64 f) := (K7.c.2 0 _ rfl).1
            have x1 : World.cell? w7 ⟨X, 1, none⟩ = some (.int .i64 ev) := (K7.c.2 1 _ rfl).1
            have x2 : World.cell? w7 ⟨X, 2, none⟩ = some (.int .i64 ct) := (K7.c.2 2 _ rfl).1
            have x3 : World.cell? w7 ⟨X, 3, none⟩ = some (.int .i64 un) := (K7.c.2 3 _ rfl).1
            have x4 : World.cell? w7 ⟨X, 4, none⟩ = some (.slice m.a0 ds.length m.c0) := (K7.c.2 4 _ rfl).1
            have x5 : World.cell? w7 ⟨X, 5, none⟩ = some (.slice m.a1 da.length m.c1) := (K7.c.2 5 _ rfl).1
            have x6 : World.cell? w7 ⟨X, 6, none⟩ = some (.slice m.a2 mo.length m.c2) := (K7.c.2 6 _ rfl).1
            have x7 : World.cell? w7 ⟨X, 7, none⟩ = some (.slice m.a3 pl.length m.c3) := (K7.c.2 7 _ rfl).1
            have x8 : World.cell? w7 ⟨X, 8, none⟩ = some (.int .i64 wk) := (K7.c.2 8 _ rfl).1
            clear K7 b9 b7
            go_wp2_with fail
            refine (implRuleDays ⟨f, ev, ct, un, ds, da, mo, pl, wk⟩ m s t w7 HK7.out.any).mono ?_
            rintro e w10 ⟨⟨v10, rfl, O10⟩, b10⟩
            obtain ⟨va, vc, rfl, I10, _, _⟩ := O10.val
            have HK10 : Hid (RQ w X (⟨f, ev, ct, un, ds, da, mo, pl, wk⟩ : Rl) m w10) := HK7.out.on b10
            have Z10 := Hid.mk' (Z7.out.below b10)
            have HI10 := Hid.mk' I10
            have HLD := Hid.mk' (days_len ⟨f, ev, ct, un, ds, da, mo, pl, wk⟩ s t)
            clear O10 I10 b10 HK7 Z7 x0 x1 x2 x3 x4 x5 x6 x7 x8
            have HIN2 := HIN
            generalize daysL ⟨f, ev, ct, un, ds, da, mo, pl, wk⟩ s t = D at *
            have x6 : World.cell? w10 ⟨X, 6, none⟩ = some (.slice m.a2 mo.length m.c2) := (HK10.out.c.2 6 _ rfl).1
            have z1 : World.cell? w10 ⟨Z, 1, none⟩ = some (.int .i64 MM) := (Z10.out.2 1 _ rfl).1
            by_cases hmo : (mo.length : Int) = 0
            · have HB10 : Hid (Below w.heap.size w w10) := HK10.out.bel
              by_cases ht : t ∈ D
              · have HTI : Hid (t ∈ D) := ht
                clear ht
                go_wp2_with fail
                refine (lawHas va vc D t true ⟨fun _ => HTI.out, fun _ => rfl⟩ w10 HI10.out (by have := HLD.out; omega)).mono ?_
                rintro e w12 ⟨rfl, b12⟩
                have B12 := bstep HB10.out b12
                clear b12
                go_wp2
                go_ret
                exact ⟨rfl, B12⟩
              · have HTI : Hid (¬ t ∈ D) := ht
                have h200 : (D.length : Int) = 200 := by
                  rcases HIN.out with q | q
                  · exact absurd q ht
                  · omega
                have h201 : ((D.length : Int) == 200) = true := beq_iff_eq.2 h200
                clear ht
                go_wp2_with fail
                refine (lawHas va vc D t false ⟨fun q => (by cases q), fun q => absurd q HTI.out⟩ w10 HI10.out (by have := HLD.out; omega)).mono ?_
                rintro e w12 ⟨rfl, b12⟩
                have B12 := bstep HB10.out b12
                clear b12
                go_wp2
                go_ret
                exact ⟨rfl, B12⟩
            · have g3 : ((mo.length : Int) == 0) = false := beq_eq_false_iff_ne.2 hmo
              have HMI : Hid (MM ∈ mo) := by
                rcases HMO.out with q | q
                · exact absurd q (by omega)
                · exact q
              clear hmo
              go_wp2_with fail
              refine (lawHas m.a2 m.c2 mo MM true ⟨fun _ => HMI.out, fun _ => rfl⟩ w10 HK10.out.any.mem.o (by omega)).mono ?_
              rintro e w11 ⟨rfl, b11⟩
              have HB11 : Hid (Below w.heap.size w w11) := bstep HK10.out.bel b11
              have HI11 := Hid.mk' (HI10.out.below b11)
              clear b11 x6 z1
              by_cases ht : t ∈ D
              · have HTI : Hid (t ∈ D) := ht
                clear ht
                go_wp2_with fail
                refine (lawHas va vc D t true ⟨fun _ => HTI.out, fun _ => rfl⟩ w11 HI11.out (by have := HLD.out; omega)).mono ?_
                rintro e w12 ⟨rfl, b12⟩
                have B12 := bstep HB11.out b12
                clear b12
                go_wp2
                go_ret
                exact ⟨rfl, B12⟩
              · have HTI : Hid (¬ t ∈ D) := ht
                have h200 : (D.length : Int) = 200 := by
                  rcases HIN.out with q | q
                  · exact absurd q ht
                  · omega
                have h201 : ((D.length : Int) == 200) = true := beq_iff_eq.2 h200
                clear ht
                go_wp2_with fail
                refine (lawHas va vc D t false ⟨fun q => (by cases q), fun q => absurd q HTI.out⟩ w11 HI11.out (by have := HLD.out; omega)).mono ?_
                rintro e w12 ⟨rfl, b12⟩
                have B12 := bstep HB11.out b12
                clear b12
                go_wp2
                go_ret
                exact ⟨rfl, B12⟩
end Go.Proofs.YtlfglhpepoepcaaDoor
