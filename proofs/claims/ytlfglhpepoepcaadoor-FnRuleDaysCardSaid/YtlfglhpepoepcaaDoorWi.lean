/- What the specification draws: a rule and two days. -/
import Derived.Test.YtlfglhpepoepcaaDoorWf
import Derived.Test.YtlfglhpepoepcaaDoorCls
import Derived.Deep.RegionHeld3
import Derived.Deep.DeepCutAuto
import Derived.Deep.MidRow
import Derived.Deep.CutBlock
namespace Go.Proofs.YtlfglhpepoepcaaDoor
open Go.RowKit
set_option linter.unusedVariables false
/-- What stands while a rule and two days are drawn: the answer's block R, the reader in the next, the rule's own block X, and its lists. -/
structure RD (w0 : World) (X L : Nat) (r : Rl) (m : Rm) (W : World) : Prop where
  rd : Rd W (w0.heap.size + 1) L
  z : CF W w0.heap.size (rcs ⟨0, 0, 0, 0, [], [], [], [], 0⟩ ⟨none, 0, none, 0, none, 0, none, 0⟩)
  c : CF W X (rcs r m)
  rx : w0.heap.size + 1 < X
  l : OL (w0.heap.size + 2) r m W
  b : But (w0.heap.size + 1) w0.heap.size w0 W
theorem RD.step {w0 W W' : World} {X L L' : Nat} {r : Rl} {m : Rm} (h : RD w0 X L r m W) (hb : But (w0.heap.size + 1) W.heap.size W W') (hr : Rd W' (w0.heap.size + 1) L') : RD w0 X L' r m W' := by
  have h3 := h.rx
  exact ⟨hr, h.z.but hb (by omega), h.c.but hb (by omega), h3, h.l.keep fun g h4 h5 => hb.block g h5 (by omega), h.b.trans (hb.mono h.b.size)⟩
theorem RD.al {w0 W : World} {X L : Nat} {r : Rl} {m : Rm} (h : RD w0 X L r m W) (o : Obj) : RD w0 X L r m (W.alloc o) :=
  h.step (But.of_below ((Below.refl _ _).alloc (Nat.le_refl _) o)) (h.rd.below ((Below.refl _ _).alloc (Nat.le_refl _) o))
theorem RD.dr {w0 W : World} {X L : Nat} {r : Rl} {m : Rm} (h : RD w0 X L r m W) : RD w0 X L r m W.drew :=
  h.step (But.of_below (Below.refl _ _).drew) (h.rd.below (Below.refl _ _).drew)
theorem size_setCells_own (b : Nat) : ∀ (vs : List Value) (o : Nat) (w : World), (w.setCells b o vs).heap.size = w.heap.size := by
  intro vs
  induction vs with
  | nil => intro o w; rfl
  | cons v vs ih => intro o w; rw [World.setCells, ih]; simp
theorem CF.setCells {W : World} {b : Nat} {xs : Array Value} (h : CF W b xs) (vs : Array Value) (hs : vs.size = xs.size) : CF (W.setCells b 0 vs.toList) b vs := by
  refine ⟨by rw [size_setCells_own]; exact h.1, fun i v hv => ⟨?_, ?_⟩⟩
  · have hi : i < vs.toList.length := by have := (Array.getElem?_eq_some_iff.1 hv).1; simpa using this
    have := World.cell?_setCells_in b vs.toList 0 W (fun j hj => by
      have hj2 : j < xs.size := by rw [← hs]; simpa using hj
      have := (h.2 j xs[j] (by simp [hj2])).1
      rw [Nat.zero_add, this]; rfl) i hi
    rw [Nat.zero_add] at this
    rw [this]
    obtain ⟨h1, h2⟩ := Array.getElem?_eq_some_iff.1 hv
    simp [h2]
  · rw [World.frozen?_setCells]
    have hi : i < xs.size := by rw [← hs]; exact (Array.getElem?_eq_some_iff.1 hv).1
    exact (h.2 i xs[i] (by simp [hi])).2
theorem CF.apart {b b' : Nat} {xs : Array Value} (hb : b ≠ b') : ∀ (vs : List Value) (o : Nat) (W : World), CF W b xs → CF (W.setCells b' o vs) b xs := by
  intro vs
  induction vs with
  | nil => intro o W h; exact h
  | cons v vs ih => intro o W h; exact ih (o + 1) _ (h.other o v hb)
theorem OL.setCells {B b : Nat} {r : Rl} {m : Rm} (hb : b < B) : ∀ (vs : List Value) (o : Nat) (W : World), OL B r m W → OL B r m (W.setCells b o vs) := by
  intro vs
  induction vs with
  | nil => intro o W h; exact h
  | cons v vs ih => intro o W h; exact ih (o + 1) _ (h.low (p := ⟨b, o, none⟩) hb v)
theorem But.setCells {rb B b : Nat} {w : World} (hb : B ≤ b) : ∀ (vs : List Value) (o : Nat) (W : World), But rb B w W → But rb B w (W.setCells b o vs) := by
  intro vs
  induction vs with
  | nil => intro o W h; exact h
  | cons v vs ih => intro o W h; exact ih (o + 1) _ (h.setCell (p := ⟨b, o, none⟩) (.inl hb) v)
theorem CF.range {W : World} {b : Nat} {xs : Array Value} (h : CF W b xs) : W.rangeAt b 0 xs.toList := fun j v hv => by
  rw [Nat.zero_add]; exact (h.2 j v (by simpa using hv)).1
theorem CF.there {W : World} {b : Nat} {xs : Array Value} (h : CF W b xs) (n : Nat) (hn : n = xs.size) : W.there b 0 n := fun j hj => by
  have hj2 : j < xs.size := by omega
  obtain ⟨h1, h2⟩ := h.2 j xs[j] (by simp [hj2])
  rw [Nat.zero_add]
  exact ⟨by rw [h1]; rfl, h2⟩
theorem step_store_mid {P : Program} {w : World} {ops : Array Oper} {o : Oper} {a : Act} {K : Act → World → Prop} {Q : Exit → Act → World → Prop} {E : Prop} (hgd : o.guard = none) (ty : TypeId) (x y : Operand) (ho : o.op = .store ty x y)
    (b off : Nat) (cells : Array Value) (hx : a.eval x = .pointer (some ⟨b, off, none⟩)) (hy : a.eval y = .agg cells)
    (ht : w.there b off cells.size) (hi : (P.info? ty).map (·.size) = some cells.size) (h1 : cells.all (·.oneCell') = true)
    (h : K (a.put o.dst undef) (w.setCells b off cells.toList)) : if Region.wanted o (yielded ops a.tmps) = true then Oper.wp P o a w K Q else E := by
  have hw : Region.wanted o (yielded ops a.tmps) = true := by simp [Region.wanted, hgd]
  rw [if_pos hw]
  exact wp_store_mid ty x y ho b off cells hx hy ht hi h1 h
theorem ruleSize : (Tryd.prog.info? 26).map (fun i => i.size) = some 9 := by kernel_rfl
theorem start_any (w : World) (rb L : Nat) (h : Rd w rb L) (hL : L ≤ 1099511627776) :
    Calls Tryd.prog 35 #[.pointer (some ⟨rb, 0, none⟩)] w fun e w' => (∃ r : Int, e = .returned (.int .i64 r) ∧ 739600 ≤ r ∧ r ≤ 739855) ∧ Rd w' rb (L + 1) ∧ But rb w.heap.size w w' := by
  go_enter Tryd.func35, Tryd.ntmps35
  go_wp2_with fail
  refine (pick_pos _ w rb L h hL (by omega)).mono ?_
  rintro e w1 ⟨⟨x, rfl, x0, x1⟩, r1, b1⟩
  have g1 := IntWalk.i64_in (739600 + x) (by omega)
  go_wp2
  go_ret
  exact ⟨⟨_, rfl, by omega, by omega⟩, r1, b1⟩
set_option maxRecDepth 100000 in
set_option maxHeartbeats 16000000 in
theorem drawRuleDays (w : World) (a : Option Addr) (len cap : Nat) (h : IsCode w a len cap) :
    Calls Tryd.prog 17 #[.slice a len cap] w fun e w' => ∃ r m s t, e = .returned (.tuple #[.agg (rcs r m), .int .i64 s, .int .i64 t]) ∧ OL w.heap.size r m w' ∧ Sml 4 r ∧ (-1 ≤ s ∧ s ≤ 3652058) ∧ (0 ≤ t ∧ t ≤ 3652058) ∧ Below w.heap.size w w' := by
  have bz : Below w.heap.size w (w.alloc (.cells (rcs ⟨0, 0, 0, 0, [], [], [], [], 0⟩ ⟨none, 0, none, 0, none, 0, none, 0⟩) 26)) := (Below.refl _ _).alloc (Nat.le_refl _) _
  have h0 : IsCode (w.alloc (.cells (rcs ⟨0, 0, 0, 0, [], [], [], [], 0⟩ ⟨none, 0, none, 0, none, 0, none, 0⟩) 26)) a len cap := h.below bz
  have Z0 : CF (w.alloc (.cells (rcs ⟨0, 0, 0, 0, [], [], [], [], 0⟩ ⟨none, 0, none, 0, none, 0, none, 0⟩) 26)) w.heap.size (rcs ⟨0, 0, 0, 0, [], [], [], [], 0⟩ ⟨none, 0, none, 0, none, 0, none, 0⟩) := CF.new w _ _
  have S0 : Hid ((w.alloc (.cells (rcs ⟨0, 0, 0, 0, [], [], [], [], 0⟩ ⟨none, 0, none, 0, none, 0, none, 0⟩) 26)).heap.size = w.heap.size + 1) := by unfold Hid; simp
  have HW0 : Hid (w.alloc (.cells (rcs ⟨0, 0, 0, 0, [], [], [], [], 0⟩ ⟨none, 0, none, 0, none, 0, none, 0⟩) 26) = w.alloc (.cells #[.int .i64 0, .int .i64 0, .int .i64 0, .int .i64 0, .slice none 0 0, .slice none 0 0, .slice none 0 0, .slice none 0 0, .int .i64 0] 26)) := rfl
  generalize w.alloc (.cells (rcs ⟨0, 0, 0, 0, [], [], [], [], 0⟩ ⟨none, 0, none, 0, none, 0, none, 0⟩) 26) = W0 at bz h0 Z0 S0 HW0
  clear h
  go_enter Tryd.func17, Tryd.ntmps17
  go_wp2_with fail
  rw [← HW0.out]
  refine (open_any W0 a len cap h0).mono ?_
  rintro e w1 ⟨rfl, r1, b1⟩
  have hs1 := r1.size
  have ss := S0.out
  rw [ss] at r1 hs1
  have Z1 := Z0.below b1
  have B1 : Below w.heap.size w w1 := bz.trans (b1.mono (by omega))
  clear h0 Z0 S0 HW0
  go_wp2_with fail
  refine (anyrule_any w1 _ 0 r1 (by omega)).mono ?_
  rintro e w2 ⟨⟨r, m, rfl, O2, sm⟩, r2, b2⟩
  have hrc : rcs r m = #[.int .i64 r.f, .int .i64 r.ev, .int .i64 r.ct, .int .i64 r.un, .slice m.a0 r.ds.length m.c0, .slice m.a1 r.da.length m.c1, .slice m.a2 r.mo.length m.c2, .slice m.a3 r.pl.length m.c3, .int .i64 r.wk] := rfl
  rw [hrc]
  clear hrc
  have SM : Hid (Sml 4 r) := sm
  have k2 := b2.size
  have K3 : Hid (RD w w2.heap.size 64 r m (w2.alloc (.cells #[.int .i64 r.f, .int .i64 r.ev, .int .i64 r.ct, .int .i64 r.un, .slice m.a0 r.ds.length m.c0, .slice m.a1 r.da.length m.c1, .slice m.a2 r.mo.length m.c2, .slice m.a3 r.pl.length m.c3, .int .i64 r.wk] 26))) := by
    have bA : Below w2.heap.size w2 (w2.alloc (.cells #[.int .i64 r.f, .int .i64 r.ev, .int .i64 r.ct, .int .i64 r.un, .slice m.a0 r.ds.length m.c0, .slice m.a1 r.da.length m.c1, .slice m.a2 r.mo.length m.c2, .slice m.a3 r.pl.length m.c3, .int .i64 r.wk] 26)) := (Below.refl _ _).alloc (Nat.le_refl _) _
    exact ⟨by simpa using r2.below bA, (Z1.but b2 (by omega)).below bA, CF.new _ _ _, by omega, (O2.down (by omega)).keep fun g h4 h5 => bA.block g h5, ((But.of_below B1).trans (b2.mono (by omega))).trans ((But.of_below bA).mono (by omega))⟩
  clear r1 b1 hs1 ss Z1 B1 bz r2 b2 O2 sm
  go_wp2_with fail
  generalize w2.alloc (.cells #[.int .i64 r.f, .int .i64 r.ev, .int .i64 r.ct, .int .i64 r.un, .slice m.a0 r.ds.length m.c0, .slice m.a1 r.da.length m.c1, .slice m.a2 r.mo.length m.c2, .slice m.a3 r.pl.length m.c3, .int .i64 r.wk] 26) = W3 at K3 ⊢
  generalize w2.heap.size = X at K3 ⊢
  refine (start_any W3 _ _ K3.out.rd (by omega)).mono ?_
  rintro e w4 ⟨⟨s, rfl, s0, s1⟩, r4, b4⟩
  have K4 : Hid (RD w X 65 r m w4) := K3.out.step b4 r4
  clear K3 r4 b4
  go_wp2_with fail
  refine (pick_pos _ w4 _ _ K4.out.rd (by omega) (by omega)).mono ?_
  rintro e w5 ⟨⟨q, rfl, q0, q1⟩, r5, b5⟩
  have K5 : Hid (RD w X 66 r m w5) := K4.out.step b5 r5
  clear K4 r5 b5
  by_cases e0 : q = 0
  · subst e0
    go_upto_region 5 with fail
    have KD : Hid (RD w X 66 r m w5.drew) := K5.out.dr
    refine wp_region_held_drew (S := (fun w' => CF w' X #[.int .i64 r.f, .int .i64 r.ev, .int .i64 r.ct, .int .i64 r.un, .slice m.a0 r.ds.length m.c0, .slice m.a1 r.da.length m.c1, .slice m.a2 r.mo.length m.c2, .slice m.a3 r.pl.length m.c3, .int .i64 r.wk])) (by kernel_rfl) KD.out.c (fun hHeld => ?_)
    refine wpAnyH_take (i := 0) (oi := { dst := some 17, op := Op.load 26 (Operand.tmp 6), type := 26, pos := "l12_draw.go:344", after := #[], guard := none }) (v := .agg ([.int .i64 r.f, .int .i64 r.ev, .int .i64 r.ct, .int .i64 r.un, .slice m.a0 r.ds.length m.c0, .slice m.a1 r.da.length m.c1, .slice m.a2 r.mo.length m.c2, .slice m.a3 r.pl.length m.c3, .int .i64 r.wk] : List Value).toArray) rfl (by kernel_rfl) (by kernel_rfl) (by kernel_rfl) (fun _ _ _ h => h) (yieldsIf_load_mid rfl 26 (.tmp 6) rfl X 0 rfl [.int .i64 r.f, .int .i64 r.ev, .int .i64 r.ct, .int .i64 r.un, .slice m.a0 r.ds.length m.c0, .slice m.a1 r.da.length m.c1, .slice m.a2 r.mo.length m.c2, .slice m.a3 r.pl.length m.c3, .int .i64 r.wk] _ (fun w' hb => CF.range hb) Tryd.underlying26 rfl ruleSize) hHeld ?_
    (try simp only [Act.put, List.setIfInBounds_toArray, List.set_cons_zero, List.set_cons_succ])
    refine wpAnyH_take (i := 1) (oi := { dst := some 18, op := Op.move (Operand.tmp 5), type := 44, pos := "l12_draw.go:344", after := #[], guard := none }) (v := ?_) rfl (by kernel_rfl) (by kernel_rfl) (by kernel_rfl) (fun _ _ _ h => h) (Or.inl ⟨by rfl, ?_⟩) hHeld ?_
    rotate_left
    · (intro w7 hC7; go_simp; first | done | rfl)
    (try simp only [Act.put, List.setIfInBounds_toArray, List.set_cons_zero, List.set_cons_succ])
    refine wpAnyH_take (i := 4) (oi := { dst := some 21, op := Op.move (Operand.tmp 5), type := 44, pos := "l12_draw.go:344", after := #[], guard := none }) (v := ?_) rfl (by kernel_rfl) (by kernel_rfl) (by kernel_rfl) (fun _ _ _ h => h) (Or.inl ⟨by rfl, ?_⟩) hHeld ?_
    rotate_left
    · (intro w7 hC7; go_simp; first | done | rfl)
    (try simp only [Act.put, List.setIfInBounds_toArray, List.set_cons_zero, List.set_cons_succ])
    refine wpAnyH_ready (rs := [2, 5]) (by kernel_rfl) (by simp) ?_
    refine AllReadyH.cons (o := { dst := some 19, op := Op.buildSlice 24 4 #[(0, Operand.const (Value.int IntKind.i64 0)), (1, Operand.const (Value.int IntKind.i64 3652053)), (2, Operand.const (Value.int IntKind.i64 (-1))), (3, Operand.const (Value.int IntKind.i64 5))], type := 24, pos := "l12_draw.go:344", after := #[], guard := none }) rfl (fun K hK => ?_) ?_
    · go_simp
      refine hK.out _ _ (KD.out.al _).c (fun hHeld => ?_)
      clear hK K
      (try simp only [Act.put, List.setIfInBounds_toArray, List.set_cons_zero, List.set_cons_succ])
      refine wpAnyH_ready (rs := [3, 5]) (by kernel_rfl) (by simp) ?_
      refine AllReadyH.cons (o := { dst := some 20, op := Op.call { callee := Callee.value (Operand.func 37), args := #[Operand.tmp 18, Operand.tmp 19], argTypes := #[44, 24] }, type := 3, pos := "l12_draw.go:344", after := #[{ on := 1, ground := Ground.data }, { on := 2, ground := Ground.data }], guard := none }) rfl (fun K hK => ?_) ?_
      · go_simp
        go_at_call 37
        refine (one_list w5.drew _ _ KD.out.rd (by omega) 4 [0, 3652053, -1, 5] rfl (by omega) (by omega) _ rfl).mono ?_
        rintro e w6 ⟨⟨x, rfl, hx⟩, hr6, hb6⟩
        have K6 : Hid (RD w X 67 r m w6) := KD.out.step hb6 hr6
        refine hK.out _ _ K6.out.c (fun hHeld => ?_)
        clear hK K
        (try simp only [Act.put, List.setIfInBounds_toArray, List.set_cons_zero, List.set_cons_succ])
        refine wpAnyH_ready (rs := [5]) (by kernel_rfl) (by simp) ?_
        refine AllReadyH.cons (o := { dst := some 22, op := Op.buildSlice 24 4 #[(0, Operand.const (Value.int IntKind.i64 3652058)), (1, Operand.const (Value.int IntKind.i64 400)), (2, Operand.const (Value.int IntKind.i64 11001)), (3, Operand.const (Value.int IntKind.i64 11000))], type := 24, pos := "l12_draw.go:344", after := #[], guard := none }) rfl (fun K hK => ?_) ?_
        · go_simp
          refine hK.out _ _ (K6.out.al _).c (fun hHeld => ?_)
          clear hK K
          (try simp only [Act.put, List.setIfInBounds_toArray, List.set_cons_zero, List.set_cons_succ])
          refine wpAnyH_ready (rs := [6]) (by kernel_rfl) (by simp) ?_
          refine AllReadyH.cons (o := { dst := some 23, op := Op.call { callee := Callee.value (Operand.func 37), args := #[Operand.tmp 21, Operand.tmp 22], argTypes := #[44, 24] }, type := 3, pos := "l12_draw.go:344", after := #[{ on := 4, ground := Ground.data }, { on := 5, ground := Ground.data }, { on := 3, ground := Ground.chain }], guard := none }) rfl (fun K hK => ?_) ?_
          · go_simp
            go_at_call 37
            refine (one_list w6 _ _ K6.out.rd (by omega) 4 [3652058, 400, 11001, 11000] rfl (by omega) (by omega) _ rfl).mono ?_
            rintro e w8 ⟨⟨y, rfl, hy⟩, hr8, hb8⟩
            have K8 : Hid (RD w X 68 r m w8) := K6.out.step hb8 hr8
            refine hK.out _ _ K8.out.c (fun hHeld => ?_)
            clear hK K
            (try simp only [Act.put, List.setIfInBounds_toArray, List.set_cons_zero, List.set_cons_succ])
            refine wpAnyH_ready (rs := [7]) (by kernel_rfl) (by simp) ?_
            refine AllReadyH.cons (o := { dst := none, op := Op.store 26 (Operand.tmp 2) (Operand.tmp 17), type := 0, pos := "l12_draw.go:344", after := #[{ on := 0, ground := Ground.data }, { on := 6, ground := Ground.chain }, { on := 0, ground := Ground.phase }, { on := 1, ground := Ground.textOnly Departure.lateStores }, { on := 2, ground := Ground.textOnly Departure.lateStores }, { on := 3, ground := Ground.textOnly Departure.lateStoresUnsure }, { on := 4, ground := Ground.textOnly Departure.lateStores }, { on := 5, ground := Ground.textOnly Departure.lateStores }, { on := 6, ground := Ground.textOnly Departure.lateStoresUnsure }], guard := none }) rfl (fun K hK => ?_) ?_
            · refine step_store_mid (by rfl) 26 _ _ (by rfl) w.heap.size 0 #[.int .i64 r.f, .int .i64 r.ev, .int .i64 r.ct, .int .i64 r.un, .slice m.a0 r.ds.length m.c0, .slice m.a1 r.da.length m.c1, .slice m.a2 r.mo.length m.c2, .slice m.a3 r.pl.length m.c3, .int .i64 r.wk] (by rfl) (by rfl) (K8.out.z.there _ rfl) ruleSize (by simp [Value.oneCell']) ?_
              have SX : CF (w8.setCells w.heap.size 0 (#[.int .i64 r.f, .int .i64 r.ev, .int .i64 r.ct, .int .i64 r.un, .slice m.a0 r.ds.length m.c0, .slice m.a1 r.da.length m.c1, .slice m.a2 r.mo.length m.c2, .slice m.a3 r.pl.length m.c3, .int .i64 r.wk] : Array Value).toList) X #[.int .i64 r.f, .int .i64 r.ev, .int .i64 r.ct, .int .i64 r.un, .slice m.a0 r.ds.length m.c0, .slice m.a1 r.da.length m.c1, .slice m.a2 r.mo.length m.c2, .slice m.a3 r.pl.length m.c3, .int .i64 r.wk] := CF.apart (by have := K8.out.rx; omega) _ _ _ K8.out.c
              have FR : CF (w8.setCells w.heap.size 0 (#[.int .i64 r.f, .int .i64 r.ev, .int .i64 r.ct, .int .i64 r.un, .slice m.a0 r.ds.length m.c0, .slice m.a1 r.da.length m.c1, .slice m.a2 r.mo.length m.c2, .slice m.a3 r.pl.length m.c3, .int .i64 r.wk] : Array Value).toList) w.heap.size #[.int .i64 r.f, .int .i64 r.ev, .int .i64 r.ct, .int .i64 r.un, .slice m.a0 r.ds.length m.c0, .slice m.a1 r.da.length m.c1, .slice m.a2 r.mo.length m.c2, .slice m.a3 r.pl.length m.c3, .int .i64 r.wk] := K8.out.z.setCells #[.int .i64 r.f, .int .i64 r.ev, .int .i64 r.ct, .int .i64 r.un, .slice m.a0 r.ds.length m.c0, .slice m.a1 r.da.length m.c1, .slice m.a2 r.mo.length m.c2, .slice m.a3 r.pl.length m.c3, .int .i64 r.wk] rfl
              have FIN : Hid (OL w.heap.size r m (w8.setCells w.heap.size 0 (#[.int .i64 r.f, .int .i64 r.ev, .int .i64 r.ct, .int .i64 r.un, .slice m.a0 r.ds.length m.c0, .slice m.a1 r.da.length m.c1, .slice m.a2 r.mo.length m.c2, .slice m.a3 r.pl.length m.c3, .int .i64 r.wk] : Array Value).toList) ∧ Below w.heap.size w (w8.setCells w.heap.size 0 (#[.int .i64 r.f, .int .i64 r.ev, .int .i64 r.ct, .int .i64 r.un, .slice m.a0 r.ds.length m.c0, .slice m.a1 r.da.length m.c1, .slice m.a2 r.mo.length m.c2, .slice m.a3 r.pl.length m.c3, .int .i64 r.wk] : Array Value).toList)) := ⟨(OL.setCells (by omega) _ _ _ K8.out.l).down (by omega), (But.setCells (Nat.le_refl _) _ _ _ K8.out.b).below (by omega)⟩
              generalize w8.setCells w.heap.size 0 (#[.int .i64 r.f, .int .i64 r.ev, .int .i64 r.ct, .int .i64 r.un, .slice m.a0 r.ds.length m.c0, .slice m.a1 r.da.length m.c1, .slice m.a2 r.mo.length m.c2, .slice m.a3 r.pl.length m.c3, .int .i64 r.wk] : Array Value).toList = WF at SX FR FIN ⊢
              refine hK.out _ _ SX (fun hHeld => ?_)
              clear hK K
              (try simp only [Act.put])
              refine wpAnyH_take (i := 8) (oi := { dst := some 3, op := Op.assign (Operand.tmp 20), type := 3, pos := "l12_draw.go:344", after := #[{ on := 3, ground := Ground.data }, { on := 7, ground := Ground.chain }, { on := 0, ground := Ground.phase }, { on := 1, ground := Ground.phase }, { on := 2, ground := Ground.phase }, { on := 3, ground := Ground.phase }, { on := 4, ground := Ground.textOnly Departure.lateStores }, { on := 5, ground := Ground.textOnly Departure.lateStores }, { on := 6, ground := Ground.textOnly Departure.lateStoresUnsure }, { on := 7, ground := Ground.phase }], guard := none }) (v := ?_) rfl (by kernel_rfl) (by kernel_rfl) (by kernel_rfl) (fun _ _ _ h => h) (Or.inl ⟨by rfl, ?_⟩) hHeld ?_
              rotate_left
              · (intro w7 hC7; go_simp; first | done | rfl)
              (try simp only [Act.put, List.setIfInBounds_toArray, List.set_cons_zero, List.set_cons_succ])
              refine wpAnyH_take (i := 9) (oi := { dst := some 4, op := Op.assign (Operand.tmp 23), type := 3, pos := "l12_draw.go:344", after := #[{ on := 6, ground := Ground.data }, { on := 8, ground := Ground.chain }, { on := 0, ground := Ground.phase }, { on := 1, ground := Ground.phase }, { on := 2, ground := Ground.phase }, { on := 3, ground := Ground.phase }, { on := 4, ground := Ground.phase }, { on := 5, ground := Ground.phase }, { on := 6, ground := Ground.phase }, { on := 7, ground := Ground.phase }, { on := 8, ground := Ground.phase }], guard := none }) (v := ?_) rfl (by kernel_rfl) (by kernel_rfl) (by kernel_rfl) (fun _ _ _ h => h) (Or.inl ⟨by rfl, ?_⟩) hHeld ?_
              rotate_left
              · (intro w7 hC7; go_simp; first | done | rfl)
              (try simp only [Act.put, List.setIfInBounds_toArray, List.set_cons_zero, List.set_cons_succ])
              refine wpAnyH_done (by kernel_rfl) ?_ _
              have z0 := (FR.2 0 _ rfl).1
              have z1 := (FR.2 1 _ rfl).1
              have z2 := (FR.2 2 _ rfl).1
              have z3 := (FR.2 3 _ rfl).1
              have z4 := (FR.2 4 _ rfl).1
              have z5 := (FR.2 5 _ rfl).1
              have z6 := (FR.2 6 _ rfl).1
              have z7 := (FR.2 7 _ rfl).1
              have z8 := (FR.2 8 _ rfl).1
              clear SX FR hHeld
              go_wp2
              refine bodyPost_ret (v := .tuple #[.agg #[.int .i64 r.f, .int .i64 r.ev, .int .i64 r.ct, .int .i64 r.un, .slice m.a0 r.ds.length m.c0, .slice m.a1 r.da.length m.c1, .slice m.a2 r.mo.length m.c2, .slice m.a3 r.pl.length m.c3, .int .i64 r.wk], .int .i64 x, .int .i64 y]) (by simp [results, Tryd.results17, go_sem, *]) rfl ⟨r, m, _, _, rfl, FIN.out.1, SM.out, ?_, ?_, FIN.out.2⟩
              · simp only [List.mem_cons, List.not_mem_nil, or_false] at hx; omega
              · simp only [List.mem_cons, List.not_mem_nil, or_false] at hy; omega
            exact AllReadyH.nil
          exact AllReadyH.nil
        exact AllReadyH.nil
      refine AllReadyH.cons (o := { dst := some 22, op := Op.buildSlice 24 4 #[(0, Operand.const (Value.int IntKind.i64 3652058)), (1, Operand.const (Value.int IntKind.i64 400)), (2, Operand.const (Value.int IntKind.i64 11001)), (3, Operand.const (Value.int IntKind.i64 11000))], type := 24, pos := "l12_draw.go:344", after := #[], guard := none }) rfl (fun K hK => ?_) ?_
      · go_simp
        refine hK.out _ _ ((KD.out.al _).al _).c (fun hHeld => ?_)
        clear hK K
        (try simp only [Act.put, List.setIfInBounds_toArray, List.set_cons_zero, List.set_cons_succ])
        have KW : Hid (RD w X 66 r m ((w5.drew.alloc (.cells #[.int .i64 0, .int .i64 3652053, .int .i64 (-1), .int .i64 5] 3)).alloc (.cells #[.int .i64 3652058, .int .i64 400, .int .i64 11001, .int .i64 11000] 3))) := (KD.out.al _).al _
        have hA1 : (w5.drew.alloc (.cells #[.int .i64 0, .int .i64 3652053, .int .i64 (-1), .int .i64 5] 3)).heap.size = w5.heap.size + 1 := by simp
        have CL1 : ∀ i, i < 4 → ((w5.drew.alloc (.cells #[.int .i64 0, .int .i64 3652053, .int .i64 (-1), .int .i64 5] 3)).alloc (.cells #[.int .i64 3652058, .int .i64 400, .int .i64 11001, .int .i64 11000] 3)).cell? ⟨w5.heap.size, i, none⟩ = some (.int .i64 (([0, 3652053, -1, 5] : List Int).getD i 0)) := fun i hi => by
          exact ints_at2 w5.drew [0, 3652053, -1, 5] _ rfl _ i hi
        have CL2 : ∀ i, i < 4 → ((w5.drew.alloc (.cells #[.int .i64 0, .int .i64 3652053, .int .i64 (-1), .int .i64 5] 3)).alloc (.cells #[.int .i64 3652058, .int .i64 400, .int .i64 11001, .int .i64 11000] 3)).cell? ⟨(w5.heap.size + 1), i, none⟩ = some (.int .i64 (([3652058, 400, 11001, 11000] : List Int).getD i 0)) := fun i hi => by
          rw [← hA1]; exact ints_at1 _ [3652058, 400, 11001, 11000] _ rfl i hi
        have szW : ((w5.drew.alloc (.cells #[.int .i64 0, .int .i64 3652053, .int .i64 (-1), .int .i64 5] 3)).alloc (.cells #[.int .i64 3652058, .int .i64 400, .int .i64 11001, .int .i64 11000] 3)).heap.size = w5.heap.size + 1 + 1 := by simp
        have hrs := K5.out.rx
        have hXs := K5.out.c.1
        refine wpAnyH_ready (rs := [3]) (by kernel_rfl) (by simp) ?_
        refine AllReadyH.cons (o := { dst := some 20, op := Op.call { callee := Callee.value (Operand.func 37), args := #[Operand.tmp 18, Operand.tmp 19], argTypes := #[44, 24] }, type := 3, pos := "l12_draw.go:344", after := #[{ on := 1, ground := Ground.data }, { on := 2, ground := Ground.data }], guard := none }) rfl (fun K hK => ?_) ?_
        · go_simp
          go_at_call 37
          refine (one_any ((w5.drew.alloc (.cells #[.int .i64 0, .int .i64 3652053, .int .i64 (-1), .int .i64 5] 3)).alloc (.cells #[.int .i64 3652058, .int .i64 400, .int .i64 11001, .int .i64 11000] 3)) _ _ KW.out.rd (by omega) w5.heap.size 4 4 [0, 3652053, -1, 5] rfl (by omega) (by omega) (by omega) (by omega) CL1).mono ?_
          rintro e w6 ⟨⟨x, rfl, hx⟩, hr6, hb6⟩
          have K6 : Hid (RD w X 67 r m w6) := KW.out.step hb6 hr6
          have CL3 : ∀ i, i < 4 → w6.cell? ⟨(w5.heap.size + 1), i, none⟩ = some (.int .i64 (([3652058, 400, 11001, 11000] : List Int).getD i 0)) := fun i hi => by rw [hb6.cell (p := ⟨(w5.heap.size + 1), i, none⟩) (by show (w5.heap.size + 1) < _; omega) (by show (w5.heap.size + 1) ≠ w.heap.size + 1; omega)]; exact CL2 i hi
          have sz6 := hb6.size
          rw [szW] at sz6
          refine hK.out _ _ K6.out.c (fun hHeld => ?_)
          clear hK K
          (try simp only [Act.put, List.setIfInBounds_toArray, List.set_cons_zero, List.set_cons_succ])
          refine wpAnyH_ready (rs := [6]) (by kernel_rfl) (by simp) ?_
          refine AllReadyH.cons (o := { dst := some 23, op := Op.call { callee := Callee.value (Operand.func 37), args := #[Operand.tmp 21, Operand.tmp 22], argTypes := #[44, 24] }, type := 3, pos := "l12_draw.go:344", after := #[{ on := 4, ground := Ground.data }, { on := 5, ground := Ground.data }, { on := 3, ground := Ground.chain }], guard := none }) rfl (fun K hK => ?_) ?_
          · go_simp
            go_at_call 37
            refine (one_any w6 _ _ K6.out.rd (by omega) (w5.heap.size + 1) 4 4 [3652058, 400, 11001, 11000] rfl (by omega) (by omega) (by omega) (by omega) CL3).mono ?_
            rintro e w8 ⟨⟨y, rfl, hy⟩, hr8, hb8⟩
            have K8 : Hid (RD w X 68 r m w8) := K6.out.step hb8 hr8
            refine hK.out _ _ K8.out.c (fun hHeld => ?_)
            clear hK K
            (try simp only [Act.put, List.setIfInBounds_toArray, List.set_cons_zero, List.set_cons_succ])
            refine wpAnyH_ready (rs := [7]) (by kernel_rfl) (by simp) ?_
            refine AllReadyH.cons (o := { dst := none, op := Op.store 26 (Operand.tmp 2) (Operand.tmp 17), type := 0, pos := "l12_draw.go:344", after := #[{ on := 0, ground := Ground.data }, { on := 6, ground := Ground.chain }, { on := 0, ground := Ground.phase }, { on := 1, ground := Ground.textOnly Departure.lateStores }, { on := 2, ground := Ground.textOnly Departure.lateStores }, { on := 3, ground := Ground.textOnly Departure.lateStoresUnsure }, { on := 4, ground := Ground.textOnly Departure.lateStores }, { on := 5, ground := Ground.textOnly Departure.lateStores }, { on := 6, ground := Ground.textOnly Departure.lateStoresUnsure }], guard := none }) rfl (fun K hK => ?_) ?_
            · refine step_store_mid (by rfl) 26 _ _ (by rfl) w.heap.size 0 #[.int .i64 r.f, .int .i64 r.ev, .int .i64 r.ct, .int .i64 r.un, .slice m.a0 r.ds.length m.c0, .slice m.a1 r.da.length m.c1, .slice m.a2 r.mo.length m.c2, .slice m.a3 r.pl.length m.c3, .int .i64 r.wk] (by rfl) (by rfl) (K8.out.z.there _ rfl) ruleSize (by simp [Value.oneCell']) ?_
              have SX : CF (w8.setCells w.heap.size 0 (#[.int .i64 r.f, .int .i64 r.ev, .int .i64 r.ct, .int .i64 r.un, .slice m.a0 r.ds.length m.c0, .slice m.a1 r.da.length m.c1, .slice m.a2 r.mo.length m.c2, .slice m.a3 r.pl.length m.c3, .int .i64 r.wk] : Array Value).toList) X #[.int .i64 r.f, .int .i64 r.ev, .int .i64 r.ct, .int .i64 r.un, .slice m.a0 r.ds.length m.c0, .slice m.a1 r.da.length m.c1, .slice m.a2 r.mo.length m.c2, .slice m.a3 r.pl.length m.c3, .int .i64 r.wk] := CF.apart (by have := K8.out.rx; omega) _ _ _ K8.out.c
              have FR : CF (w8.setCells w.heap.size 0 (#[.int .i64 r.f, .int .i64 r.ev, .int .i64 r.ct, .int .i64 r.un, .slice m.a0 r.ds.length m.c0, .slice m.a1 r.da.length m.c1, .slice m.a2 r.mo.length m.c2, .slice m.a3 r.pl.length m.c3, .int .i64 r.wk] : Array Value).toList) w.heap.size #[.int .i64 r.f, .int .i64 r.ev, .int .i64 r.ct, .int .i64 r.un, .slice m.a0 r.ds.length m.c0, .slice m.a1 r.da.length m.c1, .slice m.a2 r.mo.length m.c2, .slice m.a3 r.pl.length m.c3, .int .i64 r.wk] := K8.out.z.setCells #[.int .i64 r.f, .int .i64 r.ev, .int .i64 r.ct, .int .i64 r.un, .slice m.a0 r.ds.length m.c0, .slice m.a1 r.da.length m.c1, .slice m.a2 r.mo.length m.c2, .slice m.a3 r.pl.length m.c3, .int .i64 r.wk] rfl
              have FIN : Hid (OL w.heap.size r m (w8.setCells w.heap.size 0 (#[.int .i64 r.f, .int .i64 r.ev, .int .i64 r.ct, .int .i64 r.un, .slice m.a0 r.ds.length m.c0, .slice m.a1 r.da.length m.c1, .slice m.a2 r.mo.length m.c2, .slice m.a3 r.pl.length m.c3, .int .i64 r.wk] : Array Value).toList) ∧ Below w.heap.size w (w8.setCells w.heap.size 0 (#[.int .i64 r.f, .int .i64 r.ev, .int .i64 r.ct, .int .i64 r.un, .slice m.a0 r.ds.length m.c0, .slice m.a1 r.da.length m.c1, .slice m.a2 r.mo.length m.c2, .slice m.a3 r.pl.length m.c3, .int .i64 r.wk] : Array Value).toList)) := ⟨(OL.setCells (by omega) _ _ _ K8.out.l).down (by omega), (But.setCells (Nat.le_refl _) _ _ _ K8.out.b).below (by omega)⟩
              generalize w8.setCells w.heap.size 0 (#[.int .i64 r.f, .int .i64 r.ev, .int .i64 r.ct, .int .i64 r.un, .slice m.a0 r.ds.length m.c0, .slice m.a1 r.da.length m.c1, .slice m.a2 r.mo.length m.c2, .slice m.a3 r.pl.length m.c3, .int .i64 r.wk] : Array Value).toList = WF at SX FR FIN ⊢
              refine hK.out _ _ SX (fun hHeld => ?_)
              clear hK K
              (try simp only [Act.put])
              refine wpAnyH_take (i := 8) (oi := { dst := some 3, op := Op.assign (Operand.tmp 20), type := 3, pos := "l12_draw.go:344", after := #[{ on := 3, ground := Ground.data }, { on := 7, ground := Ground.chain }, { on := 0, ground := Ground.phase }, { on := 1, ground := Ground.phase }, { on := 2, ground := Ground.phase }, { on := 3, ground := Ground.phase }, { on := 4, ground := Ground.textOnly Departure.lateStores }, { on := 5, ground := Ground.textOnly Departure.lateStores }, { on := 6, ground := Ground.textOnly Departure.lateStoresUnsure }, { on := 7, ground := Ground.phase }], guard := none }) (v := ?_) rfl (by kernel_rfl) (by kernel_rfl) (by kernel_rfl) (fun _ _ _ h => h) (Or.inl ⟨by rfl, ?_⟩) hHeld ?_
              rotate_left
              · (intro w7 hC7; go_simp; first | done | rfl)
              (try simp only [Act.put, List.setIfInBounds_toArray, List.set_cons_zero, List.set_cons_succ])
              refine wpAnyH_take (i := 9) (oi := { dst := some 4, op := Op.assign (Operand.tmp 23), type := 3, pos := "l12_draw.go:344", after := #[{ on := 6, ground := Ground.data }, { on := 8, ground := Ground.chain }, { on := 0, ground := Ground.phase }, { on := 1, ground := Ground.phase }, { on := 2, ground := Ground.phase }, { on := 3, ground := Ground.phase }, { on := 4, ground := Ground.phase }, { on := 5, ground := Ground.phase }, { on := 6, ground := Ground.phase }, { on := 7, ground := Ground.phase }, { on := 8, ground := Ground.phase }], guard := none }) (v := ?_) rfl (by kernel_rfl) (by kernel_rfl) (by kernel_rfl) (fun _ _ _ h => h) (Or.inl ⟨by rfl, ?_⟩) hHeld ?_
              rotate_left
              · (intro w7 hC7; go_simp; first | done | rfl)
              (try simp only [Act.put, List.setIfInBounds_toArray, List.set_cons_zero, List.set_cons_succ])
              refine wpAnyH_done (by kernel_rfl) ?_ _
              have z0 := (FR.2 0 _ rfl).1
              have z1 := (FR.2 1 _ rfl).1
              have z2 := (FR.2 2 _ rfl).1
              have z3 := (FR.2 3 _ rfl).1
              have z4 := (FR.2 4 _ rfl).1
              have z5 := (FR.2 5 _ rfl).1
              have z6 := (FR.2 6 _ rfl).1
              have z7 := (FR.2 7 _ rfl).1
              have z8 := (FR.2 8 _ rfl).1
              clear SX FR hHeld
              go_wp2
              refine bodyPost_ret (v := .tuple #[.agg #[.int .i64 r.f, .int .i64 r.ev, .int .i64 r.ct, .int .i64 r.un, .slice m.a0 r.ds.length m.c0, .slice m.a1 r.da.length m.c1, .slice m.a2 r.mo.length m.c2, .slice m.a3 r.pl.length m.c3, .int .i64 r.wk], .int .i64 x, .int .i64 y]) (by simp [results, Tryd.results17, go_sem, *]) rfl ⟨r, m, _, _, rfl, FIN.out.1, SM.out, ?_, ?_, FIN.out.2⟩
              · simp only [List.mem_cons, List.not_mem_nil, or_false] at hx; omega
              · simp only [List.mem_cons, List.not_mem_nil, or_false] at hy; omega
            exact AllReadyH.nil
          exact AllReadyH.nil
        exact AllReadyH.nil
      exact AllReadyH.nil
    refine AllReadyH.cons (o := { dst := some 22, op := Op.buildSlice 24 4 #[(0, Operand.const (Value.int IntKind.i64 3652058)), (1, Operand.const (Value.int IntKind.i64 400)), (2, Operand.const (Value.int IntKind.i64 11001)), (3, Operand.const (Value.int IntKind.i64 11000))], type := 24, pos := "l12_draw.go:344", after := #[], guard := none }) rfl (fun K hK => ?_) ?_
    · go_simp
      refine hK.out _ _ (KD.out.al _).c (fun hHeld => ?_)
      clear hK K
      (try simp only [Act.put, List.setIfInBounds_toArray, List.set_cons_zero, List.set_cons_succ])
      refine wpAnyH_ready (rs := [2]) (by kernel_rfl) (by simp) ?_
      refine AllReadyH.cons (o := { dst := some 19, op := Op.buildSlice 24 4 #[(0, Operand.const (Value.int IntKind.i64 0)), (1, Operand.const (Value.int IntKind.i64 3652053)), (2, Operand.const (Value.int IntKind.i64 (-1))), (3, Operand.const (Value.int IntKind.i64 5))], type := 24, pos := "l12_draw.go:344", after := #[], guard := none }) rfl (fun K hK => ?_) ?_
      · go_simp
        refine hK.out _ _ ((KD.out.al _).al _).c (fun hHeld => ?_)
        clear hK K
        (try simp only [Act.put, List.setIfInBounds_toArray, List.set_cons_zero, List.set_cons_succ])
        have KW : Hid (RD w X 66 r m ((w5.drew.alloc (.cells #[.int .i64 3652058, .int .i64 400, .int .i64 11001, .int .i64 11000] 3)).alloc (.cells #[.int .i64 0, .int .i64 3652053, .int .i64 (-1), .int .i64 5] 3))) := (KD.out.al _).al _
        have hA1 : (w5.drew.alloc (.cells #[.int .i64 3652058, .int .i64 400, .int .i64 11001, .int .i64 11000] 3)).heap.size = w5.heap.size + 1 := by simp
        have CL1 : ∀ i, i < 4 → ((w5.drew.alloc (.cells #[.int .i64 3652058, .int .i64 400, .int .i64 11001, .int .i64 11000] 3)).alloc (.cells #[.int .i64 0, .int .i64 3652053, .int .i64 (-1), .int .i64 5] 3)).cell? ⟨(w5.heap.size + 1), i, none⟩ = some (.int .i64 (([0, 3652053, -1, 5] : List Int).getD i 0)) := fun i hi => by
          rw [← hA1]; exact ints_at1 _ [0, 3652053, -1, 5] _ rfl i hi
        have CL2 : ∀ i, i < 4 → ((w5.drew.alloc (.cells #[.int .i64 3652058, .int .i64 400, .int .i64 11001, .int .i64 11000] 3)).alloc (.cells #[.int .i64 0, .int .i64 3652053, .int .i64 (-1), .int .i64 5] 3)).cell? ⟨w5.heap.size, i, none⟩ = some (.int .i64 (([3652058, 400, 11001, 11000] : List Int).getD i 0)) := fun i hi => by
          exact ints_at2 w5.drew [3652058, 400, 11001, 11000] _ rfl _ i hi
        have szW : ((w5.drew.alloc (.cells #[.int .i64 3652058, .int .i64 400, .int .i64 11001, .int .i64 11000] 3)).alloc (.cells #[.int .i64 0, .int .i64 3652053, .int .i64 (-1), .int .i64 5] 3)).heap.size = w5.heap.size + 1 + 1 := by simp
        have hrs := K5.out.rx
        have hXs := K5.out.c.1
        refine wpAnyH_ready (rs := [3]) (by kernel_rfl) (by simp) ?_
        refine AllReadyH.cons (o := { dst := some 20, op := Op.call { callee := Callee.value (Operand.func 37), args := #[Operand.tmp 18, Operand.tmp 19], argTypes := #[44, 24] }, type := 3, pos := "l12_draw.go:344", after := #[{ on := 1, ground := Ground.data }, { on := 2, ground := Ground.data }], guard := none }) rfl (fun K hK => ?_) ?_
        · go_simp
          go_at_call 37
          refine (one_any ((w5.drew.alloc (.cells #[.int .i64 3652058, .int .i64 400, .int .i64 11001, .int .i64 11000] 3)).alloc (.cells #[.int .i64 0, .int .i64 3652053, .int .i64 (-1), .int .i64 5] 3)) _ _ KW.out.rd (by omega) (w5.heap.size + 1) 4 4 [0, 3652053, -1, 5] rfl (by omega) (by omega) (by omega) (by omega) CL1).mono ?_
          rintro e w6 ⟨⟨x, rfl, hx⟩, hr6, hb6⟩
          have K6 : Hid (RD w X 67 r m w6) := KW.out.step hb6 hr6
          have CL3 : ∀ i, i < 4 → w6.cell? ⟨w5.heap.size, i, none⟩ = some (.int .i64 (([3652058, 400, 11001, 11000] : List Int).getD i 0)) := fun i hi => by rw [hb6.cell (p := ⟨w5.heap.size, i, none⟩) (by show w5.heap.size < _; omega) (by show w5.heap.size ≠ w.heap.size + 1; omega)]; exact CL2 i hi
          have sz6 := hb6.size
          rw [szW] at sz6
          refine hK.out _ _ K6.out.c (fun hHeld => ?_)
          clear hK K
          (try simp only [Act.put, List.setIfInBounds_toArray, List.set_cons_zero, List.set_cons_succ])
          refine wpAnyH_ready (rs := [6]) (by kernel_rfl) (by simp) ?_
          refine AllReadyH.cons (o := { dst := some 23, op := Op.call { callee := Callee.value (Operand.func 37), args := #[Operand.tmp 21, Operand.tmp 22], argTypes := #[44, 24] }, type := 3, pos := "l12_draw.go:344", after := #[{ on := 4, ground := Ground.data }, { on := 5, ground := Ground.data }, { on := 3, ground := Ground.chain }], guard := none }) rfl (fun K hK => ?_) ?_
          · go_simp
            go_at_call 37
            refine (one_any w6 _ _ K6.out.rd (by omega) w5.heap.size 4 4 [3652058, 400, 11001, 11000] rfl (by omega) (by omega) (by omega) (by omega) CL3).mono ?_
            rintro e w8 ⟨⟨y, rfl, hy⟩, hr8, hb8⟩
            have K8 : Hid (RD w X 68 r m w8) := K6.out.step hb8 hr8
            refine hK.out _ _ K8.out.c (fun hHeld => ?_)
            clear hK K
            (try simp only [Act.put, List.setIfInBounds_toArray, List.set_cons_zero, List.set_cons_succ])
            refine wpAnyH_ready (rs := [7]) (by kernel_rfl) (by simp) ?_
            refine AllReadyH.cons (o := { dst := none, op := Op.store 26 (Operand.tmp 2) (Operand.tmp 17), type := 0, pos := "l12_draw.go:344", after := #[{ on := 0, ground := Ground.data }, { on := 6, ground := Ground.chain }, { on := 0, ground := Ground.phase }, { on := 1, ground := Ground.textOnly Departure.lateStores }, { on := 2, ground := Ground.textOnly Departure.lateStores }, { on := 3, ground := Ground.textOnly Departure.lateStoresUnsure }, { on := 4, ground := Ground.textOnly Departure.lateStores }, { on := 5, ground := Ground.textOnly Departure.lateStores }, { on := 6, ground := Ground.textOnly Departure.lateStoresUnsure }], guard := none }) rfl (fun K hK => ?_) ?_
            · refine step_store_mid (by rfl) 26 _ _ (by rfl) w.heap.size 0 #[.int .i64 r.f, .int .i64 r.ev, .int .i64 r.ct, .int .i64 r.un, .slice m.a0 r.ds.length m.c0, .slice m.a1 r.da.length m.c1, .slice m.a2 r.mo.length m.c2, .slice m.a3 r.pl.length m.c3, .int .i64 r.wk] (by rfl) (by rfl) (K8.out.z.there _ rfl) ruleSize (by simp [Value.oneCell']) ?_
              have SX : CF (w8.setCells w.heap.size 0 (#[.int .i64 r.f, .int .i64 r.ev, .int .i64 r.ct, .int .i64 r.un, .slice m.a0 r.ds.length m.c0, .slice m.a1 r.da.length m.c1, .slice m.a2 r.mo.length m.c2, .slice m.a3 r.pl.length m.c3, .int .i64 r.wk] : Array Value).toList) X #[.int .i64 r.f, .int .i64 r.ev, .int .i64 r.ct, .int .i64 r.un, .slice m.a0 r.ds.length m.c0, .slice m.a1 r.da.length m.c1, .slice m.a2 r.mo.length m.c2, .slice m.a3 r.pl.length m.c3, .int .i64 r.wk] := CF.apart (by have := K8.out.rx; omega) _ _ _ K8.out.c
              have FR : CF (w8.setCells w.heap.size 0 (#[.int .i64 r.f, .int .i64 r.ev, .int .i64 r.ct, .int .i64 r.un, .slice m.a0 r.ds.length m.c0, .slice m.a1 r.da.length m.c1, .slice m.a2 r.mo.length m.c2, .slice m.a3 r.pl.length m.c3, .int .i64 r.wk] : Array Value).toList) w.heap.size #[.int .i64 r.f, .int .i64 r.ev, .int .i64 r.ct, .int .i64 r.un, .slice m.a0 r.ds.length m.c0, .slice m.a1 r.da.length m.c1, .slice m.a2 r.mo.length m.c2, .slice m.a3 r.pl.length m.c3, .int .i64 r.wk] := K8.out.z.setCells #[.int .i64 r.f, .int .i64 r.ev, .int .i64 r.ct, .int .i64 r.un, .slice m.a0 r.ds.length m.c0, .slice m.a1 r.da.length m.c1, .slice m.a2 r.mo.length m.c2, .slice m.a3 r.pl.length m.c3, .int .i64 r.wk] rfl
              have FIN : Hid (OL w.heap.size r m (w8.setCells w.heap.size 0 (#[.int .i64 r.f, .int .i64 r.ev, .int .i64 r.ct, .int .i64 r.un, .slice m.a0 r.ds.length m.c0, .slice m.a1 r.da.length m.c1, .slice m.a2 r.mo.length m.c2, .slice m.a3 r.pl.length m.c3, .int .i64 r.wk] : Array Value).toList) ∧ Below w.heap.size w (w8.setCells w.heap.size 0 (#[.int .i64 r.f, .int .i64 r.ev, .int .i64 r.ct, .int .i64 r.un, .slice m.a0 r.ds.length m.c0, .slice m.a1 r.da.length m.c1, .slice m.a2 r.mo.length m.c2, .slice m.a3 r.pl.length m.c3, .int .i64 r.wk] : Array Value).toList)) := ⟨(OL.setCells (by omega) _ _ _ K8.out.l).down (by omega), (But.setCells (Nat.le_refl _) _ _ _ K8.out.b).below (by omega)⟩
              generalize w8.setCells w.heap.size 0 (#[.int .i64 r.f, .int .i64 r.ev, .int .i64 r.ct, .int .i64 r.un, .slice m.a0 r.ds.length m.c0, .slice m.a1 r.da.length m.c1, .slice m.a2 r.mo.length m.c2, .slice m.a3 r.pl.length m.c3, .int .i64 r.wk] : Array Value).toList = WF at SX FR FIN ⊢
              refine hK.out _ _ SX (fun hHeld => ?_)
              clear hK K
              (try simp only [Act.put])
              refine wpAnyH_take (i := 8) (oi := { dst := some 3, op := Op.assign (Operand.tmp 20), type := 3, pos := "l12_draw.go:344", after := #[{ on := 3, ground := Ground.data }, { on := 7, ground := Ground.chain }, { on := 0, ground := Ground.phase }, { on := 1, ground := Ground.phase }, { on := 2, ground := Ground.phase }, { on := 3, ground := Ground.phase }, { on := 4, ground := Ground.textOnly Departure.lateStores }, { on := 5, ground := Ground.textOnly Departure.lateStores }, { on := 6, ground := Ground.textOnly Departure.lateStoresUnsure }, { on := 7, ground := Ground.phase }], guard := none }) (v := ?_) rfl (by kernel_rfl) (by kernel_rfl) (by kernel_rfl) (fun _ _ _ h => h) (Or.inl ⟨by rfl, ?_⟩) hHeld ?_
              rotate_left
              · (intro w7 hC7; go_simp; first | done | rfl)
              (try simp only [Act.put, List.setIfInBounds_toArray, List.set_cons_zero, List.set_cons_succ])
              refine wpAnyH_take (i := 9) (oi := { dst := some 4, op := Op.assign (Operand.tmp 23), type := 3, pos := "l12_draw.go:344", after := #[{ on := 6, ground := Ground.data }, { on := 8, ground := Ground.chain }, { on := 0, ground := Ground.phase }, { on := 1, ground := Ground.phase }, { on := 2, ground := Ground.phase }, { on := 3, ground := Ground.phase }, { on := 4, ground := Ground.phase }, { on := 5, ground := Ground.phase }, { on := 6, ground := Ground.phase }, { on := 7, ground := Ground.phase }, { on := 8, ground := Ground.phase }], guard := none }) (v := ?_) rfl (by kernel_rfl) (by kernel_rfl) (by kernel_rfl) (fun _ _ _ h => h) (Or.inl ⟨by rfl, ?_⟩) hHeld ?_
              rotate_left
              · (intro w7 hC7; go_simp; first | done | rfl)
              (try simp only [Act.put, List.setIfInBounds_toArray, List.set_cons_zero, List.set_cons_succ])
              refine wpAnyH_done (by kernel_rfl) ?_ _
              have z0 := (FR.2 0 _ rfl).1
              have z1 := (FR.2 1 _ rfl).1
              have z2 := (FR.2 2 _ rfl).1
              have z3 := (FR.2 3 _ rfl).1
              have z4 := (FR.2 4 _ rfl).1
              have z5 := (FR.2 5 _ rfl).1
              have z6 := (FR.2 6 _ rfl).1
              have z7 := (FR.2 7 _ rfl).1
              have z8 := (FR.2 8 _ rfl).1
              clear SX FR hHeld
              go_wp2
              refine bodyPost_ret (v := .tuple #[.agg #[.int .i64 r.f, .int .i64 r.ev, .int .i64 r.ct, .int .i64 r.un, .slice m.a0 r.ds.length m.c0, .slice m.a1 r.da.length m.c1, .slice m.a2 r.mo.length m.c2, .slice m.a3 r.pl.length m.c3, .int .i64 r.wk], .int .i64 x, .int .i64 y]) (by simp [results, Tryd.results17, go_sem, *]) rfl ⟨r, m, _, _, rfl, FIN.out.1, SM.out, ?_, ?_, FIN.out.2⟩
              · simp only [List.mem_cons, List.not_mem_nil, or_false] at hx; omega
              · simp only [List.mem_cons, List.not_mem_nil, or_false] at hy; omega
            exact AllReadyH.nil
          exact AllReadyH.nil
        exact AllReadyH.nil
      exact AllReadyH.nil
    exact AllReadyH.nil
  · have h0 : (q == 0) = false := beq_eq_false_iff_ne.2 e0
    clear e0
    go_upto_region 6 with fail
    have KD : Hid (RD w X 66 r m w5.drew) := K5.out.dr
    refine wp_region_held_drew (S := (fun w' => CF w' X #[.int .i64 r.f, .int .i64 r.ev, .int .i64 r.ct, .int .i64 r.un, .slice m.a0 r.ds.length m.c0, .slice m.a1 r.da.length m.c1, .slice m.a2 r.mo.length m.c2, .slice m.a3 r.pl.length m.c3, .int .i64 r.wk])) (by kernel_rfl) KD.out.c (fun hHeld => ?_)
    refine wpAnyH_take (i := 0) (oi := { dst := some 24, op := Op.load 26 (Operand.tmp 6), type := 26, pos := "l12_draw.go:346", after := #[], guard := none }) (v := .agg ([.int .i64 r.f, .int .i64 r.ev, .int .i64 r.ct, .int .i64 r.un, .slice m.a0 r.ds.length m.c0, .slice m.a1 r.da.length m.c1, .slice m.a2 r.mo.length m.c2, .slice m.a3 r.pl.length m.c3, .int .i64 r.wk] : List Value).toArray) rfl (by kernel_rfl) (by kernel_rfl) (by kernel_rfl) (fun _ _ _ h => h) (yieldsIf_load_mid rfl 26 (.tmp 6) rfl X 0 rfl [.int .i64 r.f, .int .i64 r.ev, .int .i64 r.ct, .int .i64 r.un, .slice m.a0 r.ds.length m.c0, .slice m.a1 r.da.length m.c1, .slice m.a2 r.mo.length m.c2, .slice m.a3 r.pl.length m.c3, .int .i64 r.wk] _ (fun w' hb => CF.range hb) Tryd.underlying26 rfl ruleSize) hHeld ?_
    (try simp only [Act.put, List.setIfInBounds_toArray, List.set_cons_zero, List.set_cons_succ])
    refine wpAnyH_take (i := 1) (oi := { dst := some 25, op := Op.move (Operand.tmp 7), type := 3, pos := "l12_draw.go:346", after := #[{ on := 13, ground := Ground.gcOnly Departure.lateStores }], guard := none }) (v := ?_) rfl (by kernel_rfl) (by kernel_rfl) (by kernel_rfl) (fun _ _ _ h => h) (Or.inl ⟨by rfl, ?_⟩) hHeld ?_
    rotate_left
    · (intro w7 hC7; go_simp; first | done | rfl)
    (try simp only [Act.put, List.setIfInBounds_toArray, List.set_cons_zero, List.set_cons_succ])
    refine wpAnyH_take (i := 2) (oi := { dst := some 26, op := Op.move (Operand.tmp 7), type := 3, pos := "l12_draw.go:346", after := #[{ on := 14, ground := Ground.gcOnly Departure.lateStores }], guard := none }) (v := ?_) rfl (by kernel_rfl) (by kernel_rfl) (by kernel_rfl) (fun _ _ _ h => h) (Or.inl ⟨by rfl, ?_⟩) hHeld ?_
    rotate_left
    · (intro w7 hC7; go_simp; first | done | rfl)
    (try simp only [Act.put, List.setIfInBounds_toArray, List.set_cons_zero, List.set_cons_succ])
    refine wpAnyH_take (i := 3) (oi := { dst := some 27, op := Op.move (Operand.tmp 5), type := 44, pos := "l12_draw.go:346", after := #[], guard := none }) (v := ?_) rfl (by kernel_rfl) (by kernel_rfl) (by kernel_rfl) (fun _ _ _ h => h) (Or.inl ⟨by rfl, ?_⟩) hHeld ?_
    rotate_left
    · (intro w7 hC7; go_simp; first | done | rfl)
    (try simp only [Act.put, List.setIfInBounds_toArray, List.set_cons_zero, List.set_cons_succ])
    refine wpAnyH_take (i := 5) (oi := { dst := some 29, op := Op.move (Operand.tmp 5), type := 44, pos := "l12_draw.go:346", after := #[], guard := none }) (v := ?_) rfl (by kernel_rfl) (by kernel_rfl) (by kernel_rfl) (fun _ _ _ h => h) (Or.inl ⟨by rfl, ?_⟩) hHeld ?_
    rotate_left
    · (intro w7 hC7; go_simp; first | done | rfl)
    (try simp only [Act.put, List.setIfInBounds_toArray, List.set_cons_zero, List.set_cons_succ])
    refine wpAnyH_take (i := 10) (oi := { dst := some 34, op := Op.move (Operand.tmp 5), type := 44, pos := "l12_draw.go:346", after := #[], guard := none }) (v := ?_) rfl (by kernel_rfl) (by kernel_rfl) (by kernel_rfl) (fun _ _ _ h => h) (Or.inl ⟨by rfl, ?_⟩) hHeld ?_
    rotate_left
    · (intro w7 hC7; go_simp; first | done | rfl)
    (try simp only [Act.put, List.setIfInBounds_toArray, List.set_cons_zero, List.set_cons_succ])
    refine wpAnyH_ready (rs := [4, 6]) (by kernel_rfl) (by simp) ?_
    refine AllReadyH.cons (o := { dst := some 28, op := Op.call { callee := Callee.value (Operand.func 36), args := #[Operand.tmp 27, Operand.const (Value.int IntKind.i64 256)], argTypes := #[44, 3] }, type := 3, pos := "l12_draw.go:346", after := #[{ on := 3, ground := Ground.data }], guard := none }) rfl (fun K hK => ?_) ?_
    · go_simp
      go_at_call 36
      refine (pick_pos _ w5.drew _ _ KD.out.rd (by omega) (by omega)).mono ?_
      rintro e w6 ⟨⟨p, rfl, p0, p1⟩, hr6, hb6⟩
      have K6 : Hid (RD w X 67 r m w6) := KD.out.step hb6 hr6
      refine hK.out _ _ K6.out.c (fun hHeld => ?_)
      clear hK K
      (try simp only [Act.put, List.setIfInBounds_toArray, List.set_cons_zero, List.set_cons_succ])
      refine wpAnyH_ready (rs := [6]) (by kernel_rfl) (by simp) ?_
      refine AllReadyH.cons (o := { dst := some 30, op := Op.buildSlice 24 4 #[(0, Operand.const (Value.int IntKind.i64 0)), (1, Operand.const (Value.int IntKind.i64 1)), (2, Operand.const (Value.int IntKind.i64 2)), (3, Operand.const (Value.int IntKind.i64 4))], type := 24, pos := "l12_draw.go:346", after := #[], guard := none }) rfl (fun K hK => ?_) ?_
      · go_simp
        refine hK.out _ _ (K6.out.al _).c (fun hHeld => ?_)
        clear hK K
        (try simp only [Act.put, List.setIfInBounds_toArray, List.set_cons_zero, List.set_cons_succ])
        refine wpAnyH_ready (rs := [7]) (by kernel_rfl) (by simp) ?_
        refine AllReadyH.cons (o := { dst := some 31, op := Op.call { callee := Callee.value (Operand.func 37), args := #[Operand.tmp 29, Operand.tmp 30], argTypes := #[44, 24] }, type := 3, pos := "l12_draw.go:346", after := #[{ on := 5, ground := Ground.data }, { on := 6, ground := Ground.data }, { on := 4, ground := Ground.chain }], guard := none }) rfl (fun K hK => ?_) ?_
        · go_simp
          go_at_call 37
          refine (one_list w6 _ _ K6.out.rd (by omega) 4 [0, 1, 2, 4] rfl (by omega) (by omega) _ rfl).mono ?_
          rintro e w7 ⟨⟨x, rfl, hx⟩, hr7, hb7⟩
          have K7 : Hid (RD w X 68 r m w7) := K6.out.step hb7 hr7
          refine hK.out _ _ K7.out.c (fun hHeld => ?_)
          clear hK K
          (try simp only [Act.put, List.setIfInBounds_toArray, List.set_cons_zero, List.set_cons_succ])
          have xb : 0 ≤ x ∧ x ≤ 4 := by simp only [List.mem_cons, List.not_mem_nil, or_false] at hx; omega
          have pxb : 0 ≤ p * x ∧ p * x ≤ 1020 := ⟨Int.mul_nonneg p0 xb.1, by have := Int.mul_le_mul (show p ≤ 255 by omega) xb.2 xb.1 (by omega); omega⟩
          have g1 := IntWalk.i64_in (p * x) (by omega)
          have g2 := IntWalk.i64_in (s + p * x) (by omega)
          refine wpAnyH_take (i := 8) (oi := { dst := some 32, op := Op.binOp BinOp.mul 3 (Operand.tmp 28) (Operand.tmp 31) 3, type := 3, pos := "l12_draw.go:346", after := #[{ on := 4, ground := Ground.data }, { on := 7, ground := Ground.data }, { on := 14, ground := Ground.gcOnly Departure.lateStores }], guard := none }) (v := ?_) rfl (by kernel_rfl) (by kernel_rfl) (by kernel_rfl) (fun _ _ _ h => h) (Or.inl ⟨by rfl, ?_⟩) hHeld ?_
          rotate_left
          · (intro w7 hC7; go_simp; first | done | rfl)
          (try simp only [Act.put, List.setIfInBounds_toArray, List.set_cons_zero, List.set_cons_succ])
          refine wpAnyH_take (i := 9) (oi := { dst := some 33, op := Op.binOp BinOp.add 3 (Operand.tmp 26) (Operand.tmp 32) 3, type := 3, pos := "l12_draw.go:346", after := #[{ on := 2, ground := Ground.data }, { on := 8, ground := Ground.data }, { on := 14, ground := Ground.gcOnly Departure.lateStores }], guard := none }) (v := ?_) rfl (by kernel_rfl) (by kernel_rfl) (by kernel_rfl) (fun _ _ _ h => h) (Or.inl ⟨by rfl, ?_⟩) hHeld ?_
          rotate_left
          · (intro w7 hC7; go_simp; first | done | rfl)
          (try simp only [Act.put, List.setIfInBounds_toArray, List.set_cons_zero, List.set_cons_succ])
          refine wpAnyH_ready (rs := [11]) (by kernel_rfl) (by simp) ?_
          refine AllReadyH.cons (o := { dst := some 35, op := Op.call { callee := Callee.value (Operand.func 36), args := #[Operand.tmp 34, Operand.const (Value.int IntKind.i64 3)], argTypes := #[44, 3] }, type := 3, pos := "l12_draw.go:346", after := #[{ on := 10, ground := Ground.data }, { on := 7, ground := Ground.chain }], guard := none }) rfl (fun K hK => ?_) ?_
          · go_simp
            go_at_call 36
            refine (pick_pos _ w7 _ _ K7.out.rd (by omega) (by omega)).mono ?_
            rintro e w8 ⟨⟨y, rfl, y0, y1⟩, hr8, hb8⟩
            have K8 : Hid (RD w X 69 r m w8) := K7.out.step hb8 hr8
            have g3 := IntWalk.i64_in (s + p * x - y) (by omega)
            refine hK.out _ _ K8.out.c (fun hHeld => ?_)
            clear hK K
            (try simp only [Act.put, List.setIfInBounds_toArray, List.set_cons_zero, List.set_cons_succ])
            refine wpAnyH_take (i := 12) (oi := { dst := some 36, op := Op.binOp BinOp.sub 3 (Operand.tmp 33) (Operand.tmp 35) 3, type := 3, pos := "l12_draw.go:346", after := #[{ on := 9, ground := Ground.data }, { on := 11, ground := Ground.data }, { on := 14, ground := Ground.gcOnly Departure.lateStores }], guard := none }) (v := ?_) rfl (by kernel_rfl) (by kernel_rfl) (by kernel_rfl) (fun _ _ _ h => h) (Or.inl ⟨by rfl, ?_⟩) hHeld ?_
            rotate_left
            · (intro w7 hC7; go_simp; first | done | rfl)
            (try simp only [Act.put, List.setIfInBounds_toArray, List.set_cons_zero, List.set_cons_succ])
            refine wpAnyH_ready (rs := [13]) (by kernel_rfl) (by simp) ?_
            refine AllReadyH.cons (o := { dst := none, op := Op.store 26 (Operand.tmp 2) (Operand.tmp 24), type := 0, pos := "l12_draw.go:346", after := #[{ on := 0, ground := Ground.data }, { on := 11, ground := Ground.chain }, { on := 0, ground := Ground.phase }, { on := 1, ground := Ground.textOnly Departure.lateStores }, { on := 2, ground := Ground.textOnly Departure.lateStores }, { on := 3, ground := Ground.textOnly Departure.lateStores }, { on := 4, ground := Ground.textOnly Departure.lateStoresUnsure }, { on := 5, ground := Ground.textOnly Departure.lateStores }, { on := 6, ground := Ground.textOnly Departure.lateStores }, { on := 7, ground := Ground.textOnly Departure.lateStoresUnsure }, { on := 8, ground := Ground.textOnly Departure.lateStores }, { on := 9, ground := Ground.textOnly Departure.lateStores }, { on := 10, ground := Ground.textOnly Departure.lateStores }, { on := 11, ground := Ground.textOnly Departure.lateStoresUnsure }, { on := 12, ground := Ground.textOnly Departure.lateStores }], guard := none }) rfl (fun K hK => ?_) ?_
            · refine step_store_mid (by rfl) 26 _ _ (by rfl) w.heap.size 0 #[.int .i64 r.f, .int .i64 r.ev, .int .i64 r.ct, .int .i64 r.un, .slice m.a0 r.ds.length m.c0, .slice m.a1 r.da.length m.c1, .slice m.a2 r.mo.length m.c2, .slice m.a3 r.pl.length m.c3, .int .i64 r.wk] (by rfl) (by rfl) (K8.out.z.there _ rfl) ruleSize (by simp [Value.oneCell']) ?_
              have SX : CF (w8.setCells w.heap.size 0 (#[.int .i64 r.f, .int .i64 r.ev, .int .i64 r.ct, .int .i64 r.un, .slice m.a0 r.ds.length m.c0, .slice m.a1 r.da.length m.c1, .slice m.a2 r.mo.length m.c2, .slice m.a3 r.pl.length m.c3, .int .i64 r.wk] : Array Value).toList) X #[.int .i64 r.f, .int .i64 r.ev, .int .i64 r.ct, .int .i64 r.un, .slice m.a0 r.ds.length m.c0, .slice m.a1 r.da.length m.c1, .slice m.a2 r.mo.length m.c2, .slice m.a3 r.pl.length m.c3, .int .i64 r.wk] := CF.apart (by have := K8.out.rx; omega) _ _ _ K8.out.c
              have FR : CF (w8.setCells w.heap.size 0 (#[.int .i64 r.f, .int .i64 r.ev, .int .i64 r.ct, .int .i64 r.un, .slice m.a0 r.ds.length m.c0, .slice m.a1 r.da.length m.c1, .slice m.a2 r.mo.length m.c2, .slice m.a3 r.pl.length m.c3, .int .i64 r.wk] : Array Value).toList) w.heap.size #[.int .i64 r.f, .int .i64 r.ev, .int .i64 r.ct, .int .i64 r.un, .slice m.a0 r.ds.length m.c0, .slice m.a1 r.da.length m.c1, .slice m.a2 r.mo.length m.c2, .slice m.a3 r.pl.length m.c3, .int .i64 r.wk] := K8.out.z.setCells #[.int .i64 r.f, .int .i64 r.ev, .int .i64 r.ct, .int .i64 r.un, .slice m.a0 r.ds.length m.c0, .slice m.a1 r.da.length m.c1, .slice m.a2 r.mo.length m.c2, .slice m.a3 r.pl.length m.c3, .int .i64 r.wk] rfl
              have FIN : Hid (OL w.heap.size r m (w8.setCells w.heap.size 0 (#[.int .i64 r.f, .int .i64 r.ev, .int .i64 r.ct, .int .i64 r.un, .slice m.a0 r.ds.length m.c0, .slice m.a1 r.da.length m.c1, .slice m.a2 r.mo.length m.c2, .slice m.a3 r.pl.length m.c3, .int .i64 r.wk] : Array Value).toList) ∧ Below w.heap.size w (w8.setCells w.heap.size 0 (#[.int .i64 r.f, .int .i64 r.ev, .int .i64 r.ct, .int .i64 r.un, .slice m.a0 r.ds.length m.c0, .slice m.a1 r.da.length m.c1, .slice m.a2 r.mo.length m.c2, .slice m.a3 r.pl.length m.c3, .int .i64 r.wk] : Array Value).toList)) := ⟨(OL.setCells (by omega) _ _ _ K8.out.l).down (by omega), (But.setCells (Nat.le_refl _) _ _ _ K8.out.b).below (by omega)⟩
              generalize w8.setCells w.heap.size 0 (#[.int .i64 r.f, .int .i64 r.ev, .int .i64 r.ct, .int .i64 r.un, .slice m.a0 r.ds.length m.c0, .slice m.a1 r.da.length m.c1, .slice m.a2 r.mo.length m.c2, .slice m.a3 r.pl.length m.c3, .int .i64 r.wk] : Array Value).toList = WF at SX FR FIN ⊢
              refine hK.out _ _ SX (fun hHeld => ?_)
              clear hK K
              (try simp only [Act.put])
              refine wpAnyH_take (i := 14) (oi := { dst := some 3, op := Op.assign (Operand.tmp 25), type := 3, pos := "l12_draw.go:346", after := #[{ on := 1, ground := Ground.data }, { on := 13, ground := Ground.chain }, { on := 0, ground := Ground.phase }, { on := 1, ground := Ground.phase }, { on := 2, ground := Ground.textOnly Departure.lateStores }, { on := 3, ground := Ground.textOnly Departure.lateStores }, { on := 4, ground := Ground.textOnly Departure.lateStoresUnsure }, { on := 5, ground := Ground.textOnly Departure.lateStores }, { on := 6, ground := Ground.textOnly Departure.lateStores }, { on := 7, ground := Ground.textOnly Departure.lateStoresUnsure }, { on := 8, ground := Ground.textOnly Departure.lateStores }, { on := 9, ground := Ground.textOnly Departure.lateStores }, { on := 10, ground := Ground.textOnly Departure.lateStores }, { on := 11, ground := Ground.textOnly Departure.lateStoresUnsure }, { on := 12, ground := Ground.textOnly Departure.lateStores }, { on := 13, ground := Ground.phase }], guard := none }) (v := ?_) rfl (by kernel_rfl) (by kernel_rfl) (by kernel_rfl) (fun _ _ _ h => h) (Or.inl ⟨by rfl, ?_⟩) hHeld ?_
              rotate_left
              · (intro w7 hC7; go_simp; first | done | rfl)
              (try simp only [Act.put, List.setIfInBounds_toArray, List.set_cons_zero, List.set_cons_succ])
              refine wpAnyH_take (i := 15) (oi := { dst := some 4, op := Op.assign (Operand.tmp 36), type := 3, pos := "l12_draw.go:346", after := #[{ on := 12, ground := Ground.data }, { on := 14, ground := Ground.chain }, { on := 0, ground := Ground.phase }, { on := 1, ground := Ground.phase }, { on := 2, ground := Ground.phase }, { on := 3, ground := Ground.phase }, { on := 4, ground := Ground.phase }, { on := 5, ground := Ground.phase }, { on := 6, ground := Ground.phase }, { on := 7, ground := Ground.phase }, { on := 8, ground := Ground.phase }, { on := 9, ground := Ground.phase }, { on := 10, ground := Ground.phase }, { on := 11, ground := Ground.phase }, { on := 12, ground := Ground.phase }, { on := 13, ground := Ground.phase }, { on := 14, ground := Ground.phase }], guard := none }) (v := ?_) rfl (by kernel_rfl) (by kernel_rfl) (by kernel_rfl) (fun _ _ _ h => h) (Or.inl ⟨by rfl, ?_⟩) hHeld ?_
              rotate_left
              · (intro w7 hC7; go_simp; first | done | rfl)
              (try simp only [Act.put, List.setIfInBounds_toArray, List.set_cons_zero, List.set_cons_succ])
              refine wpAnyH_done (by kernel_rfl) ?_ _
              have z0 := (FR.2 0 _ rfl).1
              have z1 := (FR.2 1 _ rfl).1
              have z2 := (FR.2 2 _ rfl).1
              have z3 := (FR.2 3 _ rfl).1
              have z4 := (FR.2 4 _ rfl).1
              have z5 := (FR.2 5 _ rfl).1
              have z6 := (FR.2 6 _ rfl).1
              have z7 := (FR.2 7 _ rfl).1
              have z8 := (FR.2 8 _ rfl).1
              clear SX FR hHeld
              go_wp2
              refine bodyPost_ret (v := .tuple #[.agg #[.int .i64 r.f, .int .i64 r.ev, .int .i64 r.ct, .int .i64 r.un, .slice m.a0 r.ds.length m.c0, .slice m.a1 r.da.length m.c1, .slice m.a2 r.mo.length m.c2, .slice m.a3 r.pl.length m.c3, .int .i64 r.wk], .int .i64 s, .int .i64 (s + p * x - y)]) (by simp [results, Tryd.results17, go_sem, *]) rfl ⟨r, m, _, _, rfl, FIN.out.1, SM.out, ?_, ?_, FIN.out.2⟩
              · omega
              · omega
            exact AllReadyH.nil
          exact AllReadyH.nil
        exact AllReadyH.nil
      exact AllReadyH.nil
    refine AllReadyH.cons (o := { dst := some 30, op := Op.buildSlice 24 4 #[(0, Operand.const (Value.int IntKind.i64 0)), (1, Operand.const (Value.int IntKind.i64 1)), (2, Operand.const (Value.int IntKind.i64 2)), (3, Operand.const (Value.int IntKind.i64 4))], type := 24, pos := "l12_draw.go:346", after := #[], guard := none }) rfl (fun K hK => ?_) ?_
    · go_simp
      refine hK.out _ _ (KD.out.al _).c (fun hHeld => ?_)
      clear hK K
      (try simp only [Act.put, List.setIfInBounds_toArray, List.set_cons_zero, List.set_cons_succ])
      have KW : Hid (RD w X 66 r m (w5.drew.alloc (.cells #[.int .i64 0, .int .i64 1, .int .i64 2, .int .i64 4] 3))) := KD.out.al _
      have CL1 : ∀ i, i < 4 → (w5.drew.alloc (.cells #[.int .i64 0, .int .i64 1, .int .i64 2, .int .i64 4] 3)).cell? ⟨w5.heap.size, i, none⟩ = some (.int .i64 (([0, 1, 2, 4] : List Int).getD i 0)) := fun i hi => ints_at1 w5.drew [0, 1, 2, 4] _ rfl i hi
      have szW : (w5.drew.alloc (.cells #[.int .i64 0, .int .i64 1, .int .i64 2, .int .i64 4] 3)).heap.size = w5.heap.size + 1 := by simp
      have hrs := K5.out.rx
      have hXs := K5.out.c.1
      refine wpAnyH_ready (rs := [4]) (by kernel_rfl) (by simp) ?_
      refine AllReadyH.cons (o := { dst := some 28, op := Op.call { callee := Callee.value (Operand.func 36), args := #[Operand.tmp 27, Operand.const (Value.int IntKind.i64 256)], argTypes := #[44, 3] }, type := 3, pos := "l12_draw.go:346", after := #[{ on := 3, ground := Ground.data }], guard := none }) rfl (fun K hK => ?_) ?_
      · go_simp
        go_at_call 36
        refine (pick_pos _ (w5.drew.alloc (.cells #[.int .i64 0, .int .i64 1, .int .i64 2, .int .i64 4] 3)) _ _ KW.out.rd (by omega) (by omega)).mono ?_
        rintro e w6 ⟨⟨p, rfl, p0, p1⟩, hr6, hb6⟩
        have K6 : Hid (RD w X 67 r m w6) := KW.out.step hb6 hr6
        have CL3 : ∀ i, i < 4 → w6.cell? ⟨w5.heap.size, i, none⟩ = some (.int .i64 (([0, 1, 2, 4] : List Int).getD i 0)) := fun i hi => by rw [hb6.cell (p := ⟨w5.heap.size, i, none⟩) (by show w5.heap.size < _; omega) (by show w5.heap.size ≠ w.heap.size + 1; omega)]; exact CL1 i hi
        have sz6 := hb6.size
        rw [szW] at sz6
        refine hK.out _ _ K6.out.c (fun hHeld => ?_)
        clear hK K
        (try simp only [Act.put, List.setIfInBounds_toArray, List.set_cons_zero, List.set_cons_succ])
        refine wpAnyH_ready (rs := [7]) (by kernel_rfl) (by simp) ?_
        refine AllReadyH.cons (o := { dst := some 31, op := Op.call { callee := Callee.value (Operand.func 37), args := #[Operand.tmp 29, Operand.tmp 30], argTypes := #[44, 24] }, type := 3, pos := "l12_draw.go:346", after := #[{ on := 5, ground := Ground.data }, { on := 6, ground := Ground.data }, { on := 4, ground := Ground.chain }], guard := none }) rfl (fun K hK => ?_) ?_
        · go_simp
          go_at_call 37
          refine (one_any w6 _ _ K6.out.rd (by omega) w5.heap.size 4 4 [0, 1, 2, 4] rfl (by omega) (by omega) (by omega) (by omega) CL3).mono ?_
          rintro e w7 ⟨⟨x, rfl, hx⟩, hr7, hb7⟩
          have K7 : Hid (RD w X 68 r m w7) := K6.out.step hb7 hr7
          refine hK.out _ _ K7.out.c (fun hHeld => ?_)
          clear hK K
          (try simp only [Act.put, List.setIfInBounds_toArray, List.set_cons_zero, List.set_cons_succ])
          have xb : 0 ≤ x ∧ x ≤ 4 := by simp only [List.mem_cons, List.not_mem_nil, or_false] at hx; omega
          have pxb : 0 ≤ p * x ∧ p * x ≤ 1020 := ⟨Int.mul_nonneg p0 xb.1, by have := Int.mul_le_mul (show p ≤ 255 by omega) xb.2 xb.1 (by omega); omega⟩
          have g1 := IntWalk.i64_in (p * x) (by omega)
          have g2 := IntWalk.i64_in (s + p * x) (by omega)
          refine wpAnyH_take (i := 8) (oi := { dst := some 32, op := Op.binOp BinOp.mul 3 (Operand.tmp 28) (Operand.tmp 31) 3, type := 3, pos := "l12_draw.go:346", after := #[{ on := 4, ground := Ground.data }, { on := 7, ground := Ground.data }, { on := 14, ground := Ground.gcOnly Departure.lateStores }], guard := none }) (v := ?_) rfl (by kernel_rfl) (by kernel_rfl) (by kernel_rfl) (fun _ _ _ h => h) (Or.inl ⟨by rfl, ?_⟩) hHeld ?_
          rotate_left
          · (intro w7 hC7; go_simp; first | done | rfl)
          (try simp only [Act.put, List.setIfInBounds_toArray, List.set_cons_zero, List.set_cons_succ])
          refine wpAnyH_take (i := 9) (oi := { dst := some 33, op := Op.binOp BinOp.add 3 (Operand.tmp 26) (Operand.tmp 32) 3, type := 3, pos := "l12_draw.go:346", after := #[{ on := 2, ground := Ground.data }, { on := 8, ground := Ground.data }, { on := 14, ground := Ground.gcOnly Departure.lateStores }], guard := none }) (v := ?_) rfl (by kernel_rfl) (by kernel_rfl) (by kernel_rfl) (fun _ _ _ h => h) (Or.inl ⟨by rfl, ?_⟩) hHeld ?_
          rotate_left
          · (intro w7 hC7; go_simp; first | done | rfl)
          (try simp only [Act.put, List.setIfInBounds_toArray, List.set_cons_zero, List.set_cons_succ])
          refine wpAnyH_ready (rs := [11]) (by kernel_rfl) (by simp) ?_
          refine AllReadyH.cons (o := { dst := some 35, op := Op.call { callee := Callee.value (Operand.func 36), args := #[Operand.tmp 34, Operand.const (Value.int IntKind.i64 3)], argTypes := #[44, 3] }, type := 3, pos := "l12_draw.go:346", after := #[{ on := 10, ground := Ground.data }, { on := 7, ground := Ground.chain }], guard := none }) rfl (fun K hK => ?_) ?_
          · go_simp
            go_at_call 36
            refine (pick_pos _ w7 _ _ K7.out.rd (by omega) (by omega)).mono ?_
            rintro e w8 ⟨⟨y, rfl, y0, y1⟩, hr8, hb8⟩
            have K8 : Hid (RD w X 69 r m w8) := K7.out.step hb8 hr8
            have g3 := IntWalk.i64_in (s + p * x - y) (by omega)
            refine hK.out _ _ K8.out.c (fun hHeld => ?_)
            clear hK K
            (try simp only [Act.put, List.setIfInBounds_toArray, List.set_cons_zero, List.set_cons_succ])
            refine wpAnyH_take (i := 12) (oi := { dst := some 36, op := Op.binOp BinOp.sub 3 (Operand.tmp 33) (Operand.tmp 35) 3, type := 3, pos := "l12_draw.go:346", after := #[{ on := 9, ground := Ground.data }, { on := 11, ground := Ground.data }, { on := 14, ground := Ground.gcOnly Departure.lateStores }], guard := none }) (v := ?_) rfl (by kernel_rfl) (by kernel_rfl) (by kernel_rfl) (fun _ _ _ h => h) (Or.inl ⟨by rfl, ?_⟩) hHeld ?_
            rotate_left
            · (intro w7 hC7; go_simp; first | done | rfl)
            (try simp only [Act.put, List.setIfInBounds_toArray, List.set_cons_zero, List.set_cons_succ])
            refine wpAnyH_ready (rs := [13]) (by kernel_rfl) (by simp) ?_
            refine AllReadyH.cons (o := { dst := none, op := Op.store 26 (Operand.tmp 2) (Operand.tmp 24), type := 0, pos := "l12_draw.go:346", after := #[{ on := 0, ground := Ground.data }, { on := 11, ground := Ground.chain }, { on := 0, ground := Ground.phase }, { on := 1, ground := Ground.textOnly Departure.lateStores }, { on := 2, ground := Ground.textOnly Departure.lateStores }, { on := 3, ground := Ground.textOnly Departure.lateStores }, { on := 4, ground := Ground.textOnly Departure.lateStoresUnsure }, { on := 5, ground := Ground.textOnly Departure.lateStores }, { on := 6, ground := Ground.textOnly Departure.lateStores }, { on := 7, ground := Ground.textOnly Departure.lateStoresUnsure }, { on := 8, ground := Ground.textOnly Departure.lateStores }, { on := 9, ground := Ground.textOnly Departure.lateStores }, { on := 10, ground := Ground.textOnly Departure.lateStores }, { on := 11, ground := Ground.textOnly Departure.lateStoresUnsure }, { on := 12, ground := Ground.textOnly Departure.lateStores }], guard := none }) rfl (fun K hK => ?_) ?_
            · refine step_store_mid (by rfl) 26 _ _ (by rfl) w.heap.size 0 #[.int .i64 r.f, .int .i64 r.ev, .int .i64 r.ct, .int .i64 r.un, .slice m.a0 r.ds.length m.c0, .slice m.a1 r.da.length m.c1, .slice m.a2 r.mo.length m.c2, .slice m.a3 r.pl.length m.c3, .int .i64 r.wk] (by rfl) (by rfl) (K8.out.z.there _ rfl) ruleSize (by simp [Value.oneCell']) ?_
              have SX : CF (w8.setCells w.heap.size 0 (#[.int .i64 r.f, .int .i64 r.ev, .int .i64 r.ct, .int .i64 r.un, .slice m.a0 r.ds.length m.c0, .slice m.a1 r.da.length m.c1, .slice m.a2 r.mo.length m.c2, .slice m.a3 r.pl.length m.c3, .int .i64 r.wk] : Array Value).toList) X #[.int .i64 r.f, .int .i64 r.ev, .int .i64 r.ct, .int .i64 r.un, .slice m.a0 r.ds.length m.c0, .slice m.a1 r.da.length m.c1, .slice m.a2 r.mo.length m.c2, .slice m.a3 r.pl.length m.c3, .int .i64 r.wk] := CF.apart (by have := K8.out.rx; omega) _ _ _ K8.out.c
              have FR : CF (w8.setCells w.heap.size 0 (#[.int .i64 r.f, .int .i64 r.ev, .int .i64 r.ct, .int .i64 r.un, .slice m.a0 r.ds.length m.c0, .slice m.a1 r.da.length m.c1, .slice m.a2 r.mo.length m.c2, .slice m.a3 r.pl.length m.c3, .int .i64 r.wk] : Array Value).toList) w.heap.size #[.int .i64 r.f, .int .i64 r.ev, .int .i64 r.ct, .int .i64 r.un, .slice m.a0 r.ds.length m.c0, .slice m.a1 r.da.length m.c1, .slice m.a2 r.mo.length m.c2, .slice m.a3 r.pl.length m.c3, .int .i64 r.wk] := K8.out.z.setCells #[.int .i64 r.f, .int .i64 r.ev, .int .i64 r.ct, .int .i64 r.un, .slice m.a0 r.ds.length m.c0, .slice m.a1 r.da.length m.c1, .slice m.a2 r.mo.length m.c2, .slice m.a3 r.pl.length m.c3, .int .i64 r.wk] rfl
              have FIN : Hid (OL w.heap.size r m (w8.setCells w.heap.size 0 (#[.int .i64 r.f, .int .i64 r.ev, .int .i64 r.ct, .int .i64 r.un, .slice m.a0 r.ds.length m.c0, .slice m.a1 r.da.length m.c1, .slice m.a2 r.mo.length m.c2, .slice m.a3 r.pl.length m.c3, .int .i64 r.wk] : Array Value).toList) ∧ Below w.heap.size w (w8.setCells w.heap.size 0 (#[.int .i64 r.f, .int .i64 r.ev, .int .i64 r.ct, .int .i64 r.un, .slice m.a0 r.ds.length m.c0, .slice m.a1 r.da.length m.c1, .slice m.a2 r.mo.length m.c2, .slice m.a3 r.pl.length m.c3, .int .i64 r.wk] : Array Value).toList)) := ⟨(OL.setCells (by omega) _ _ _ K8.out.l).down (by omega), (But.setCells (Nat.le_refl _) _ _ _ K8.out.b).below (by omega)⟩
              generalize w8.setCells w.heap.size 0 (#[.int .i64 r.f, .int .i64 r.ev, .int .i64 r.ct, .int .i64 r.un, .slice m.a0 r.ds.length m.c0, .slice m.a1 r.da.length m.c1, .slice m.a2 r.mo.length m.c2, .slice m.a3 r.pl.length m.c3, .int .i64 r.wk] : Array Value).toList = WF at SX FR FIN ⊢
              refine hK.out _ _ SX (fun hHeld => ?_)
              clear hK K
              (try simp only [Act.put])
              refine wpAnyH_take (i := 14) (oi := { dst := some 3, op := Op.assign (Operand.tmp 25), type := 3, pos := "l12_draw.go:346", after := #[{ on := 1, ground := Ground.data }, { on := 13, ground := Ground.chain }, { on := 0, ground := Ground.phase }, { on := 1, ground := Ground.phase }, { on := 2, ground := Ground.textOnly Departure.lateStores }, { on := 3, ground := Ground.textOnly Departure.lateStores }, { on := 4, ground := Ground.textOnly Departure.lateStoresUnsure }, { on := 5, ground := Ground.textOnly Departure.lateStores }, { on := 6, ground := Ground.textOnly Departure.lateStores }, { on := 7, ground := Ground.textOnly Departure.lateStoresUnsure }, { on := 8, ground := Ground.textOnly Departure.lateStores }, { on := 9, ground := Ground.textOnly Departure.lateStores }, { on := 10, ground := Ground.textOnly Departure.lateStores }, { on := 11, ground := Ground.textOnly Departure.lateStoresUnsure }, { on := 12, ground := Ground.textOnly Departure.lateStores }, { on := 13, ground := Ground.phase }], guard := none }) (v := ?_) rfl (by kernel_rfl) (by kernel_rfl) (by kernel_rfl) (fun _ _ _ h => h) (Or.inl ⟨by rfl, ?_⟩) hHeld ?_
              rotate_left
              · (intro w7 hC7; go_simp; first | done | rfl)
              (try simp only [Act.put, List.setIfInBounds_toArray, List.set_cons_zero, List.set_cons_succ])
              refine wpAnyH_take (i := 15) (oi := { dst := some 4, op := Op.assign (Operand.tmp 36), type := 3, pos := "l12_draw.go:346", after := #[{ on := 12, ground := Ground.data }, { on := 14, ground := Ground.chain }, { on := 0, ground := Ground.phase }, { on := 1, ground := Ground.phase }, { on := 2, ground := Ground.phase }, { on := 3, ground := Ground.phase }, { on := 4, ground := Ground.phase }, { on := 5, ground := Ground.phase }, { on := 6, ground := Ground.phase }, { on := 7, ground := Ground.phase }, { on := 8, ground := Ground.phase }, { on := 9, ground := Ground.phase }, { on := 10, ground := Ground.phase }, { on := 11, ground := Ground.phase }, { on := 12, ground := Ground.phase }, { on := 13, ground := Ground.phase }, { on := 14, ground := Ground.phase }], guard := none }) (v := ?_) rfl (by kernel_rfl) (by kernel_rfl) (by kernel_rfl) (fun _ _ _ h => h) (Or.inl ⟨by rfl, ?_⟩) hHeld ?_
              rotate_left
              · (intro w7 hC7; go_simp; first | done | rfl)
              (try simp only [Act.put, List.setIfInBounds_toArray, List.set_cons_zero, List.set_cons_succ])
              refine wpAnyH_done (by kernel_rfl) ?_ _
              have z0 := (FR.2 0 _ rfl).1
              have z1 := (FR.2 1 _ rfl).1
              have z2 := (FR.2 2 _ rfl).1
              have z3 := (FR.2 3 _ rfl).1
              have z4 := (FR.2 4 _ rfl).1
              have z5 := (FR.2 5 _ rfl).1
              have z6 := (FR.2 6 _ rfl).1
              have z7 := (FR.2 7 _ rfl).1
              have z8 := (FR.2 8 _ rfl).1
              clear SX FR hHeld
              go_wp2
              refine bodyPost_ret (v := .tuple #[.agg #[.int .i64 r.f, .int .i64 r.ev, .int .i64 r.ct, .int .i64 r.un, .slice m.a0 r.ds.length m.c0, .slice m.a1 r.da.length m.c1, .slice m.a2 r.mo.length m.c2, .slice m.a3 r.pl.length m.c3, .int .i64 r.wk], .int .i64 s, .int .i64 (s + p * x - y)]) (by simp [results, Tryd.results17, go_sem, *]) rfl ⟨r, m, _, _, rfl, FIN.out.1, SM.out, ?_, ?_, FIN.out.2⟩
              · omega
              · omega
            exact AllReadyH.nil
          exact AllReadyH.nil
        exact AllReadyH.nil
      exact AllReadyH.nil
    exact AllReadyH.nil
end Go.Proofs.YtlfglhpepoepcaaDoor
