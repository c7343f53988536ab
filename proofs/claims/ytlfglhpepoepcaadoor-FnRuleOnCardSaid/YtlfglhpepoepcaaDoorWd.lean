/- What the specification draws: a rule. -/
import Derived.Test.YtlfglhpepoepcaaDoorWc
import Derived.Test.YtlfglhpepoepcaaDoorWe
import Derived.Test.YtlfglhpepoepcaaDoorCls
import Derived.Deep.RegionHeld3
import Derived.Deep.DeepCutAuto
import Derived.Laws.StructEq
import Derived.Deep.CutBlock
namespace Go.Proofs.YtlfglhpepoepcaaDoor
open Go.RowKit
set_option linter.unusedVariables false
theorem Hid.mk' {p : Prop} (h : p) : Hid p := h
/-- The lists are short, and no day of the week is there yet. -/
def Sm0 (r : Rl) : Prop := r.ds.length ≤ 0 ∧ r.da.length ≤ 3 ∧ r.mo.length ≤ 3 ∧ (r.pl.length ≤ 3 ∧ 0 ≤ r.wk ∧ r.wk ≤ 6)
theorem Sm0.sml {r : Rl} (h : Sm0 r) : Sml 3 r := ⟨Nat.le_trans h.1 (by omega), h.2⟩
theorem byInfo : (Tryd.prog.info? 38).map (fun i => (i.zero, i.size, i.bytes)) = some (some (.agg #[.int .i64 0, .int .i64 0]), 2, 16) := by kernel_rfl
theorem bFields : Tryd.prog.underlying 38 = some (.struct (Tryd.prog.fieldsOf 38)) := by kernel_rfl
theorem bHeld : Tryd.prog.stoodInHeld 38 = false := by kernel_rfl
theorem bGuard : Tryd.prog.eqGuardType Tryd.prog.depth 38 = false := by kernel_rfl
theorem run_by_neq (x y x' y' : Int) (w : World) : (binOp .neq 38 (.agg #[.int .i64 x, .int .i64 y]) (.agg #[.int .i64 x', .int .i64 y'])).run Tryd.prog w = .ok (.bool !(x == x' && y == y')) w := by
  rw [run_neq_struct, run_equalIn_agg _ _ _ _ _ bFields bHeld]
  go_simp
  by_cases h1 : x = x' <;> by_cases h2 : y = y' <;> simp [h1, h2]
theorem run_by_guard (op : BinOp) (x y : Operand) (xs ys : Array Value) (w : World) : (eqGuard op 38 x y (.agg xs) (.agg ys)).run Tryd.prog w = .ok () w := run_eqGuard_agg w op _ x y xs ys bGuard
theorem pcs_two (l : List (Int × Int)) : ∀ u ∈ pcs l, u.oneCell' = true := by
  intro u hu
  unfold pcs at hu
  obtain ⟨p, _, hp⟩ := List.mem_flatMap.1 hu
  simp at hp
  rcases hp with rfl | rfl <;> rfl
theorem two_news2 {w : World} {H : Nat} {x y : Int} (h : w.cell? ⟨H, 0, none⟩ = some (.int .i64 x) ∧ w.cell? ⟨H, 1, none⟩ = some (.int .i64 y)) : ∀ j u, ([.int .i64 x, .int .i64 y] : List Value)[j]? = some u → w.cell? ((⟨H, 0, none⟩ : Addr).add j) = some u := by
  intro j u hu
  rcases j with _ | _ | j
  · simp at hu; subst hu; simpa [Addr.add] using h.1
  · simp at hu; subst hu; simpa [Addr.add] using h.2
  · simp at hu
theorem two_far2 {W w1 : World} {v : Value} {E : Nat} (H : Nat) {x y : Int} (hg : W.grownBy w1 v.ownBlock) (hv : v = .slice (some ⟨E, 0, none⟩) 0 0) (hne : H ≠ E) (h : W.cell? ⟨H, 0, none⟩ = some (.int .i64 x) ∧ W.cell? ⟨H, 1, none⟩ = some (.int .i64 y)) : w1.cell? ⟨H, 0, none⟩ = some (.int .i64 x) ∧ w1.cell? ⟨H, 1, none⟩ = some (.int .i64 y) := by
  subst hv
  exact ⟨by rw [hg.cell_far ⟨H, 0, none⟩ (cell_lt h.1) (by simp [Value.ownBlock]; exact hne)]; exact h.1, by rw [hg.cell_far ⟨H, 1, none⟩ (cell_lt h.1) (by simp [Value.ownBlock]; exact hne)]; exact h.2⟩
theorem pcs_take' (l : List (Int × Int)) (k : Nat) : pcs (l.take k) = (pcs l).take (k * 2) := by
  induction l generalizing k with
  | nil => simp [pcs]
  | cons p l ih =>
    cases k with
    | zero => simp [pcs]
    | succ k =>
      have := ih k
      simp only [pcs, List.take_succ_cons, List.flatMap_cons, show (k + 1) * 2 = k * 2 + 1 + 1 by omega, List.cons_append, List.nil_append, List.take_succ_cons] at *
      rw [this]
theorem pcs_drop' (l : List (Int × Int)) (k : Nat) : pcs (l.drop k) = (pcs l).drop (k * 2) := by
  induction l generalizing k with
  | nil => simp [pcs]
  | cons p l ih =>
    cases k with
    | zero => simp [pcs]
    | succ k =>
      have := ih k
      simp only [pcs, List.drop_succ_cons, List.flatMap_cons, show (k + 1) * 2 = k * 2 + 1 + 1 by omega, List.cons_append, List.nil_append, List.drop_succ_cons] at *
      rw [this]
/-- The cells of a part of a row of pairs. -/
theorem part_pairs {w0 w' : World} {B g n c : Nat} {T : TypeId} {l : List (Int × Int)} (h : OP w0 B T (.slice (some ⟨g, 0, none⟩) n c) l) (hn : n = l.length) (hg : g < w0.heap.size) (hb : Below w0.heap.size w0 w') (k m : Nat) : ∀ j u, (pcs ((l.drop k).take m))[j]? = some u → w'.cell? ((⟨g, k * 2, none⟩ : Addr).add j) = some u := by
  subst hn
  intro j u hu
  rw [pcs_take', pcs_drop'] at hu
  have hj : j < m * 2 := by
    have := (List.getElem?_eq_some_iff.1 hu).1
    simp at this; omega
  rw [List.getElem?_take, if_pos hj, List.getElem?_drop] at hu
  have hj2 : k * 2 + j < l.length * 2 := by
    have := (List.getElem?_eq_some_iff.1 hu).1
    rw [pcs_len] at this; exact this
  have hc := World.ownsRow.cellAt (w := w0) (base := B) (e := T) (size := 2) (g := g) (n := l.length) (cap := c) (xs := pcs l) h (k * 2 + j) hj2
  have e : (⟨g, k * 2, none⟩ : Addr).add j = ⟨g, k * 2 + j, none⟩ := by
    by_cases h0 : j = 0
    · subst h0; simp [Addr.add]
    · simp [Addr.add, h0]
  rw [e, hb.cell (p := ⟨g, k * 2 + j, none⟩) hg, hc]; exact hu
/-- An append of nothing at all, at a step of a region that draws its order. -/
theorem step_append_none {P : Program} (w : World) {ops : Array Oper} {o : Oper} {a : Act} {K : Act → World → Prop} {Q : Exit → Act → World → Prop} {E : Prop} (hgd : o.guard = none) (s x : Operand) (t : TypeId)
    (ho : o.op = .call { callee := .builtin .append, args := #[s, x], argTypes := #[t, t] })
    (base : Nat) (e : TypeId) (i : TypeInfo) (size : Nat) (ht : P.underlying t = some (.slice e)) (hi : P.info? e = some i)
    (v : Value) (n : Nat) (xs : List Value) (hs : a.eval s = v) (hown : w.ownsRow base e size v n xs) (hx : a.eval x = .slice none 0 0)
    (h : K (a.put o.dst v) w) :
    if Region.wanted o (yielded ops a.tmps) = true then Oper.wp P o a w K Q else E := by
  have hw : Region.wanted o (yielded ops a.tmps) = true := by simp [Region.wanted, hgd]
  rw [if_pos hw]
  have hrun := run_append_owned_none (P := P) (w := w) base t o.type e i size ht hi v n xs hown
  unfold Oper.wp
  simp [execOp, ho, resolve, invoke, builtin, hs, hx, hrun, Result.andThen]
  exact h
theorem days_done {W : World} {B N : Nat} {T : TypeId} {v : Value} {xs ys : List (Int × Int)} {x y : Int} (h : W.ownsRow B T 2 v N ([] ++ pcs xs ++ [.int .i64 x, .int .i64 y] ++ pcs ys)) : ∃ g' c' l', v = .slice (some ⟨g', 0, none⟩) (List.length l') c' ∧ OP W B T (.slice (some ⟨g', 0, none⟩) (List.length l') c') l' ∧ List.length l' = N := by
  have e : ([] ++ pcs xs ++ [.int .i64 x, .int .i64 y] ++ pcs ys : List Value) = pcs (xs ++ [(x, y)] ++ ys) := by rw [pcs_append, pcs_append, List.nil_append]; rfl
  rw [e] at h
  have hN : N = (xs ++ [(x, y)] ++ ys).length := by have := h.1; rw [pcs_len] at this; omega
  subst hN
  have hO : OP W B T v (xs ++ [(x, y)] ++ ys) := h
  obtain ⟨g', c', ev, _⟩ := hO.shape (by simp; omega)
  subst ev
  exact ⟨g', c', _, rfl, hO, rfl⟩
theorem OL.low {B : Nat} {r : Rl} {m : Rm} {W : World} (h : OL B r m W) {p : Addr} (hp : p.block < B) (v : Value) : OL B r m (W.setCell p v) := h.keep fun g h1 h2 => Below.heap_setCell _ _ _ _ (by omega)
theorem OL.down {B B' : Nat} {r : Rl} {m : Rm} {W : World} (h : OL B r m W) (hb : B' ≤ B) : OL B' r m W := ⟨h.d.base hb, h.a.base hb, h.o.base hb, h.p.base hb, h.q⟩
theorem OL.nils (B : Nat) (f ev ct un wk : Int) (W : World) : OL B ⟨f, ev, ct, un, [], [], [], [], wk⟩ ⟨none, 0, none, 0, none, 0, none, 0⟩ W :=
  ⟨OP.nil _ _ _, World.ownsRow_nil _ _ _ _, World.ownsRow_nil _ _ _ _, World.ownsRow_nil _ _ _ _, (fun _ h => by cases h), (fun _ h => by cases h), (fun _ h => by cases h)⟩
/-- A rule's own block, laid. -/
theorem RS.made {w0 W : World} {rb R L : Nat} {f ev wk : Int} (hr : Rd W rb L) (s0 : rb < w0.heap.size) (hR : w0.heap.size ≤ R) (rx : R < W.heap.size) (z : CF W R (rcs ⟨0, 0, 0, 0, [], [], [], [], 0⟩ ⟨none, 0, none, 0, none, 0, none, 0⟩)) (b : But rb w0.heap.size w0 W) (T : TypeId) :
    RS w0 rb R W.heap.size L ⟨f, ev, 0, 0, [], [], [], [], wk⟩ ⟨none, 0, none, 0, none, 0, none, 0⟩ (W.alloc (.cells #[.int .i64 f, .int .i64 ev, .int .i64 0, .int .i64 0, .slice none 0 0, .slice none 0 0, .slice none 0 0, .slice none 0 0, .int .i64 wk] T)) := by
  have bz : Below W.heap.size W (W.alloc (.cells #[.int .i64 f, .int .i64 ev, .int .i64 0, .int .i64 0, .slice none 0 0, .slice none 0 0, .slice none 0 0, .slice none 0 0, .int .i64 wk] T)) := (Below.refl _ _).alloc (Nat.le_refl _) _
  exact ⟨hr.below bz, s0, hR, rx, z.below bz, CF.new W _ T, OL.nils _ _ _ _ _ _ _, b.trans ((But.of_below bz).mono b.size)⟩
/-- The cells that are read while a day of the week finds its place. -/
theorem day_cells {w0 W0 : World} {rb R X L Bb : Nat} {r : Rl} {m : Rm} {nm dy : Int} (h : RS w0 rb R X L r m W0) (hc : CF W0 Bb #[.int .i64 nm, .int .i64 dy]) (k : Nat) (hk : k < r.ds.length) :
    ∃ g, m.a0 = some ⟨g, 0, none⟩ ∧ ∀ W, Below W0.heap.size W0 W → W.cell? ⟨X, 4, none⟩ = some (.slice (some ⟨g, 0, none⟩) r.ds.length m.c0) ∧ W.cell? ⟨g, k * 2, none⟩ = some (.int .i64 (tAt r.ds k)) ∧ W.cell? ⟨g, k * 2 + 1, none⟩ = some (.int .i64 (tSh r.ds k)) ∧ W.cell? ⟨Bb, 0, none⟩ = some (.int .i64 nm) ∧ W.cell? ⟨Bb, 1, none⟩ = some (.int .i64 dy) := by
  obtain ⟨g, cap, e, _, hg⟩ := h.l.d.shape (by omega)
  have o := h.l.d
  simp only [Value.slice.injEq] at e
  rw [e.1] at o
  obtain ⟨d0, d1, _⟩ := o.at hk
  have x4 : W0.cell? ⟨X, 4, none⟩ = some (.slice m.a0 r.ds.length m.c0) := (h.c.2 4 _ rfl).1
  rw [e.1] at x4
  have b0 : W0.cell? ⟨Bb, 0, none⟩ = some (.int .i64 nm) := (hc.2 0 _ rfl).1
  have b1 : W0.cell? ⟨Bb, 1, none⟩ = some (.int .i64 dy) := (hc.2 1 _ rfl).1
  refine ⟨g, e.1, fun W hb => ⟨?_, ?_, ?_, ?_, ?_⟩⟩
  · rw [hb.cell (p := ⟨X, 4, none⟩) (cell_lt x4)]; exact x4
  · rw [hb.cell (p := ⟨g, k * 2, none⟩) hg]; exact d0
  · rw [hb.cell (p := ⟨g, k * 2 + 1, none⟩) hg]; exact d1
  · rw [hb.cell (p := ⟨Bb, 0, none⟩) hc.1]; exact b0
  · rw [hb.cell (p := ⟨Bb, 1, none⟩) hc.1]; exact b1
set_option maxRecDepth 100000 in
set_option maxHeartbeats 16000000 in
theorem rule_any (w : World) (rb L : Nat) (h : Rd w rb L) (hL : L ≤ 1099511500000) :
    Calls Tryd.prog 55 #[.pointer (some ⟨rb, 0, none⟩)] w fun e w' => (∃ r m, e = .returned (.agg (rcs r m)) ∧ OL w.heap.size r m w' ∧ Sml 3 r) ∧ Rd w' rb (L + 60) ∧ But rb w.heap.size w w' := by
  have hs := h.size
  have bz : Below w.heap.size w (w.alloc (.cells (rcs ⟨0, 0, 0, 0, [], [], [], [], 0⟩ ⟨none, 0, none, 0, none, 0, none, 0⟩) 26)) := (Below.refl _ _).alloc (Nat.le_refl _) _
  have h0 := h.below bz
  have Z0 : CF (w.alloc (.cells (rcs ⟨0, 0, 0, 0, [], [], [], [], 0⟩ ⟨none, 0, none, 0, none, 0, none, 0⟩) 26)) w.heap.size (rcs ⟨0, 0, 0, 0, [], [], [], [], 0⟩ ⟨none, 0, none, 0, none, 0, none, 0⟩) := CF.new w _ _
  have S0 : Hid ((w.alloc (.cells (rcs ⟨0, 0, 0, 0, [], [], [], [], 0⟩ ⟨none, 0, none, 0, none, 0, none, 0⟩) 26)).heap.size = w.heap.size + 1) := by unfold Hid; simp
  have HW0 : Hid (w.alloc (.cells (rcs ⟨0, 0, 0, 0, [], [], [], [], 0⟩ ⟨none, 0, none, 0, none, 0, none, 0⟩) 26) = w.alloc (.cells #[.int .i64 0, .int .i64 0, .int .i64 0, .int .i64 0, .slice none 0 0, .slice none 0 0, .slice none 0 0, .slice none 0 0, .int .i64 0] 26)) := rfl
  generalize w.alloc (.cells (rcs ⟨0, 0, 0, 0, [], [], [], [], 0⟩ ⟨none, 0, none, 0, none, 0, none, 0⟩) 26) = W0 at bz h0 Z0 S0 HW0
  clear h
  go_enter Tryd.func55, Tryd.ntmps55
  go_wp2_with fail
  rw [← HW0.out]
  refine (pick_pos _ W0 rb L h0 (by omega) (by omega)).mono ?_
  rintro e w1 ⟨⟨q, rfl, _, _⟩, hr1, hb1⟩
  clear h0
  go_wp2_with fail
  refine (one_list w1 rb _ hr1 (by omega) 6 [1, 1, 1, 2, 3, 5] rfl (by omega) (by omega) _ rfl).mono ?_
  rintro e w2 ⟨⟨ev, rfl, _⟩, hr2, hb2⟩
  clear hr1
  go_wp2_with fail
  refine (one_list w2 rb _ hr2 (by omega) 4 [0, 0, 6, 3] rfl (by omega) (by omega) _ rfl).mono ?_
  rintro e w3 ⟨⟨wk, rfl, hwk⟩, hr3, hb3⟩
  have HWK : Hid (0 ≤ wk ∧ wk ≤ 6) := by unfold Hid; simp at hwk; omega
  clear hwk
  have ss := S0.out
  have k1 := hb1.size
  have k2 := hb2.size
  have k3 := hb3.size
  have K0 : Hid (RS w rb w.heap.size w3.heap.size (L + 3) ⟨1 + q, ev, 0, 0, [], [], [], [], wk⟩ ⟨none, 0, none, 0, none, 0, none, 0⟩ (w3.alloc (.cells #[.int .i64 (1 + q), .int .i64 ev, .int .i64 0, .int .i64 0, .slice none 0 0, .slice none 0 0, .slice none 0 0, .slice none 0 0, .int .i64 wk] 26))) :=
    RS.made hr3 hs (Nat.le_refl _) (by omega) ((((Z0.but hb1 (by omega)).but hb2 (by omega))).but hb3 (by omega)) ((But.of_below bz).trans ((hb1.mono (by omega)).trans ((hb2.mono (by omega)).trans (hb3.mono (by omega))))) _
  clear hr2 hr3 hb1 hb2 hb3 bz Z0 S0 HW0 ss k1 k2 k3
  go_wp2_with fail
  generalize w3.alloc (.cells #[.int .i64 (1 + q), .int .i64 ev, .int .i64 0, .int .i64 0, .slice none 0 0, .slice none 0 0, .slice none 0 0, .slice none 0 0, .int .i64 wk] 26) = W1 at K0 ⊢
  generalize w3.heap.size = X at K0 ⊢
  refine (pick_pos _ W1 rb _ K0.out.rd (by omega) (by omega)).mono ?_
  rintro e w4 ⟨⟨sw, rfl, _, _⟩, hr4, hb4⟩
  have K1 : Hid (∃ r m, RS w rb w.heap.size X (L + 4) r m w4 ∧ Sm0 r) := ⟨_, _, K0.out.step hb4 hr4, ⟨Nat.zero_le _, Nat.zero_le _, Nat.zero_le _, Nat.zero_le _, HWK.out⟩⟩
  clear hr4 hb4 K0
  go_upto_block 0 with fail
  go_cut [3] (fun p wc => p = .pointer (some ⟨X, 0, none⟩) ∧ ∃ r m, RS w rb w.heap.size X (L + 5) r m wc ∧ Sm0 r)
  case first =>
    obtain ⟨r, m, K, sm⟩ := K1.out
    have HK : Hid (RS w rb w.heap.size X (L + 4) r m w4) := K
    have rd := K.rd
    clear K K1
    by_cases e0 : sw = 0
    · subst e0
      go_wp2_with fail
      refine (one_list w4 rb _ rd (by omega) 5 [1, 2, 5, 10, 30] rfl (by omega) (by omega) _ rfl).mono ?_
      rintro e w5 ⟨⟨x, rfl, _⟩, hr5, hb5⟩
      have K5 := HK.out.step hb5 hr5
      have c2 := (K5.c.2 2 _ rfl).1
      have f2 := (K5.c.2 2 _ rfl).2
      have fin : Hid (∃ r m, RS w rb w.heap.size X (L + 5) r m (w5.setCell ⟨X, 2, none⟩ (.int .i64 x)) ∧ Sm0 r) := ⟨⟨r.f, r.ev, x, r.un, r.ds, r.da, r.mo, r.pl, r.wk⟩, m, K5.put 2 (.int .i64 x) (by omega) rfl (K5.l.re rfl rfl rfl rfl), sm⟩
      clear K5 hr5 hb5 HK rd
      go_wp2
      go_meet
      case rel => exact ⟨rfl, fin.out⟩
    · by_cases e1 : sw = 1
      · subst e1
        go_wp2_with fail
        refine (pick_pos _ w4 rb _ rd (by omega) (by omega)).mono ?_
        rintro e w5 ⟨⟨x, rfl, x0, x1⟩, hr5, hb5⟩
        have K5 := HK.out.step hb5 hr5
        have c3 := (K5.c.2 3 _ rfl).1
        have f3 := (K5.c.2 3 _ rfl).2
        have fin : ∀ x : Int, ∃ r m, RS w rb w.heap.size X (L + 5) r m (w5.setCell ⟨X, 3, none⟩ (.int .i64 x)) ∧ Sm0 r := fun x => ⟨⟨r.f, r.ev, r.ct, x, r.ds, r.da, r.mo, r.pl, r.wk⟩, m, K5.put 3 (.int .i64 x) (by omega) rfl (K5.l.re rfl rfl rfl rfl), sm⟩
        have FIN : Hid (∀ x : Int, ∃ r m, RS w rb w.heap.size X (L + 5) r m (w5.setCell ⟨X, 3, none⟩ (.int .i64 x)) ∧ Sm0 r) := fin
        clear K5 hr5 hb5 HK rd fin
        go_wp2
        go_meet
        case rel => exact ⟨rfl, FIN.out _⟩
      · have h0 : (sw == 0) = false := beq_eq_false_iff_ne.2 e0
        have h1 : (sw == 1) = false := beq_eq_false_iff_ne.2 e1
        clear e0 e1
        go_wp2
        go_meet
        case rel => exact ⟨rfl, r, m, HK.out.more (by omega), sm⟩
  clear K1
  obtain ⟨rfl, hc⟩ := hcut
  generalize wc = wa at hc ⊢
  obtain ⟨r, m, K, sm⟩ := hc
  have rd := K.rd
  have HK : Hid (RS w rb w.heap.size X (L + 5) r m wa) := K
  clear K
  go_wp2_with fail
  refine (pick_pos _ wa rb _ rd (by omega) (by omega)).mono ?_
  rintro e wdm ⟨⟨xm, rfl, _, _⟩, hr4, hb4⟩
  have hcm : Hid (∃ r m, RS w rb w.heap.size X (L + 6) r m wdm ∧ Sm0 r) := ⟨r, m, HK.out.step hb4 hr4, sm⟩
  obtain ⟨hqm, HQm⟩ : ∃ b : Bool, (xm == 0) = b := ⟨_, rfl⟩
  clear hr4 hb4 HK rd sm
  go_upto_if 35 with fail
  go_cut [3] (fun p wc => p = .pointer (some ⟨X, 0, none⟩) ∧ ∃ r m, RS w rb w.heap.size X (L + 10) r m wc ∧ Sm0 r)
  case first =>
    obtain ⟨r, m, K, sm⟩ := hcm.out
    have HK : Hid (RS w rb w.heap.size X (L + 6) r m wdm) := K
    have rd := K.rd
    have HX : Hid (X < wdm.heap.size) := K.c.1
    clear K hcm
    cases hqm with
    | true =>
      go_wp2_with fail
      refine (ints_list wdm rb _ rd (by omega) 6 3 [1, 2, 3, 6, 10, 12] rfl (by omega) (by omega) _ rfl (by omega) _ rfl).mono ?_
      rintro e w5 ⟨⟨g, c, l, rfl, O, hl⟩, hr5, hb5⟩
      have Kc := HK.out.step hb5 hr5
      have c2 := (Kc.c.2 6 _ rfl).1
      have f2 := (Kc.c.2 6 _ rfl).2
      have fin : Hid (∃ r m, RS w rb w.heap.size X (L + 10) r m (w5.setCell ⟨X, 6, none⟩ (.slice (some ⟨g, 0, none⟩) l.length c)) ∧ Sm0 r) := ⟨⟨r.f, r.ev, r.ct, r.un, r.ds, r.da, l, r.pl, r.wk⟩, ⟨m.a0, m.c0, m.a1, m.c1, some ⟨g, 0, none⟩, c, m.a3, m.c3⟩, (RS.put (r' := ⟨r.f, r.ev, r.ct, r.un, r.ds, r.da, l, r.pl, r.wk⟩) (m' := ⟨m.a0, m.c0, m.a1, m.c1, some ⟨g, 0, none⟩, c, m.a3, m.c3⟩) Kc 6 _ (by omega) rfl ⟨Kc.l.d, Kc.l.a, O.base (Nat.succ_le_of_lt HX.out), Kc.l.p, own_ne HK.out.l.a (Nat.le_refl _) O, Kc.l.q.2.1, fun b h1 h2 => own_ne HK.out.l.p (Nat.le_refl _) O b h2 h1⟩).more (by omega), ⟨sm.1, sm.2.1, Nat.le_trans hl (by omega), sm.2.2.2⟩⟩
      clear Kc hr5 hb5 HK rd O
      go_wp2
      go_meet
      case rel => exact ⟨rfl, fin.out⟩
    | false =>
      go_wp2
      go_meet
      case rel => exact ⟨rfl, r, m, HK.out.more (by omega), sm⟩
  clear hcm
  obtain ⟨rfl, hc⟩ := hcut
  generalize wc = wb at hc ⊢
  go_upto_region 9 with fail
  go_cut [3, 47] (fun p t wc => p = .pointer (some ⟨X, 0, none⟩) ∧ (∃ b : Bool, t = .bool b) ∧ ∃ r m, RS w rb w.heap.size X (L + 11) r m wc ∧ Sm0 r)
  case first =>
    obtain ⟨r, m, K, sm⟩ := hc
    have c0 : wb.cell? ⟨X, 0, none⟩ = some (.int .i64 r.f) := (K.c.2 0 _ rfl).1
    have rd := K.rd
    have HK : Hid (RS w rb w.heap.size X (L + 10) r m wb) := K
    clear K
    by_cases hf : r.f = 2
    · have hf2 : (r.f != 2) = false := by simp [hf]
      clear hf
      go_wp2
      go_meet
      case rel => exact ⟨rfl, ⟨_, rfl⟩, r, m, HK.out.more (by omega), sm⟩
    · have hf2 : (r.f != 2) = true := by simp [hf]
      clear hf
      go_wp2_with fail
      refine (pick_pos _ wb rb _ rd (by omega) (by omega)).mono ?_
      rintro e w5 ⟨⟨x, rfl, _, _⟩, hr5, hb5⟩
      have K5 : Hid (RS w rb w.heap.size X (L + 11) r m w5) := HK.out.step hb5 hr5
      clear hr5 hb5 HK rd c0
      go_wp2
      go_meet
      case rel => exact ⟨rfl, ⟨_, rfl⟩, r, m, K5.out, sm⟩
  obtain ⟨rfl, ⟨hqd, rfl⟩, hc⟩ := hcut
  generalize wc = wdd at hc ⊢
  have hcd : Hid (∃ r m, RS w rb w.heap.size X (L + 11) r m wdd ∧ Sm0 r) := hc
  clear hc
  go_upto_if 47 with fail
  go_cut [3] (fun p wc => p = .pointer (some ⟨X, 0, none⟩) ∧ ∃ r m, RS w rb w.heap.size X (L + 15) r m wc ∧ Sm0 r)
  case first =>
    obtain ⟨r, m, K, sm⟩ := hcd.out
    have HK : Hid (RS w rb w.heap.size X (L + 11) r m wdd) := K
    have rd := K.rd
    have HX : Hid (X < wdd.heap.size) := K.c.1
    clear K hcd
    cases hqd with
    | true =>
      go_wp2_with fail
      refine (ints_list wdd rb _ rd (by omega) 10 3 [1, 2, 13, 15, 29, 30, 31, -1, -2, -31] rfl (by omega) (by omega) _ rfl (by omega) _ rfl).mono ?_
      rintro e w5 ⟨⟨g, c, l, rfl, O, hl⟩, hr5, hb5⟩
      have Kc := HK.out.step hb5 hr5
      have c2 := (Kc.c.2 5 _ rfl).1
      have f2 := (Kc.c.2 5 _ rfl).2
      have fin : Hid (∃ r m, RS w rb w.heap.size X (L + 15) r m (w5.setCell ⟨X, 5, none⟩ (.slice (some ⟨g, 0, none⟩) l.length c)) ∧ Sm0 r) := ⟨⟨r.f, r.ev, r.ct, r.un, r.ds, l, r.mo, r.pl, r.wk⟩, ⟨m.a0, m.c0, some ⟨g, 0, none⟩, c, m.a2, m.c2, m.a3, m.c3⟩, (RS.put (r' := ⟨r.f, r.ev, r.ct, r.un, r.ds, l, r.mo, r.pl, r.wk⟩) (m' := ⟨m.a0, m.c0, some ⟨g, 0, none⟩, c, m.a2, m.c2, m.a3, m.c3⟩) Kc 5 _ (by omega) rfl ⟨Kc.l.d, O.base (Nat.succ_le_of_lt HX.out), Kc.l.o, Kc.l.p, (fun b h1 h2 => own_ne HK.out.l.o (Nat.le_refl _) O b h2 h1), (fun b h1 h2 => own_ne HK.out.l.p (Nat.le_refl _) O b h2 h1), Kc.l.q.2.2⟩).more (by omega), ⟨sm.1, Nat.le_trans hl (by omega), sm.2.2.1, sm.2.2.2⟩⟩
      clear Kc hr5 hb5 HK rd O
      go_wp2
      go_meet
      case rel => exact ⟨rfl, fin.out⟩
    | false =>
      go_wp2
      go_meet
      case rel => exact ⟨rfl, r, m, HK.out.more (by omega), sm⟩
  clear hcd
  obtain ⟨rfl, hc⟩ := hcut
  generalize wc = we at hc ⊢
  obtain ⟨r, m, K, sm⟩ := hc
  have rd := K.rd
  have HK : Hid (RS w rb w.heap.size X (L + 15) r m we) := K
  clear K
  go_wp2_with fail
  refine (pick_pos _ we rb _ rd (by omega) (by omega)).mono ?_
  rintro e wdy ⟨⟨xy, rfl, _, _⟩, hr4, hb4⟩
  have hcy : Hid (∃ r m, RS w rb w.heap.size X (L + 16) r m wdy ∧ Sm0 r) := ⟨r, m, HK.out.step hb4 hr4, sm⟩
  obtain ⟨hqy, HQy⟩ : ∃ b : Bool, (xy == 0) = b := ⟨_, rfl⟩
  clear hr4 hb4 HK rd sm
  go_upto_if 54 with fail
  go_cut [3] (fun p wc => p = .pointer (some ⟨X, 0, none⟩) ∧ ∃ r m, RS w rb w.heap.size X (L + 27) r m wc ∧ Sml 3 r)
  case first =>
    obtain ⟨r, m, K, sm⟩ := hcy.out
    have HK : Hid (RS w rb w.heap.size X (L + 16) r m wdy) := K
    clear hcy
    cases hqy with
    | false =>
      clear K
      go_wp2
      go_meet
      case rel => exact ⟨rfl, r, m, HK.out.more (by omega), sm.sml⟩
    | true =>
      have rd := K.rd
      have c0 : wdy.cell? ⟨X, 0, none⟩ = some (.int .i64 r.f) := (K.c.2 0 _ rfl).1
      have c1 : wdy.cell? ⟨X, 1, none⟩ = some (.int .i64 r.ev) := (K.c.2 1 _ rfl).1
      have c2 : wdy.cell? ⟨X, 2, none⟩ = some (.int .i64 r.ct) := (K.c.2 2 _ rfl).1
      have c3 : wdy.cell? ⟨X, 3, none⟩ = some (.int .i64 r.un) := (K.c.2 3 _ rfl).1
      have c4 : wdy.cell? ⟨X, 4, none⟩ = some (.slice m.a0 r.ds.length m.c0) := (K.c.2 4 _ rfl).1
      have c5 : wdy.cell? ⟨X, 5, none⟩ = some (.slice m.a1 r.da.length m.c1) := (K.c.2 5 _ rfl).1
      have c6 : wdy.cell? ⟨X, 6, none⟩ = some (.slice m.a2 r.mo.length m.c2) := (K.c.2 6 _ rfl).1
      have c7 : wdy.cell? ⟨X, 7, none⟩ = some (.slice m.a3 r.pl.length m.c3) := (K.c.2 7 _ rfl).1
      have c8 : wdy.cell? ⟨X, 8, none⟩ = some (.int .i64 r.wk) := (K.c.2 8 _ rfl).1
      clear K
      go_wp2_with fail
      refine (specMost r.f r.ev r.ct r.un m.a0 r.ds.length m.c0 m.a1 r.da.length m.c1 m.a2 r.mo.length m.c2 m.a3 r.pl.length m.c3 r.wk wdy _ rfl).mono ?_
      rintro e w5 ⟨rfl, b5⟩
      have K5 : Hid (RS w rb w.heap.size X (L + 16) r m w5) := HK.out.step (But.of_below b5) (rd.below b5)
      have rd5 := K5.out.rd
      generalize numM r.f r.mo.length = mst
      clear b5 rd HK c0 c1 c2 c3 c4 c5 c6 c7 c8
      go_wp2_with fail
      refine (pick_pos _ w5 rb _ rd5 (by omega) (by omega)).mono ?_
      rintro e w6 ⟨⟨x, rfl, x0, x1⟩, hr6, hb6⟩
      have K6 : Hid (RS w rb w.heap.size X (L + 17) r m w6) := K5.out.step hb6 hr6
      obtain ⟨k0, rfl⟩ := Int.eq_ofNat_of_zero_le x0
      have HSM : Hid (Sm0 r) := sm
      have hk0 : k0 ≤ 2 := by omega
      clear rd5 K5 hr6 hb6 sm x0 x1
      go_wp2
      go_loopw [5, 6, 7] (fun n _ _ wr => ∃ (j : Nat) (r : Rl) (m : Rm), n = .int .i64 j ∧ r.ds.length + j ≤ 3 ∧ RS w rb w.heap.size X (L + 26 - 3 * j) r m wr ∧ r.da.length ≤ 3 ∧ r.mo.length ≤ 3 ∧ (r.pl.length ≤ 3 ∧ 0 ≤ r.wk ∧ r.wk ≤ 6)) (fun n _ _ _ => (intOf n).toNat)
      case atStart => exact ⟨k0 + 1, r, m, by go_num, by have := HSM.out.1; omega, K6.out.more (by omega), HSM.out.2.1, HSM.out.2.2.1, HSM.out.2.2.2⟩
      case round =>
        clear K6 HSM
        obtain ⟨j, r, m, rfl, hj, K, s1, s2, s3⟩ := hrel
        obtain ⟨wo, hwo⟩ : ∃ wo, wo = wr := ⟨wr, rfl⟩
        subst hwo
        have HSM : Hid (r.ds.length + j ≤ 3 ∧ r.da.length ≤ 3 ∧ r.mo.length ≤ 3 ∧ (r.pl.length ≤ 3 ∧ 0 ≤ r.wk ∧ r.wk ≤ 6)) := ⟨hj, s1, s2, s3⟩
        clear hj s1 s2 s3
        by_cases hlt : 0 < j
        · obtain ⟨i, rfl⟩ : ∃ i, j = i + 1 := ⟨j - 1, by omega⟩
          have hi2 : i ≤ 2 := by have := HSM.out.1; omega
          have HK : Hid (RS w rb w.heap.size X (L + 26 - 3 * (i + 1)) r m wo) := K
          have rd := K.rd
          have hrr : rb < wo.heap.size := rd.size
          clear K
          go_wp2_with fail
          refine (pick_pos _ wo rb _ rd (by omega) (by omega)).mono ?_
          rintro e w7 ⟨⟨dy, rfl, _, _⟩, hr7, hb7⟩
          have BZ : Below w7.heap.size w7 (w7.alloc (.cells #[.int .i64 0, .int .i64 dy] 38)) := (Below.refl _ _).alloc (Nat.le_refl _) _
          have H8 : Hid (But rb wo.heap.size wo (w7.alloc (.cells #[.int .i64 0, .int .i64 dy] 38)) ∧ Rd (w7.alloc (.cells #[.int .i64 0, .int .i64 dy] 38)) rb (L + 26 - 3 * (i + 1) + 1) ∧ CF (w7.alloc (.cells #[.int .i64 0, .int .i64 dy] 38)) w7.heap.size #[.int .i64 0, .int .i64 dy] ∧ wo.heap.size ≤ w7.heap.size) := ⟨hb7.trans ((But.of_below BZ).mono hb7.size), hr7.below BZ, CF.new _ _ _, hb7.size⟩
          clear hr7 hb7 BZ rd
          go_upto_region 17 with fail
          generalize w7.alloc (.cells #[.int .i64 0, .int .i64 dy] 38) = w8 at H8 ⊢
          generalize w7.heap.size = Bb at H8 ⊢
          have hBb : wo.heap.size ≤ Bb := H8.out.2.2.2
          go_cut [6, 73] (fun p t wc => p = .pointer (some ⟨Bb, 0, none⟩) ∧ (∃ b : Bool, t = .bool b) ∧ But rb wo.heap.size wo wc ∧ Rd wc rb (L + 25 - 3 * i) ∧ CF wc Bb #[.int .i64 0, .int .i64 dy])
          case first =>
            obtain ⟨b8, r8, c8, _⟩ := H8.out
            by_cases hm : 0 < mst
            · have hm2 : decide (0 < mst) = true := decide_eq_true hm
              go_wp2_with fail
              refine (pick_pos _ w8 rb _ r8 (by omega) (by omega)).mono ?_
              rintro e w9 ⟨⟨x, rfl, _, _⟩, hr9, hb9⟩
              have fin : Hid (But rb wo.heap.size wo w9 ∧ Rd w9 rb (L + 25 - 3 * i) ∧ CF w9 Bb #[.int .i64 0, .int .i64 dy]) := ⟨b8.trans (hb9.mono b8.size), hr9.mono (by omega), c8.but hb9 (by omega)⟩
              clear b8 r8 c8 hr9 hb9 H8
              go_wp2
              go_meet
              case rel => exact ⟨rfl, ⟨_, rfl⟩, fin.out⟩
            · have hm2 : decide (0 < mst) = false := decide_eq_false hm
              have fin : Hid (But rb wo.heap.size wo w8 ∧ Rd w8 rb (L + 25 - 3 * i) ∧ CF w8 Bb #[.int .i64 0, .int .i64 dy]) := ⟨b8, r8.mono (by omega), c8⟩
              clear b8 r8 c8 H8
              go_wp2
              go_meet
              case rel => exact ⟨rfl, ⟨_, rfl⟩, fin.out⟩
          obtain ⟨rfl, ⟨hb, rfl⟩, hc⟩ := hcut
          clear H8
          generalize wc = w9 at hc ⊢
          go_upto_if 73 with fail
          go_cut [6] (fun p wc => p = .pointer (some ⟨Bb, 0, none⟩) ∧ ∃ nm : Int, But rb wo.heap.size wo wc ∧ Rd wc rb (L + 26 - 3 * i) ∧ CF wc Bb #[.int .i64 nm, .int .i64 dy])
          case first =>
            obtain ⟨b9, r9, c9⟩ := hc
            cases hb with
            | true =>
              have H9 : Hid (But rb wo.heap.size wo w9 ∧ CF w9 Bb #[.int .i64 0, .int .i64 dy]) := ⟨b9, c9⟩
              clear b9 c9
              go_wp2_with fail
              refine (one_list w9 rb _ r9 (by omega) 6 [1, 2, -1, -2, 5, -5] rfl (by omega) (by omega) _ rfl).mono ?_
              rintro e w10 ⟨⟨nm, rfl, _⟩, hr10, hb10⟩
              have C10 := H9.out.2.but hb10 (by omega)
              have q0 : w10.cell? ⟨Bb, 0, none⟩ = some (.int .i64 0) := (C10.2 0 _ rfl).1
              have f0 : w10.frozen? ⟨Bb, 0, none⟩ = false := (C10.2 0 _ rfl).2
              have fin : Hid (But rb wo.heap.size wo (w10.setCell ⟨Bb, 0, none⟩ (.int .i64 nm)) ∧ Rd (w10.setCell ⟨Bb, 0, none⟩ (.int .i64 nm)) rb (L + 26 - 3 * i) ∧ CF (w10.setCell ⟨Bb, 0, none⟩ (.int .i64 nm)) Bb #[.int .i64 nm, .int .i64 dy]) := ⟨(H9.out.1.trans (hb10.mono H9.out.1.size)).setCell (p := ⟨Bb, 0, none⟩) (.inl hBb) _, (hr10.mono (by omega)).setCell (p := ⟨Bb, 0, none⟩) (by show rb < Bb; omega) _, C10.set 0 (.int .i64 nm) (by simp)⟩
              clear C10 hr10 hb10 H9 r9
              go_wp2
              go_meet
              case rel => exact ⟨rfl, nm, fin.out⟩
            | false =>
              have fin : Hid (But rb wo.heap.size wo w9 ∧ Rd w9 rb (L + 26 - 3 * i) ∧ CF w9 Bb #[.int .i64 0, .int .i64 dy]) := ⟨b9, r9.mono (by omega), c9⟩
              clear b9 r9 c9
              go_wp2
              go_meet
              case rel => exact ⟨rfl, 0, fin.out⟩
          clear hc
          obtain ⟨rfl, nm, hc⟩ := hcut
          generalize wc = wA at hc ⊢
          have KA : Hid (RS w rb w.heap.size X (L + 26 - 3 * i) r m wA) := HK.out.step hc.1 hc.2.1
          have CA : Hid (CF wA Bb #[.int .i64 nm, .int .i64 dy]) := hc.2.2
          have x4 : wA.cell? ⟨X, 4, none⟩ = some (.slice m.a0 r.ds.length m.c0) := (KA.out.c.2 4 _ rfl).1
          have f4 : wA.frozen? ⟨X, 4, none⟩ = false := (KA.out.c.2 4 _ rfl).2
          have HX4 : Hid (wA.cell? ⟨X, 4, none⟩ = some (.slice m.a0 r.ds.length m.c0) ∧ wA.frozen? ⟨X, 4, none⟩ = false ∧ X < wA.heap.size) := ⟨x4, f4, cell_lt x4⟩
          clear hc x4 f4 HK
          go_upto_block 3 with fail
          go_cut [7] (fun kv wc => ∃ k : Nat, k ≤ r.ds.length ∧ kv = .int .i64 k ∧ Below wA.heap.size wA wc)
          case first =>
            go_wp2
            go_loopw [7] (fun kv wr => ∃ k : Nat, k ≤ r.ds.length ∧ kv = .int .i64 k ∧ Below wA.heap.size wA wr) (fun kv _ => r.ds.length - (intOf kv).toNat)
            case atStart => exact ⟨0, by omega, rfl, Below.refl _ _⟩
            case round =>
              obtain ⟨k, hk, rfl, hbk⟩ := hrel
              by_cases hkl : k < r.ds.length
              · obtain ⟨g, ha0, HFX⟩ := day_cells KA.out CA.out k hkl
                have hi1 : (k : Int) < (r.ds.length : Int) := by omega
                have hd3 : r.ds.length ≤ 3 := by have := HSM.out.1; omega
                have hi0 : (0 : Int) ≤ (k : Int) := by omega
                obtain ⟨a, ha⟩ : ∃ a, ahB (tAt r.ds k) (tSh r.ds k) nm dy = a := ⟨_, rfl⟩
                have HAH : Hid (ahB (tAt r.ds k) (tSh r.ds k) nm dy = a) := ha
                clear ha
                generalize tAt r.ds k = tx at HAH HFX
                generalize tSh r.ds k = ty at HAH HFX
                have hx4 := (HFX wr hbk).1
                go_wp2
                refine wp_region_cl (fun w' => Below wA.heap.size wA w') (by kernel_rfl) (by kernel_rfl) hbk.drew ?_
                have HFX' : Hid (∀ W, Below wA.heap.size wA W → W.cell? ⟨X, 4, none⟩ = some (.slice (some ⟨g, 0, none⟩) r.ds.length m.c0) ∧ W.cell? ⟨g, k * 2, none⟩ = some (.int .i64 tx) ∧ W.cell? ⟨g, k * 2 + 1, none⟩ = some (.int .i64 ty) ∧ W.cell? ⟨Bb, 0, none⟩ = some (.int .i64 nm) ∧ W.cell? ⟨Bb, 1, none⟩ = some (.int .i64 dy)) := HFX
                clear HFX hx4 ha0
                repeat (first
                  | go_big_quiet_skip
                  | (go_big_quiet_want; go_big_quiet_op; go_big_quiet_on)
                  | (go_big_quiet_want
                     apply Exists.intro
                     refine ⟨fun w7 hC7 => ?_, ?_⟩
                     · (have hC8 := hC7
                        obtain ⟨y4, y0, y1, y2, y3⟩ := HFX'.out w7 hC7
                        clear hC7
                        go_simp
                        first
                          | done
                          | rfl
                          | exact ⟨rfl, rfl⟩
                          | (with_reducible refine (specAhead tx ty nm dy w7 a HAH.out).mono ?_
                             rintro z w8 ⟨rfl, b8⟩
                             exact ⟨rfl, bstep hC8 b8⟩))
                     (go_simp; go_big_quiet_on)))
                refine wpQuiet_nil ?_
                intro w7 K7
                clear HFX' HAH
                cases a with
                | true =>
                  go_wp2
                  go_roundw
                  case rel => exact ⟨k + 1, by omega, by go_num, K7⟩
                  case measure => simp [intOf]; omega
                | false =>
                  go_wp2
                  go_meet
                  case rel => exact ⟨k, hk, rfl, K7⟩
              · have hi1 : ¬ (k : Int) < (r.ds.length : Int) := by omega
                have hx4 : wr.cell? ⟨X, 4, none⟩ = some (.slice m.a0 r.ds.length m.c0) := by rw [hbk.cell (p := ⟨X, 4, none⟩) HX4.out.2.2]; exact HX4.out.1
                go_wp2
                go_quiet (fail)
                have K7 := Below.drewN' hbk nq
                generalize wr.drewN nq = w7 at K7 ⊢
                go_wp2
                go_meet
                case rel => exact ⟨k, hk, rfl, K7⟩
          obtain ⟨k, hk, rfl, hbk⟩ := hcut
          generalize wc = wB at hbk ⊢
          go_upto_region 22 with fail
          go_cut [107] (fun t wc => (∃ b : Bool, t = .bool b) ∧ Below wA.heap.size wA wc)
          case first =>
            by_cases hkl : k < r.ds.length
            · obtain ⟨g, ha0, HFX⟩ := day_cells KA.out CA.out k hkl
              have hi1 : (k : Int) < (r.ds.length : Int) := by omega
              have hi0 : (0 : Int) ≤ (k : Int) := by omega
              have hke : ((k : Int) == (r.ds.length : Int)) = false := beq_eq_false_iff_ne.2 (by omega)
              generalize tAt r.ds k = tx at HFX
              generalize tSh r.ds k = ty at HFX
              go_wp2
              refine wp_region_cl (fun w' => Below wA.heap.size wA w') (by kernel_rfl) (by kernel_rfl) hbk.drew ?_
              have HFX' : Hid (∀ W, Below wA.heap.size wA W → W.cell? ⟨X, 4, none⟩ = some (.slice (some ⟨g, 0, none⟩) r.ds.length m.c0) ∧ W.cell? ⟨g, k * 2, none⟩ = some (.int .i64 tx) ∧ W.cell? ⟨g, k * 2 + 1, none⟩ = some (.int .i64 ty) ∧ W.cell? ⟨Bb, 0, none⟩ = some (.int .i64 nm) ∧ W.cell? ⟨Bb, 1, none⟩ = some (.int .i64 dy)) := HFX
              clear HFX ha0
              have RN := run_by_neq tx ty nm dy
              have RG := run_by_guard
              repeat (first
                | go_big_quiet_skip
                | (go_big_quiet_want; go_big_quiet_op; go_big_quiet_on)
                | (go_big_quiet_want
                   apply Exists.intro
                   refine ⟨fun w7 hC7 => ?_, ?_⟩
                   · (have hC8 := hC7
                      obtain ⟨y4, y0, y1, y2, y3⟩ := HFX'.out w7 hC7
                      clear hC7
                      go_simp
                      first
                        | done
                        | rfl
                        | exact ⟨rfl, rfl⟩
                        | exact ⟨rfl, hC8⟩)
                   (go_simp; go_big_quiet_on)))
              refine wpQuiet_nil ?_
              intro w7 K7
              clear HFX' RN RG
              go_wp2
              go_meet
              case rel => exact ⟨⟨_, rfl⟩, K7⟩
            · have hke : ((k : Int) == (r.ds.length : Int)) = true := beq_iff_eq.2 (by omega)
              have hx4 : wB.cell? ⟨X, 4, none⟩ = some (.slice m.a0 r.ds.length m.c0) := by rw [hbk.cell (p := ⟨X, 4, none⟩) HX4.out.2.2]; exact HX4.out.1
              go_quiet (fail)
              have K7 := Below.drewN' hbk nq
              generalize wB.drewN nq = w7 at K7 ⊢
              go_wp2
              go_meet
              case rel => exact ⟨⟨_, rfl⟩, K7⟩
          obtain ⟨⟨hq, rfl⟩, hbi⟩ := hcut
          clear hbk
          generalize wc = wi at hbi ⊢
          have KI : Hid (RS w rb w.heap.size X (L + 26 - 3 * i) r m wi) := KA.out.step (But.of_below hbi) (KA.out.rd.below hbi)
          have CI : Hid (CF wi Bb #[.int .i64 nm, .int .i64 dy]) := CA.out.below hbi
          clear KA CA hbi HX4
          cases hq with
          | false =>
            have hds : r.ds.length + i ≤ 3 := by have := HSM.out.1; omega
            have KF : Hid (RS w rb w.heap.size X (L + 26 - 3 * i) r m wi ∧ r.ds.length + i ≤ 3 ∧ r.da.length ≤ 3 ∧ r.mo.length ≤ 3 ∧ (r.pl.length ≤ 3 ∧ 0 ≤ r.wk ∧ r.wk ≤ 6)) := ⟨KI.out, hds, HSM.out.2⟩
            clear KI CI HSM hds
            go_wp2
            go_roundw
            case rel => exact ⟨i, r, m, by go_num, KF.out.2.1, KF.out.1, KF.out.2.2⟩
            case measure => first | (simp [intOf]; done) | (simp [intOf]; omega)
          | true =>
            have x4 : wi.cell? ⟨X, 4, none⟩ = some (.slice m.a0 r.ds.length m.c0) := (KI.out.c.2 4 _ rfl).1
            have f4 : wi.frozen? ⟨X, 4, none⟩ = false := (KI.out.c.2 4 _ rfl).2
            have b0 : wi.cell? ⟨Bb, 0, none⟩ = some (.int .i64 nm) := (CI.out.2 0 _ rfl).1
            have b1 : wi.cell? ⟨Bb, 1, none⟩ = some (.int .i64 dy) := (CI.out.2 1 _ rfl).1
            have hXl : X < wi.heap.size := cell_lt x4
            have hBl : Bb < wi.heap.size := cell_lt b0
            have hd3 : r.ds.length ≤ 3 := by have := HSM.out.1; omega
            have HFX : Hid (∀ W, Below wi.heap.size wi W → W.cell? ⟨X, 4, none⟩ = some (.slice m.a0 r.ds.length m.c0) ∧ W.frozen? ⟨X, 4, none⟩ = false ∧ W.cell? ⟨Bb, 0, none⟩ = some (.int .i64 nm) ∧ W.cell? ⟨Bb, 1, none⟩ = some (.int .i64 dy)) := fun W hb => ⟨by rw [hb.cell (p := ⟨X, 4, none⟩) hXl]; exact x4, by rw [hb.frozen (p := ⟨X, 4, none⟩) hXl]; exact f4, by rw [hb.cell (p := ⟨Bb, 0, none⟩) hBl]; exact b0, by rw [hb.cell (p := ⟨Bb, 1, none⟩) hBl]; exact b1⟩
            have HW : Hid ((((wi.alloc (.cells #[] 38)).drew).ownsRow wi.heap.size 38 2 (.slice (some ⟨wi.heap.size, 0, none⟩) 0 0) 0 [] ∧ (((wi.alloc (.cells #[] 38)).alloc (.cells #[.int .i64 nm, .int .i64 dy] 38)).drew).ownsRow wi.heap.size 38 2 (.slice (some ⟨wi.heap.size, 0, none⟩) 0 0) 0 [] ∧ (((wi.alloc (.cells #[.int .i64 nm, .int .i64 dy] 38)).alloc (.cells #[] 38)).drew).ownsRow wi.heap.size 38 2 (.slice (some ⟨wi.heap.size + 1, 0, none⟩) 0 0) 0 []) ∧ (((((wi.alloc (.cells #[] 38)).alloc (.cells #[.int .i64 nm, .int .i64 dy] 38)).drew).cell? ⟨wi.heap.size + 1, 0, none⟩ = some (.int .i64 nm) ∧ (((wi.alloc (.cells #[] 38)).alloc (.cells #[.int .i64 nm, .int .i64 dy] 38)).drew).cell? ⟨wi.heap.size + 1, 1, none⟩ = some (.int .i64 dy)) ∧ ((((wi.alloc (.cells #[.int .i64 nm, .int .i64 dy] 38)).alloc (.cells #[] 38)).drew).cell? ⟨wi.heap.size, 0, none⟩ = some (.int .i64 nm) ∧ (((wi.alloc (.cells #[.int .i64 nm, .int .i64 dy] 38)).alloc (.cells #[] 38)).drew).cell? ⟨wi.heap.size, 1, none⟩ = some (.int .i64 dy))) ∧ Below wi.heap.size wi ((wi.alloc (.cells #[] 38)).drew) ∧ Below wi.heap.size wi (((wi.alloc (.cells #[] 38)).alloc (.cells #[.int .i64 nm, .int .i64 dy] 38)).drew) ∧ Below wi.heap.size wi (((wi.alloc (.cells #[.int .i64 nm, .int .i64 dy] 38)).alloc (.cells #[] 38)).drew)) := by
              have OWa : ((wi.alloc (.cells #[] 38)).drew).ownsRow wi.heap.size 38 2 (.slice (some ⟨wi.heap.size, 0, none⟩) 0 0) 0 [] := own_e1 wi.drew _ _ 2 _ (Nat.le_refl _) rfl
              refine ⟨⟨OWa, World.ownsRow.alloc OWa _, own_e1 (wi.drew.alloc _) _ _ 2 _ (by simp [go_sem]) (by simp [go_sem])⟩, ⟨⟨by simp [go_sem, World.cell?_alloc_at], by simp [go_sem, World.cell?_alloc_at]⟩, by simp [go_sem, World.cell?_alloc_at, World.cell?_alloc_past], by simp [go_sem, World.cell?_alloc_at, World.cell?_alloc_past]⟩, ((Below.refl _ _).alloc (Nat.le_refl _) _).drew, (((Below.refl _ _).alloc (Nat.le_refl _) _).alloc (by simp) _).drew, (((Below.refl _ _).alloc (Nat.le_refl _) _).alloc (by simp) _).drew⟩
            have FIN : Hid (∀ (w3 : World) (v3 : Value) (N : Nat) (xs ys : List (Int × Int)), w3.ownsRow wi.heap.size 38 2 v3 N ([] ++ pcs xs ++ [.int .i64 nm, .int .i64 dy] ++ pcs ys) → N = r.ds.length + 1 → Below wi.heap.size wi w3 → ∃ g' c' l' r' m', v3 = .slice (some ⟨g', 0, none⟩) (List.length l') c' ∧ RS w rb w.heap.size X (L + 26 - 3 * i) r' m' (w3.setCell ⟨X, 4, none⟩ (.slice (some ⟨g', 0, none⟩) (List.length l') c')) ∧ r'.ds.length + i ≤ 3 ∧ r'.da.length ≤ 3 ∧ r'.mo.length ≤ 3 ∧ (r'.pl.length ≤ 3 ∧ 0 ≤ r'.wk ∧ r'.wk ≤ 6)) := fun w3 v3 N xs ys o3 hN S3 => by
              obtain ⟨g', c', l', e3, O3, L3⟩ := days_done o3
              have K3 := KI.out.step (But.of_below S3) (KI.out.rd.below S3)
              have hl3 : l'.length + i ≤ 3 := by have := HSM.out.1; omega
              exact ⟨g', c', l', ⟨r.f, r.ev, r.ct, r.un, l', r.da, r.mo, r.pl, r.wk⟩, ⟨some ⟨g', 0, none⟩, c', m.a1, m.c1, m.a2, m.c2, m.a3, m.c3⟩, e3, RS.put (r' := ⟨r.f, r.ev, r.ct, r.un, l', r.da, r.mo, r.pl, r.wk⟩) (m' := ⟨some ⟨g', 0, none⟩, c', m.a1, m.c1, m.a2, m.c2, m.a3, m.c3⟩) K3 4 _ (by omega) rfl ⟨O3.base hXl, K3.l.a, K3.l.o, K3.l.p, K3.l.q⟩, hl3, HSM.out.2⟩
            have HK2 : Hid (k ≤ r.ds.length) := hk
            have hki : (k : Int) ≤ (r.ds.length : Int) := by omega
            have hk0 : (0 : Int) ≤ (k : Int) := by omega
            rcases KI.out.l.d.2 with ⟨en, e0⟩ | ⟨g, cap, cur, en, hgB, hgh, hnc, _⟩
            · have e00 : k = 0 := by omega
              simp only [Value.slice.injEq] at en
              obtain ⟨ea, _, ec⟩ := en
              rw [ea, ec, e0] at x4 HFX
              have HN : Hid (r.ds.length = 0) := e0
              subst e00
              clear KI CI HSM ea ec e0 hk
              go_wp2
              obtain ⟨i0, hi, hz0, hz1, hz2⟩ := info_parts byInfo
              refine region_last #[{ dst := some 108, op := Op.buildSlice 23 0 #[], type := 23, pos := "l12_draw.go:285", after := #[], guard := none }, { dst := some 109, op := Op.fieldAddr 26 (Operand.tmp 3) 4, type := 0, pos := "l12_draw.go:285", after := #[], guard := none }, { dst := some 110, op := Op.load 23 (Operand.tmp 109), type := 23, pos := "l12_draw.go:285", after := #[{ on := 1, ground := Ground.data }], guard := none }, { dst := some 111, op := Op.move (Operand.tmp 7), type := 3, pos := "l12_draw.go:285", after := #[], guard := none }, { dst := some 112, op := Op.slice 23 (Operand.tmp 110) none (some (Operand.tmp 111)) none, type := 23, pos := "l12_draw.go:285", after := #[{ on := 2, ground := Ground.data }, { on := 3, ground := Ground.data }], guard := none }, { dst := some 113, op := Op.call { callee := Callee.builtin Builtin.append, args := #[Operand.tmp 108, Operand.tmp 112], argTypes := #[23, 23] }, type := 23, pos := "l12_draw.go:285", after := #[{ on := 0, ground := Ground.data }, { on := 4, ground := Ground.data }], guard := none }, { dst := some 114, op := Op.load 38 (Operand.tmp 6), type := 38, pos := "l12_draw.go:285", after := #[], guard := none }, { dst := some 115, op := Op.buildSlice 23 1 #[(0, Operand.tmp 114)], type := 23, pos := "l12_draw.go:285", after := #[{ on := 6, ground := Ground.data }], guard := none }, { dst := some 116, op := Op.call { callee := Callee.builtin Builtin.append, args := #[Operand.tmp 113, Operand.tmp 115], argTypes := #[23, 23] }, type := 23, pos := "l12_draw.go:285", after := #[{ on := 5, ground := Ground.data }, { on := 7, ground := Ground.data }, { on := 5, ground := Ground.chain }], guard := none }, { dst := some 117, op := Op.fieldAddr 26 (Operand.tmp 3) 4, type := 0, pos := "l12_draw.go:285", after := #[], guard := none }, { dst := some 118, op := Op.load 23 (Operand.tmp 117), type := 23, pos := "l12_draw.go:285", after := #[{ on := 9, ground := Ground.data }], guard := none }, { dst := some 119, op := Op.move (Operand.tmp 7), type := 3, pos := "l12_draw.go:285", after := #[], guard := none }, { dst := some 120, op := Op.slice 23 (Operand.tmp 118) (some (Operand.tmp 119)) none none, type := 23, pos := "l12_draw.go:285", after := #[{ on := 10, ground := Ground.data }, { on := 11, ground := Ground.data }], guard := none }, { dst := some 121, op := Op.call { callee := Callee.builtin Builtin.append, args := #[Operand.tmp 116, Operand.tmp 120], argTypes := #[23, 23] }, type := 23, pos := "l12_draw.go:285", after := #[{ on := 8, ground := Ground.data }, { on := 12, ground := Ground.data }, { on := 8, ground := Ground.chain }], guard := none }, { dst := some 122, op := Op.fieldAddr 26 (Operand.tmp 3) 4, type := 0, pos := "l12_draw.go:285", after := #[{ on := 0, ground := Ground.phase }, { on := 1, ground := Ground.phase }, { on := 2, ground := Ground.phase }, { on := 3, ground := Ground.phase }, { on := 4, ground := Ground.phase }, { on := 5, ground := Ground.phase }, { on := 6, ground := Ground.phase }, { on := 7, ground := Ground.phase }, { on := 8, ground := Ground.phase }, { on := 9, ground := Ground.phase }, { on := 10, ground := Ground.phase }, { on := 11, ground := Ground.phase }, { on := 12, ground := Ground.phase }, { on := 13, ground := Ground.phase }], guard := none }] ({ dst := none, op := Op.store 23 (Operand.tmp 122) (Operand.tmp 121), type := 0, pos := "l12_draw.go:285", after := #[{ on := 14, ground := Ground.data }, { on := 13, ground := Ground.data }, { on := 13, ground := Ground.chain }, { on := 0, ground := Ground.phase }, { on := 1, ground := Ground.phase }, { on := 2, ground := Ground.phase }, { on := 3, ground := Ground.phase }, { on := 4, ground := Ground.phase }, { on := 5, ground := Ground.phase }, { on := 6, ground := Ground.phase }, { on := 7, ground := Ground.phase }, { on := 8, ground := Ground.phase }, { on := 9, ground := Ground.phase }, { on := 10, ground := Ground.phase }, { on := 11, ground := Ground.phase }, { on := 12, ground := Ground.phase }, { on := 13, ground := Ground.phase }], guard := none }) (fun w' => Below wi.heap.size wi w') rfl (by kernel_rfl) (by kernel_rfl) ((Below.refl _ _).drew) (fun hHeld => ?_)
              refine wpAnyH_take (i := 1) (oi := { dst := some 109, op := Op.fieldAddr 26 (Operand.tmp 3) 4, type := 0, pos := "l12_draw.go:285", after := #[], guard := none }) (v := ?_) rfl (by kernel_rfl) (by kernel_rfl) (by kernel_rfl) (fun _ _ _ h => h) (Or.inl ⟨by rfl, ?_⟩) (by assumption) ?_
              rotate_left
              · (intro w7 hC7; obtain ⟨y1, y2, y3, y4⟩ := HFX.out w7 hC7; clear hC7; go_simp; first | done | rfl)
              (try simp only [Act.put, List.setIfInBounds_toArray, List.set_cons_zero, List.set_cons_succ])
              refine wpAnyH_take (i := 2) (oi := { dst := some 110, op := Op.load 23 (Operand.tmp 109), type := 23, pos := "l12_draw.go:285", after := #[{ on := 1, ground := Ground.data }], guard := none }) (v := ?_) rfl (by kernel_rfl) (by kernel_rfl) (by kernel_rfl) (fun _ _ _ h => h) (Or.inl ⟨by rfl, ?_⟩) (by assumption) ?_
              rotate_left
              · (intro w7 hC7; obtain ⟨y1, y2, y3, y4⟩ := HFX.out w7 hC7; clear hC7; go_simp; first | done | rfl)
              (try simp only [Act.put, List.setIfInBounds_toArray, List.set_cons_zero, List.set_cons_succ])
              refine wpAnyH_take (i := 3) (oi := { dst := some 111, op := Op.move (Operand.tmp 7), type := 3, pos := "l12_draw.go:285", after := #[], guard := none }) (v := ?_) rfl (by kernel_rfl) (by kernel_rfl) (by kernel_rfl) (fun _ _ _ h => h) (Or.inl ⟨by rfl, ?_⟩) (by assumption) ?_
              rotate_left
              · (intro w7 hC7; obtain ⟨y1, y2, y3, y4⟩ := HFX.out w7 hC7; clear hC7; go_simp; first | done | rfl)
              (try simp only [Act.put, List.setIfInBounds_toArray, List.set_cons_zero, List.set_cons_succ])
              refine wpAnyH_take (i := 4) (oi := { dst := some 112, op := Op.slice 23 (Operand.tmp 110) none (some (Operand.tmp 111)) none, type := 23, pos := "l12_draw.go:285", after := #[{ on := 2, ground := Ground.data }, { on := 3, ground := Ground.data }], guard := none }) (v := ?_) rfl (by kernel_rfl) (by kernel_rfl) (by kernel_rfl) (fun _ _ _ h => h) (Or.inl ⟨by rfl, ?_⟩) (by assumption) ?_
              rotate_left
              · (intro w7 hC7; obtain ⟨y1, y2, y3, y4⟩ := HFX.out w7 hC7; clear hC7; go_simp; first | done | rfl)
              (try simp only [Act.put, List.setIfInBounds_toArray, List.set_cons_zero, List.set_cons_succ])
              refine wpAnyH_take (i := 6) (oi := { dst := some 114, op := Op.load 38 (Operand.tmp 6), type := 38, pos := "l12_draw.go:285", after := #[], guard := none }) (v := ?_) rfl (by kernel_rfl) (by kernel_rfl) (by kernel_rfl) (fun _ _ _ h => h) (Or.inl ⟨by rfl, ?_⟩) (by assumption) ?_
              rotate_left
              · (intro w7 hC7; obtain ⟨y1, y2, y3, y4⟩ := HFX.out w7 hC7; clear hC7; go_simp; first | done | rfl)
              (try simp only [Act.put, List.setIfInBounds_toArray, List.set_cons_zero, List.set_cons_succ])
              refine wpAnyH_take (i := 9) (oi := { dst := some 117, op := Op.fieldAddr 26 (Operand.tmp 3) 4, type := 0, pos := "l12_draw.go:285", after := #[], guard := none }) (v := ?_) rfl (by kernel_rfl) (by kernel_rfl) (by kernel_rfl) (fun _ _ _ h => h) (Or.inl ⟨by rfl, ?_⟩) (by assumption) ?_
              rotate_left
              · (intro w7 hC7; obtain ⟨y1, y2, y3, y4⟩ := HFX.out w7 hC7; clear hC7; go_simp; first | done | rfl)
              (try simp only [Act.put, List.setIfInBounds_toArray, List.set_cons_zero, List.set_cons_succ])
              refine wpAnyH_take (i := 10) (oi := { dst := some 118, op := Op.load 23 (Operand.tmp 117), type := 23, pos := "l12_draw.go:285", after := #[{ on := 9, ground := Ground.data }], guard := none }) (v := ?_) rfl (by kernel_rfl) (by kernel_rfl) (by kernel_rfl) (fun _ _ _ h => h) (Or.inl ⟨by rfl, ?_⟩) (by assumption) ?_
              rotate_left
              · (intro w7 hC7; obtain ⟨y1, y2, y3, y4⟩ := HFX.out w7 hC7; clear hC7; go_simp; first | done | rfl)
              (try simp only [Act.put, List.setIfInBounds_toArray, List.set_cons_zero, List.set_cons_succ])
              refine wpAnyH_take (i := 11) (oi := { dst := some 119, op := Op.move (Operand.tmp 7), type := 3, pos := "l12_draw.go:285", after := #[], guard := none }) (v := ?_) rfl (by kernel_rfl) (by kernel_rfl) (by kernel_rfl) (fun _ _ _ h => h) (Or.inl ⟨by rfl, ?_⟩) (by assumption) ?_
              rotate_left
              · (intro w7 hC7; obtain ⟨y1, y2, y3, y4⟩ := HFX.out w7 hC7; clear hC7; go_simp; first | done | rfl)
              (try simp only [Act.put, List.setIfInBounds_toArray, List.set_cons_zero, List.set_cons_succ])
              refine wpAnyH_take (i := 12) (oi := { dst := some 120, op := Op.slice 23 (Operand.tmp 118) (some (Operand.tmp 119)) none none, type := 23, pos := "l12_draw.go:285", after := #[{ on := 10, ground := Ground.data }, { on := 11, ground := Ground.data }], guard := none }) (v := ?_) rfl (by kernel_rfl) (by kernel_rfl) (by kernel_rfl) (fun _ _ _ h => h) (Or.inl ⟨by rfl, ?_⟩) (by assumption) ?_
              rotate_left
              · (intro w7 hC7; obtain ⟨y1, y2, y3, y4⟩ := HFX.out w7 hC7; clear hC7; go_simp; first | done | rfl)
              (try simp only [Act.put, List.setIfInBounds_toArray, List.set_cons_zero, List.set_cons_succ])
              refine wpAnyH_ready (rs := [0, 7]) (by kernel_rfl) (by simp) ?_
              refine AllReadyH.cons (o := { dst := some 108, op := Op.buildSlice 23 0 #[], type := 23, pos := "l12_draw.go:285", after := #[], guard := none }) rfl (fun K hK => ?_) ?_
              · go_simp
                refine hK.out _ _ (Below.alloc hHeld hHeld.size _) (fun hHeld => ?_)
                clear hK K
                (try simp only [Act.put, List.setIfInBounds_toArray, List.set_cons_zero, List.set_cons_succ])
                refine wpAnyH_ready (rs := [5, 7]) (by kernel_rfl) (by simp) ?_
                refine AllReadyH.cons (o := { dst := some 113, op := Op.call { callee := Callee.builtin Builtin.append, args := #[Operand.tmp 108, Operand.tmp 112], argTypes := #[23, 23] }, type := 23, pos := "l12_draw.go:285", after := #[{ on := 0, ground := Ground.data }, { on := 4, ground := Ground.data }], guard := none }) rfl (fun K hK => ?_) ?_
                · refine step_append_none _ (by rfl) _ _ _ (by rfl) wi.heap.size 38 i0 2 Tryd.underlying23 hi _ 0 [] (by rfl) HW.out.1.1 (by rfl) ?_
                  refine hK.out _ _ hHeld (fun hHeld => ?_)
                  clear hK K
                  (try simp only [Act.put, List.setIfInBounds_toArray, List.set_cons_zero, List.set_cons_succ])
                  refine wpAnyH_ready (rs := [7]) (by kernel_rfl) (by simp) ?_
                  refine AllReadyH.cons (o := { dst := some 115, op := Op.buildSlice 23 1 #[(0, Operand.tmp 114)], type := 23, pos := "l12_draw.go:285", after := #[{ on := 6, ground := Ground.data }], guard := none }) rfl (fun K hK => ?_) ?_
                  · go_simp
                    refine hK.out _ _ (Below.alloc hHeld hHeld.size _) (fun hHeld => ?_)
                    clear hK K
                    (try simp only [Act.put, List.setIfInBounds_toArray, List.set_cons_zero, List.set_cons_succ])
                    refine wpAnyH_ready (rs := [8]) (by kernel_rfl) (by simp) ?_
                    refine AllReadyH.cons (o := { dst := some 116, op := Op.call { callee := Callee.builtin Builtin.append, args := #[Operand.tmp 113, Operand.tmp 115], argTypes := #[23, 23] }, type := 23, pos := "l12_draw.go:285", after := #[{ on := 5, ground := Ground.data }, { on := 7, ground := Ground.data }, { on := 5, ground := Ground.chain }], guard := none }) rfl (fun K hK => ?_) ?_
                    · refine step_append_i _ (by rfl) _ _ _ (by rfl) wi.heap.size 38 i0 (.agg #[.int .i64 0, .int .i64 0]) 2 16 Tryd.underlying23 hi hz0 hz1 hz2 rfl (by omega) _ 0 [] (by rfl) HW.out.1.2.1 ⟨wi.heap.size + 1, 0, none⟩ 1 1 [.int .i64 nm, .int .i64 dy] (by rfl) (by rfl) (two_news2 HW.out.2.1.1) (by simp [Value.oneCell']) (le_maxLen (by omega)) (by omega) HW.out.2.2.2.1.size ?_; intro v2 w2 o2 hgrow2; have S2 : Below wi.heap.size wi w2 := HW.out.2.2.2.1.grown hgrow2 HW.out.2.2.2.1.size (fun q hq => (World.ownsRow.lt HW.out.1.2.1 q hq).1); have zz2 := HFX.out w2 S2; obtain ⟨zb1, zb2, zb3, zb4⟩ := zz2
                      refine hK.out _ _ S2 (fun hHeld => ?_)
                      clear hK K
                      (try simp only [Act.put, List.setIfInBounds_toArray, List.set_cons_zero, List.set_cons_succ])
                      refine wpAnyH_ready (rs := [13]) (by kernel_rfl) (by simp) ?_
                      refine AllReadyH.cons (o := { dst := some 121, op := Op.call { callee := Callee.builtin Builtin.append, args := #[Operand.tmp 116, Operand.tmp 120], argTypes := #[23, 23] }, type := 23, pos := "l12_draw.go:285", after := #[{ on := 8, ground := Ground.data }, { on := 12, ground := Ground.data }, { on := 8, ground := Ground.chain }], guard := none }) rfl (fun K hK => ?_) ?_
                      · refine step_append_none _ (by rfl) _ _ _ (by rfl) wi.heap.size 38 i0 2 Tryd.underlying23 hi _ _ _ (by rfl) o2 (by rfl) ?_
                        refine hK.out _ _ S2 (fun hHeld => ?_)
                        clear hK K
                        (try simp only [Act.put, List.setIfInBounds_toArray, List.set_cons_zero, List.set_cons_succ])
                        refine wpAnyH_take (i := 14) (oi := { dst := some 122, op := Op.fieldAddr 26 (Operand.tmp 3) 4, type := 0, pos := "l12_draw.go:285", after := #[{ on := 0, ground := Ground.phase }, { on := 1, ground := Ground.phase }, { on := 2, ground := Ground.phase }, { on := 3, ground := Ground.phase }, { on := 4, ground := Ground.phase }, { on := 5, ground := Ground.phase }, { on := 6, ground := Ground.phase }, { on := 7, ground := Ground.phase }, { on := 8, ground := Ground.phase }, { on := 9, ground := Ground.phase }, { on := 10, ground := Ground.phase }, { on := 11, ground := Ground.phase }, { on := 12, ground := Ground.phase }, { on := 13, ground := Ground.phase }], guard := none }) (v := ?_) rfl (by kernel_rfl) (by kernel_rfl) (by kernel_rfl) (fun _ _ _ h => h) (Or.inl ⟨by rfl, ?_⟩) (by assumption) ?_
                        rotate_left
                        · (intro w7 hC7; obtain ⟨y1, y2, y3, y4⟩ := HFX.out w7 hC7; clear hC7; go_simp; first | done | rfl)
                        (try simp only [Act.put, List.setIfInBounds_toArray, List.set_cons_zero, List.set_cons_succ])
                        refine wpAnyH_done (by kernel_rfl) ?_ _
                        simp only [Ql]
                        obtain ⟨g', c', l', r', m', e3, KF⟩ := FIN.out _ _ _ [] [] (by simpa [pcs] using o2) (by rw [HN.out]) S2
                        have HKF := Hid.mk' KF
                        subst e3
                        clear KF o2 S2 hgrow2
                        go_simp
                        go_wp2
                        go_roundw
                        case rel => exact ⟨i, r', m', by go_num, HKF.out.2.1, HKF.out.1, HKF.out.2.2⟩
                        case measure => first | (simp [intOf]; done) | (simp [intOf]; omega)
                      exact AllReadyH.nil
                    exact AllReadyH.nil
                  exact AllReadyH.nil
                refine AllReadyH.cons (o := { dst := some 115, op := Op.buildSlice 23 1 #[(0, Operand.tmp 114)], type := 23, pos := "l12_draw.go:285", after := #[{ on := 6, ground := Ground.data }], guard := none }) rfl (fun K hK => ?_) ?_
                · go_simp
                  refine hK.out _ _ (Below.alloc hHeld hHeld.size _) (fun hHeld => ?_)
                  clear hK K
                  (try simp only [Act.put, List.setIfInBounds_toArray, List.set_cons_zero, List.set_cons_succ])
                  refine wpAnyH_ready (rs := [5]) (by kernel_rfl) (by simp) ?_
                  refine AllReadyH.cons (o := { dst := some 113, op := Op.call { callee := Callee.builtin Builtin.append, args := #[Operand.tmp 108, Operand.tmp 112], argTypes := #[23, 23] }, type := 23, pos := "l12_draw.go:285", after := #[{ on := 0, ground := Ground.data }, { on := 4, ground := Ground.data }], guard := none }) rfl (fun K hK => ?_) ?_
                  · refine step_append_none _ (by rfl) _ _ _ (by rfl) wi.heap.size 38 i0 2 Tryd.underlying23 hi _ 0 [] (by rfl) HW.out.1.2.1 (by rfl) ?_
                    refine hK.out _ _ hHeld (fun hHeld => ?_)
                    clear hK K
                    (try simp only [Act.put, List.setIfInBounds_toArray, List.set_cons_zero, List.set_cons_succ])
                    refine wpAnyH_ready (rs := [8]) (by kernel_rfl) (by simp) ?_
                    refine AllReadyH.cons (o := { dst := some 116, op := Op.call { callee := Callee.builtin Builtin.append, args := #[Operand.tmp 113, Operand.tmp 115], argTypes := #[23, 23] }, type := 23, pos := "l12_draw.go:285", after := #[{ on := 5, ground := Ground.data }, { on := 7, ground := Ground.data }, { on := 5, ground := Ground.chain }], guard := none }) rfl (fun K hK => ?_) ?_
                    · refine step_append_i _ (by rfl) _ _ _ (by rfl) wi.heap.size 38 i0 (.agg #[.int .i64 0, .int .i64 0]) 2 16 Tryd.underlying23 hi hz0 hz1 hz2 rfl (by omega) _ 0 [] (by rfl) HW.out.1.2.1 ⟨wi.heap.size + 1, 0, none⟩ 1 1 [.int .i64 nm, .int .i64 dy] (by rfl) (by rfl) (two_news2 HW.out.2.1.1) (by simp [Value.oneCell']) (le_maxLen (by omega)) (by omega) HW.out.2.2.2.1.size ?_; intro v2 w2 o2 hgrow2; have S2 : Below wi.heap.size wi w2 := HW.out.2.2.2.1.grown hgrow2 HW.out.2.2.2.1.size (fun q hq => (World.ownsRow.lt HW.out.1.2.1 q hq).1); have zz2 := HFX.out w2 S2; obtain ⟨zb1, zb2, zb3, zb4⟩ := zz2
                      refine hK.out _ _ S2 (fun hHeld => ?_)
                      clear hK K
                      (try simp only [Act.put, List.setIfInBounds_toArray, List.set_cons_zero, List.set_cons_succ])
                      refine wpAnyH_ready (rs := [13]) (by kernel_rfl) (by simp) ?_
                      refine AllReadyH.cons (o := { dst := some 121, op := Op.call { callee := Callee.builtin Builtin.append, args := #[Operand.tmp 116, Operand.tmp 120], argTypes := #[23, 23] }, type := 23, pos := "l12_draw.go:285", after := #[{ on := 8, ground := Ground.data }, { on := 12, ground := Ground.data }, { on := 8, ground := Ground.chain }], guard := none }) rfl (fun K hK => ?_) ?_
                      · refine step_append_none _ (by rfl) _ _ _ (by rfl) wi.heap.size 38 i0 2 Tryd.underlying23 hi _ _ _ (by rfl) o2 (by rfl) ?_
                        refine hK.out _ _ S2 (fun hHeld => ?_)
                        clear hK K
                        (try simp only [Act.put, List.setIfInBounds_toArray, List.set_cons_zero, List.set_cons_succ])
                        refine wpAnyH_take (i := 14) (oi := { dst := some 122, op := Op.fieldAddr 26 (Operand.tmp 3) 4, type := 0, pos := "l12_draw.go:285", after := #[{ on := 0, ground := Ground.phase }, { on := 1, ground := Ground.phase }, { on := 2, ground := Ground.phase }, { on := 3, ground := Ground.phase }, { on := 4, ground := Ground.phase }, { on := 5, ground := Ground.phase }, { on := 6, ground := Ground.phase }, { on := 7, ground := Ground.phase }, { on := 8, ground := Ground.phase }, { on := 9, ground := Ground.phase }, { on := 10, ground := Ground.phase }, { on := 11, ground := Ground.phase }, { on := 12, ground := Ground.phase }, { on := 13, ground := Ground.phase }], guard := none }) (v := ?_) rfl (by kernel_rfl) (by kernel_rfl) (by kernel_rfl) (fun _ _ _ h => h) (Or.inl ⟨by rfl, ?_⟩) (by assumption) ?_
                        rotate_left
                        · (intro w7 hC7; obtain ⟨y1, y2, y3, y4⟩ := HFX.out w7 hC7; clear hC7; go_simp; first | done | rfl)
                        (try simp only [Act.put, List.setIfInBounds_toArray, List.set_cons_zero, List.set_cons_succ])
                        refine wpAnyH_done (by kernel_rfl) ?_ _
                        simp only [Ql]
                        obtain ⟨g', c', l', r', m', e3, KF⟩ := FIN.out _ _ _ [] [] (by simpa [pcs] using o2) (by rw [HN.out]) S2
                        have HKF := Hid.mk' KF
                        subst e3
                        clear KF o2 S2 hgrow2
                        go_simp
                        go_wp2
                        go_roundw
                        case rel => exact ⟨i, r', m', by go_num, HKF.out.2.1, HKF.out.1, HKF.out.2.2⟩
                        case measure => first | (simp [intOf]; done) | (simp [intOf]; omega)
                      exact AllReadyH.nil
                    exact AllReadyH.nil
                  exact AllReadyH.nil
                exact AllReadyH.nil
              refine AllReadyH.cons (o := { dst := some 115, op := Op.buildSlice 23 1 #[(0, Operand.tmp 114)], type := 23, pos := "l12_draw.go:285", after := #[{ on := 6, ground := Ground.data }], guard := none }) rfl (fun K hK => ?_) ?_
              · go_simp
                refine hK.out _ _ (Below.alloc hHeld hHeld.size _) (fun hHeld => ?_)
                clear hK K
                (try simp only [Act.put, List.setIfInBounds_toArray, List.set_cons_zero, List.set_cons_succ])
                refine wpAnyH_ready (rs := [0]) (by kernel_rfl) (by simp) ?_
                refine AllReadyH.cons (o := { dst := some 108, op := Op.buildSlice 23 0 #[], type := 23, pos := "l12_draw.go:285", after := #[], guard := none }) rfl (fun K hK => ?_) ?_
                · go_simp
                  refine hK.out _ _ (Below.alloc hHeld hHeld.size _) (fun hHeld => ?_)
                  clear hK K
                  (try simp only [Act.put, List.setIfInBounds_toArray, List.set_cons_zero, List.set_cons_succ])
                  refine wpAnyH_ready (rs := [5]) (by kernel_rfl) (by simp) ?_
                  refine AllReadyH.cons (o := { dst := some 113, op := Op.call { callee := Callee.builtin Builtin.append, args := #[Operand.tmp 108, Operand.tmp 112], argTypes := #[23, 23] }, type := 23, pos := "l12_draw.go:285", after := #[{ on := 0, ground := Ground.data }, { on := 4, ground := Ground.data }], guard := none }) rfl (fun K hK => ?_) ?_
                  · refine step_append_none _ (by rfl) _ _ _ (by rfl) wi.heap.size 38 i0 2 Tryd.underlying23 hi _ 0 [] (by rfl) HW.out.1.2.2 (by rfl) ?_
                    refine hK.out _ _ hHeld (fun hHeld => ?_)
                    clear hK K
                    (try simp only [Act.put, List.setIfInBounds_toArray, List.set_cons_zero, List.set_cons_succ])
                    refine wpAnyH_ready (rs := [8]) (by kernel_rfl) (by simp) ?_
                    refine AllReadyH.cons (o := { dst := some 116, op := Op.call { callee := Callee.builtin Builtin.append, args := #[Operand.tmp 113, Operand.tmp 115], argTypes := #[23, 23] }, type := 23, pos := "l12_draw.go:285", after := #[{ on := 5, ground := Ground.data }, { on := 7, ground := Ground.data }, { on := 5, ground := Ground.chain }], guard := none }) rfl (fun K hK => ?_) ?_
                    · refine step_append_i _ (by rfl) _ _ _ (by rfl) wi.heap.size 38 i0 (.agg #[.int .i64 0, .int .i64 0]) 2 16 Tryd.underlying23 hi hz0 hz1 hz2 rfl (by omega) _ 0 [] (by rfl) HW.out.1.2.2 ⟨wi.heap.size, 0, none⟩ 1 1 [.int .i64 nm, .int .i64 dy] (by rfl) (by rfl) (two_news2 HW.out.2.1.2) (by simp [Value.oneCell']) (le_maxLen (by omega)) (by omega) HW.out.2.2.2.2.size ?_; intro v2 w2 o2 hgrow2; have S2 : Below wi.heap.size wi w2 := HW.out.2.2.2.2.grown hgrow2 HW.out.2.2.2.2.size (fun q hq => (World.ownsRow.lt HW.out.1.2.2 q hq).1); have zz2 := HFX.out w2 S2; obtain ⟨zb1, zb2, zb3, zb4⟩ := zz2
                      refine hK.out _ _ S2 (fun hHeld => ?_)
                      clear hK K
                      (try simp only [Act.put, List.setIfInBounds_toArray, List.set_cons_zero, List.set_cons_succ])
                      refine wpAnyH_ready (rs := [13]) (by kernel_rfl) (by simp) ?_
                      refine AllReadyH.cons (o := { dst := some 121, op := Op.call { callee := Callee.builtin Builtin.append, args := #[Operand.tmp 116, Operand.tmp 120], argTypes := #[23, 23] }, type := 23, pos := "l12_draw.go:285", after := #[{ on := 8, ground := Ground.data }, { on := 12, ground := Ground.data }, { on := 8, ground := Ground.chain }], guard := none }) rfl (fun K hK => ?_) ?_
                      · refine step_append_none _ (by rfl) _ _ _ (by rfl) wi.heap.size 38 i0 2 Tryd.underlying23 hi _ _ _ (by rfl) o2 (by rfl) ?_
                        refine hK.out _ _ S2 (fun hHeld => ?_)
                        clear hK K
                        (try simp only [Act.put, List.setIfInBounds_toArray, List.set_cons_zero, List.set_cons_succ])
                        refine wpAnyH_take (i := 14) (oi := { dst := some 122, op := Op.fieldAddr 26 (Operand.tmp 3) 4, type := 0, pos := "l12_draw.go:285", after := #[{ on := 0, ground := Ground.phase }, { on := 1, ground := Ground.phase }, { on := 2, ground := Ground.phase }, { on := 3, ground := Ground.phase }, { on := 4, ground := Ground.phase }, { on := 5, ground := Ground.phase }, { on := 6, ground := Ground.phase }, { on := 7, ground := Ground.phase }, { on := 8, ground := Ground.phase }, { on := 9, ground := Ground.phase }, { on := 10, ground := Ground.phase }, { on := 11, ground := Ground.phase }, { on := 12, ground := Ground.phase }, { on := 13, ground := Ground.phase }], guard := none }) (v := ?_) rfl (by kernel_rfl) (by kernel_rfl) (by kernel_rfl) (fun _ _ _ h => h) (Or.inl ⟨by rfl, ?_⟩) (by assumption) ?_
                        rotate_left
                        · (intro w7 hC7; obtain ⟨y1, y2, y3, y4⟩ := HFX.out w7 hC7; clear hC7; go_simp; first | done | rfl)
                        (try simp only [Act.put, List.setIfInBounds_toArray, List.set_cons_zero, List.set_cons_succ])
                        refine wpAnyH_done (by kernel_rfl) ?_ _
                        simp only [Ql]
                        obtain ⟨g', c', l', r', m', e3, KF⟩ := FIN.out _ _ _ [] [] (by simpa [pcs] using o2) (by rw [HN.out]) S2
                        have HKF := Hid.mk' KF
                        subst e3
                        clear KF o2 S2 hgrow2
                        go_simp
                        go_wp2
                        go_roundw
                        case rel => exact ⟨i, r', m', by go_num, HKF.out.2.1, HKF.out.1, HKF.out.2.2⟩
                        case measure => first | (simp [intOf]; done) | (simp [intOf]; omega)
                      exact AllReadyH.nil
                    exact AllReadyH.nil
                  exact AllReadyH.nil
                exact AllReadyH.nil
              exact AllReadyH.nil
            · simp only [Value.slice.injEq] at en
              obtain ⟨ea, _, ec⟩ := en
              have o := KI.out.l.d
              rw [ea] at o x4 HFX
              have hgl : g < wi.heap.size := (Array.getElem?_eq_some_iff.1 hgh).1
              have hkc : (k : Int) ≤ (m.c0 : Int) := by rw [ec]; omega
              have hlc : (r.ds.length : Int) ≤ (m.c0 : Int) := by rw [ec]; omega
              have HN1 : Hid (∀ w' : World, Below wi.heap.size wi w' → ∀ j u, (pcs (r.ds.take k))[j]? = some u → w'.cell? ((⟨g, 0, none⟩ : Addr).add j) = some u) := fun w' hb' => by have q := part_pairs o rfl hgl hb' 0 k; simpa using q
              have HL1 : Hid ((pcs (r.ds.take k)).length = k * 2) := by unfold Hid; rw [pcs_len, List.length_take]; congr 1; omega
              have HL3 : Hid ((pcs ((r.ds.drop k).take (r.ds.length - k))).length = (r.ds.length - k) * 2) := by unfold Hid; rw [pcs_len, List.length_take, List.length_drop]; congr 1; omega
              by_cases hck : m.c0 = k
              · have HN3 : Hid (∀ w' : World, Below wi.heap.size wi w' → ∀ j u, (pcs ((r.ds.drop k).take (r.ds.length - k)))[j]? = some u → w'.cell? ((⟨g, 0, none⟩ : Addr).add j) = some u) := fun w' hb' j u hu => by rw [show r.ds.length - k = 0 by omega] at hu; simp [pcs] at hu
                clear KI CI HSM ea ec o hgh hgB hnc hk
                go_wp2
                obtain ⟨i0, hi, hz0, hz1, hz2⟩ := info_parts byInfo
                refine region_last #[{ dst := some 108, op := Op.buildSlice 23 0 #[], type := 23, pos := "l12_draw.go:285", after := #[], guard := none }, { dst := some 109, op := Op.fieldAddr 26 (Operand.tmp 3) 4, type := 0, pos := "l12_draw.go:285", after := #[], guard := none }, { dst := some 110, op := Op.load 23 (Operand.tmp 109), type := 23, pos := "l12_draw.go:285", after := #[{ on := 1, ground := Ground.data }], guard := none }, { dst := some 111, op := Op.move (Operand.tmp 7), type := 3, pos := "l12_draw.go:285", after := #[], guard := none }, { dst := some 112, op := Op.slice 23 (Operand.tmp 110) none (some (Operand.tmp 111)) none, type := 23, pos := "l12_draw.go:285", after := #[{ on := 2, ground := Ground.data }, { on := 3, ground := Ground.data }], guard := none }, { dst := some 113, op := Op.call { callee := Callee.builtin Builtin.append, args := #[Operand.tmp 108, Operand.tmp 112], argTypes := #[23, 23] }, type := 23, pos := "l12_draw.go:285", after := #[{ on := 0, ground := Ground.data }, { on := 4, ground := Ground.data }], guard := none }, { dst := some 114, op := Op.load 38 (Operand.tmp 6), type := 38, pos := "l12_draw.go:285", after := #[], guard := none }, { dst := some 115, op := Op.buildSlice 23 1 #[(0, Operand.tmp 114)], type := 23, pos := "l12_draw.go:285", after := #[{ on := 6, ground := Ground.data }], guard := none }, { dst := some 116, op := Op.call { callee := Callee.builtin Builtin.append, args := #[Operand.tmp 113, Operand.tmp 115], argTypes := #[23, 23] }, type := 23, pos := "l12_draw.go:285", after := #[{ on := 5, ground := Ground.data }, { on := 7, ground := Ground.data }, { on := 5, ground := Ground.chain }], guard := none }, { dst := some 117, op := Op.fieldAddr 26 (Operand.tmp 3) 4, type := 0, pos := "l12_draw.go:285", after := #[], guard := none }, { dst := some 118, op := Op.load 23 (Operand.tmp 117), type := 23, pos := "l12_draw.go:285", after := #[{ on := 9, ground := Ground.data }], guard := none }, { dst := some 119, op := Op.move (Operand.tmp 7), type := 3, pos := "l12_draw.go:285", after := #[], guard := none }, { dst := some 120, op := Op.slice 23 (Operand.tmp 118) (some (Operand.tmp 119)) none none, type := 23, pos := "l12_draw.go:285", after := #[{ on := 10, ground := Ground.data }, { on := 11, ground := Ground.data }], guard := none }, { dst := some 121, op := Op.call { callee := Callee.builtin Builtin.append, args := #[Operand.tmp 116, Operand.tmp 120], argTypes := #[23, 23] }, type := 23, pos := "l12_draw.go:285", after := #[{ on := 8, ground := Ground.data }, { on := 12, ground := Ground.data }, { on := 8, ground := Ground.chain }], guard := none }, { dst := some 122, op := Op.fieldAddr 26 (Operand.tmp 3) 4, type := 0, pos := "l12_draw.go:285", after := #[{ on := 0, ground := Ground.phase }, { on := 1, ground := Ground.phase }, { on := 2, ground := Ground.phase }, { on := 3, ground := Ground.phase }, { on := 4, ground := Ground.phase }, { on := 5, ground := Ground.phase }, { on := 6, ground := Ground.phase }, { on := 7, ground := Ground.phase }, { on := 8, ground := Ground.phase }, { on := 9, ground := Ground.phase }, { on := 10, ground := Ground.phase }, { on := 11, ground := Ground.phase }, { on := 12, ground := Ground.phase }, { on := 13, ground := Ground.phase }], guard := none }] ({ dst := none, op := Op.store 23 (Operand.tmp 122) (Operand.tmp 121), type := 0, pos := "l12_draw.go:285", after := #[{ on := 14, ground := Ground.data }, { on := 13, ground := Ground.data }, { on := 13, ground := Ground.chain }, { on := 0, ground := Ground.phase }, { on := 1, ground := Ground.phase }, { on := 2, ground := Ground.phase }, { on := 3, ground := Ground.phase }, { on := 4, ground := Ground.phase }, { on := 5, ground := Ground.phase }, { on := 6, ground := Ground.phase }, { on := 7, ground := Ground.phase }, { on := 8, ground := Ground.phase }, { on := 9, ground := Ground.phase }, { on := 10, ground := Ground.phase }, { on := 11, ground := Ground.phase }, { on := 12, ground := Ground.phase }, { on := 13, ground := Ground.phase }], guard := none }) (fun w' => Below wi.heap.size wi w') rfl (by kernel_rfl) (by kernel_rfl) ((Below.refl _ _).drew) (fun hHeld => ?_)
                refine wpAnyH_take (i := 1) (oi := { dst := some 109, op := Op.fieldAddr 26 (Operand.tmp 3) 4, type := 0, pos := "l12_draw.go:285", after := #[], guard := none }) (v := ?_) rfl (by kernel_rfl) (by kernel_rfl) (by kernel_rfl) (fun _ _ _ h => h) (Or.inl ⟨by rfl, ?_⟩) (by assumption) ?_
                rotate_left
                · (intro w7 hC7; obtain ⟨y1, y2, y3, y4⟩ := HFX.out w7 hC7; clear hC7; go_simp; first | done | rfl)
                (try simp only [Act.put, List.setIfInBounds_toArray, List.set_cons_zero, List.set_cons_succ])
                refine wpAnyH_take (i := 2) (oi := { dst := some 110, op := Op.load 23 (Operand.tmp 109), type := 23, pos := "l12_draw.go:285", after := #[{ on := 1, ground := Ground.data }], guard := none }) (v := ?_) rfl (by kernel_rfl) (by kernel_rfl) (by kernel_rfl) (fun _ _ _ h => h) (Or.inl ⟨by rfl, ?_⟩) (by assumption) ?_
                rotate_left
                · (intro w7 hC7; obtain ⟨y1, y2, y3, y4⟩ := HFX.out w7 hC7; clear hC7; go_simp; first | done | rfl)
                (try simp only [Act.put, List.setIfInBounds_toArray, List.set_cons_zero, List.set_cons_succ])
                refine wpAnyH_take (i := 3) (oi := { dst := some 111, op := Op.move (Operand.tmp 7), type := 3, pos := "l12_draw.go:285", after := #[], guard := none }) (v := ?_) rfl (by kernel_rfl) (by kernel_rfl) (by kernel_rfl) (fun _ _ _ h => h) (Or.inl ⟨by rfl, ?_⟩) (by assumption) ?_
                rotate_left
                · (intro w7 hC7; obtain ⟨y1, y2, y3, y4⟩ := HFX.out w7 hC7; clear hC7; go_simp; first | done | rfl)
                (try simp only [Act.put, List.setIfInBounds_toArray, List.set_cons_zero, List.set_cons_succ])
                refine wpAnyH_take (i := 4) (oi := { dst := some 112, op := Op.slice 23 (Operand.tmp 110) none (some (Operand.tmp 111)) none, type := 23, pos := "l12_draw.go:285", after := #[{ on := 2, ground := Ground.data }, { on := 3, ground := Ground.data }], guard := none }) (v := ?_) rfl (by kernel_rfl) (by kernel_rfl) (by kernel_rfl) (fun _ _ _ h => h) (Or.inl ⟨by rfl, ?_⟩) (by assumption) ?_
                rotate_left
                · (intro w7 hC7; obtain ⟨y1, y2, y3, y4⟩ := HFX.out w7 hC7; clear hC7; go_simp; first | done | rfl)
                (try simp only [Act.put, List.setIfInBounds_toArray, List.set_cons_zero, List.set_cons_succ])
                refine wpAnyH_take (i := 6) (oi := { dst := some 114, op := Op.load 38 (Operand.tmp 6), type := 38, pos := "l12_draw.go:285", after := #[], guard := none }) (v := ?_) rfl (by kernel_rfl) (by kernel_rfl) (by kernel_rfl) (fun _ _ _ h => h) (Or.inl ⟨by rfl, ?_⟩) (by assumption) ?_
                rotate_left
                · (intro w7 hC7; obtain ⟨y1, y2, y3, y4⟩ := HFX.out w7 hC7; clear hC7; go_simp; first | done | rfl)
                (try simp only [Act.put, List.setIfInBounds_toArray, List.set_cons_zero, List.set_cons_succ])
                refine wpAnyH_take (i := 9) (oi := { dst := some 117, op := Op.fieldAddr 26 (Operand.tmp 3) 4, type := 0, pos := "l12_draw.go:285", after := #[], guard := none }) (v := ?_) rfl (by kernel_rfl) (by kernel_rfl) (by kernel_rfl) (fun _ _ _ h => h) (Or.inl ⟨by rfl, ?_⟩) (by assumption) ?_
                rotate_left
                · (intro w7 hC7; obtain ⟨y1, y2, y3, y4⟩ := HFX.out w7 hC7; clear hC7; go_simp; first | done | rfl)
                (try simp only [Act.put, List.setIfInBounds_toArray, List.set_cons_zero, List.set_cons_succ])
                refine wpAnyH_take (i := 10) (oi := { dst := some 118, op := Op.load 23 (Operand.tmp 117), type := 23, pos := "l12_draw.go:285", after := #[{ on := 9, ground := Ground.data }], guard := none }) (v := ?_) rfl (by kernel_rfl) (by kernel_rfl) (by kernel_rfl) (fun _ _ _ h => h) (Or.inl ⟨by rfl, ?_⟩) (by assumption) ?_
                rotate_left
                · (intro w7 hC7; obtain ⟨y1, y2, y3, y4⟩ := HFX.out w7 hC7; clear hC7; go_simp; first | done | rfl)
                (try simp only [Act.put, List.setIfInBounds_toArray, List.set_cons_zero, List.set_cons_succ])
                refine wpAnyH_take (i := 11) (oi := { dst := some 119, op := Op.move (Operand.tmp 7), type := 3, pos := "l12_draw.go:285", after := #[], guard := none }) (v := ?_) rfl (by kernel_rfl) (by kernel_rfl) (by kernel_rfl) (fun _ _ _ h => h) (Or.inl ⟨by rfl, ?_⟩) (by assumption) ?_
                rotate_left
                · (intro w7 hC7; obtain ⟨y1, y2, y3, y4⟩ := HFX.out w7 hC7; clear hC7; go_simp; first | done | rfl)
                (try simp only [Act.put, List.setIfInBounds_toArray, List.set_cons_zero, List.set_cons_succ])
                refine wpAnyH_take (i := 12) (oi := { dst := some 120, op := Op.slice 23 (Operand.tmp 118) (some (Operand.tmp 119)) none none, type := 23, pos := "l12_draw.go:285", after := #[{ on := 10, ground := Ground.data }, { on := 11, ground := Ground.data }], guard := none }) (v := ?_) rfl (by kernel_rfl) (by kernel_rfl) (by kernel_rfl) (fun _ _ _ h => h) (Or.inl ⟨by rfl, ?_⟩) (by assumption) ?_
                rotate_left
                · (intro w7 hC7; obtain ⟨y1, y2, y3, y4⟩ := HFX.out w7 hC7; clear hC7; go_simp; first | done | rfl)
                (try simp only [Act.put, List.setIfInBounds_toArray, List.set_cons_zero, List.set_cons_succ])
                refine wpAnyH_ready (rs := [0, 7]) (by kernel_rfl) (by simp) ?_
                refine AllReadyH.cons (o := { dst := some 108, op := Op.buildSlice 23 0 #[], type := 23, pos := "l12_draw.go:285", after := #[], guard := none }) rfl (fun K hK => ?_) ?_
                · go_simp
                  refine hK.out _ _ (Below.alloc hHeld hHeld.size _) (fun hHeld => ?_)
                  clear hK K
                  (try simp only [Act.put, List.setIfInBounds_toArray, List.set_cons_zero, List.set_cons_succ])
                  refine wpAnyH_ready (rs := [5, 7]) (by kernel_rfl) (by simp) ?_
                  refine AllReadyH.cons (o := { dst := some 113, op := Op.call { callee := Callee.builtin Builtin.append, args := #[Operand.tmp 108, Operand.tmp 112], argTypes := #[23, 23] }, type := 23, pos := "l12_draw.go:285", after := #[{ on := 0, ground := Ground.data }, { on := 4, ground := Ground.data }], guard := none }) rfl (fun K hK => ?_) ?_
                  · refine step_append_i _ (by rfl) _ _ _ (by rfl) wi.heap.size 38 i0 (.agg #[.int .i64 0, .int .i64 0]) 2 16 Tryd.underlying23 hi hz0 hz1 hz2 rfl (by omega) _ 0 [] (by rfl) HW.out.1.1 ⟨g, 0, none⟩ k _ (pcs (r.ds.take k)) (by rfl) HL1.out (HN1.out _ HW.out.2.2.1) (pcs_two _) (le_maxLen (by omega)) (by omega) HW.out.2.2.1.size ?_; intro v1 w1 o1 hgrow; have S1 : Below wi.heap.size wi w1 := HW.out.2.2.1.grown hgrow HW.out.2.2.1.size (fun q hq => (World.ownsRow.lt HW.out.1.1 q hq).1); have zz1 := HFX.out w1 S1; obtain ⟨za1, za2, za3, za4⟩ := zz1
                    refine hK.out _ _ S1 (fun hHeld => ?_)
                    clear hK K
                    (try simp only [Act.put, List.setIfInBounds_toArray, List.set_cons_zero, List.set_cons_succ])
                    refine wpAnyH_ready (rs := [7]) (by kernel_rfl) (by simp) ?_
                    refine AllReadyH.cons (o := { dst := some 115, op := Op.buildSlice 23 1 #[(0, Operand.tmp 114)], type := 23, pos := "l12_draw.go:285", after := #[{ on := 6, ground := Ground.data }], guard := none }) rfl (fun K hK => ?_) ?_
                    · go_simp
                      refine hK.out _ _ (Below.alloc hHeld hHeld.size _) (fun hHeld => ?_)
                      clear hK K
                      (try simp only [Act.put, List.setIfInBounds_toArray, List.set_cons_zero, List.set_cons_succ])
                      refine wpAnyH_ready (rs := [8]) (by kernel_rfl) (by simp) ?_
                      refine AllReadyH.cons (o := { dst := some 116, op := Op.call { callee := Callee.builtin Builtin.append, args := #[Operand.tmp 113, Operand.tmp 115], argTypes := #[23, 23] }, type := 23, pos := "l12_draw.go:285", after := #[{ on := 5, ground := Ground.data }, { on := 7, ground := Ground.data }, { on := 5, ground := Ground.chain }], guard := none }) rfl (fun K hK => ?_) ?_
                      · have q2 := (World.ownsRow.alloc o1 (Obj.cells #[Value.int IntKind.i64 nm, Value.int IntKind.i64 dy] 38)); have q3 : ∀ j u, ([.int .i64 nm, .int .i64 dy] : List Value)[j]? = some u → (w1.alloc (Obj.cells #[Value.int IntKind.i64 nm, Value.int IntKind.i64 dy] 38)).cell? ((⟨w1.heap.size, 0, none⟩ : Addr).add j) = some u := (World.news_of_block (heap_alloc_new w1 _)); have q7 := (S1.alloc S1.size (Obj.cells #[Value.int IntKind.i64 nm, Value.int IntKind.i64 dy] 38)); have q4 := q7.size; refine step_append_i (w1.alloc (Obj.cells #[Value.int IntKind.i64 nm, Value.int IntKind.i64 dy] 38)) (by rfl) _ _ _ (by rfl) wi.heap.size 38 i0 (.agg #[.int .i64 0, .int .i64 0]) 2 16 Tryd.underlying23 hi hz0 hz1 hz2 rfl (by omega) _ (0 + k) ([] ++ pcs (r.ds.take k)) (by rfl) q2 ⟨w1.heap.size, 0, none⟩ 1 1 [.int .i64 nm, .int .i64 dy] (by rfl) (by rfl) q3 (by simp [Value.oneCell']) (le_maxLen (by omega)) (by omega) q4 ?_; intro v2 w2 o2 hgrow2; have S2 : Below wi.heap.size wi w2 := q7.grown hgrow2 q4 (fun q hq => (World.ownsRow.lt q2 q hq).1); clear q2 q3 q4 q7; have zz2 := HFX.out w2 S2; obtain ⟨zb1, zb2, zb3, zb4⟩ := zz2
                        refine hK.out _ _ S2 (fun hHeld => ?_)
                        clear hK K
                        (try simp only [Act.put, List.setIfInBounds_toArray, List.set_cons_zero, List.set_cons_succ])
                        refine wpAnyH_ready (rs := [13]) (by kernel_rfl) (by simp) ?_
                        refine AllReadyH.cons (o := { dst := some 121, op := Op.call { callee := Callee.builtin Builtin.append, args := #[Operand.tmp 116, Operand.tmp 120], argTypes := #[23, 23] }, type := 23, pos := "l12_draw.go:285", after := #[{ on := 8, ground := Ground.data }, { on := 12, ground := Ground.data }, { on := 8, ground := Ground.chain }], guard := none }) rfl (fun K hK => ?_) ?_
                        · refine step_append_i _ (by rfl) _ _ _ (by rfl) wi.heap.size 38 i0 (.agg #[.int .i64 0, .int .i64 0]) 2 16 Tryd.underlying23 hi hz0 hz1 hz2 rfl (by omega) _ (0 + k + 1) ([] ++ pcs (r.ds.take k) ++ [.int .i64 nm, .int .i64 dy]) (by rfl) o2 ⟨g, 0, none⟩ (r.ds.length - k) _ (pcs ((r.ds.drop k).take (r.ds.length - k))) (by rfl) HL3.out (HN3.out _ S2) (pcs_two _) (le_maxLen (by omega)) (by omega) S2.size ?_; intro v3 w3 o3 hgrow3; have S3 : Below wi.heap.size wi w3 := S2.grown hgrow3 S2.size (fun q hq => (World.ownsRow.lt o2 q hq).1); have zz3 := HFX.out w3 S3; obtain ⟨zc1, zc2, zc3, zc4⟩ := zz3
                          refine hK.out _ _ S3 (fun hHeld => ?_)
                          clear hK K
                          (try simp only [Act.put, List.setIfInBounds_toArray, List.set_cons_zero, List.set_cons_succ])
                          refine wpAnyH_take (i := 14) (oi := { dst := some 122, op := Op.fieldAddr 26 (Operand.tmp 3) 4, type := 0, pos := "l12_draw.go:285", after := #[{ on := 0, ground := Ground.phase }, { on := 1, ground := Ground.phase }, { on := 2, ground := Ground.phase }, { on := 3, ground := Ground.phase }, { on := 4, ground := Ground.phase }, { on := 5, ground := Ground.phase }, { on := 6, ground := Ground.phase }, { on := 7, ground := Ground.phase }, { on := 8, ground := Ground.phase }, { on := 9, ground := Ground.phase }, { on := 10, ground := Ground.phase }, { on := 11, ground := Ground.phase }, { on := 12, ground := Ground.phase }, { on := 13, ground := Ground.phase }], guard := none }) (v := ?_) rfl (by kernel_rfl) (by kernel_rfl) (by kernel_rfl) (fun _ _ _ h => h) (Or.inl ⟨by rfl, ?_⟩) (by assumption) ?_
                          rotate_left
                          · (intro w7 hC7; obtain ⟨y1, y2, y3, y4⟩ := HFX.out w7 hC7; clear hC7; go_simp; first | done | rfl)
                          (try simp only [Act.put, List.setIfInBounds_toArray, List.set_cons_zero, List.set_cons_succ])
                          refine wpAnyH_done (by kernel_rfl) ?_ _
                          simp only [Ql]
                          obtain ⟨g', c', l', r', m', e3, KF⟩ := FIN.out _ _ _ _ _ o3 (by have := HK2.out; omega) S3
                          have HKF := Hid.mk' KF
                          subst e3
                          clear KF o1 o2 o3 S1 S2 S3 hgrow hgrow2 hgrow3
                          go_simp
                          go_wp2
                          go_roundw
                          case rel => exact ⟨i, r', m', by go_num, HKF.out.2.1, HKF.out.1, HKF.out.2.2⟩
                          case measure => first | (simp [intOf]; done) | (simp [intOf]; omega)
                        exact AllReadyH.nil
                      exact AllReadyH.nil
                    exact AllReadyH.nil
                  refine AllReadyH.cons (o := { dst := some 115, op := Op.buildSlice 23 1 #[(0, Operand.tmp 114)], type := 23, pos := "l12_draw.go:285", after := #[{ on := 6, ground := Ground.data }], guard := none }) rfl (fun K hK => ?_) ?_
                  · go_simp
                    refine hK.out _ _ (Below.alloc hHeld hHeld.size _) (fun hHeld => ?_)
                    clear hK K
                    (try simp only [Act.put, List.setIfInBounds_toArray, List.set_cons_zero, List.set_cons_succ])
                    refine wpAnyH_ready (rs := [5]) (by kernel_rfl) (by simp) ?_
                    refine AllReadyH.cons (o := { dst := some 113, op := Op.call { callee := Callee.builtin Builtin.append, args := #[Operand.tmp 108, Operand.tmp 112], argTypes := #[23, 23] }, type := 23, pos := "l12_draw.go:285", after := #[{ on := 0, ground := Ground.data }, { on := 4, ground := Ground.data }], guard := none }) rfl (fun K hK => ?_) ?_
                    · refine step_append_i _ (by rfl) _ _ _ (by rfl) wi.heap.size 38 i0 (.agg #[.int .i64 0, .int .i64 0]) 2 16 Tryd.underlying23 hi hz0 hz1 hz2 rfl (by omega) _ 0 [] (by rfl) HW.out.1.2.1 ⟨g, 0, none⟩ k _ (pcs (r.ds.take k)) (by rfl) HL1.out (HN1.out _ HW.out.2.2.2.1) (pcs_two _) (le_maxLen (by omega)) (by omega) HW.out.2.2.2.1.size ?_; intro v1 w1 o1 hgrow; have S1 : Below wi.heap.size wi w1 := HW.out.2.2.2.1.grown hgrow HW.out.2.2.2.1.size (fun q hq => (World.ownsRow.lt HW.out.1.2.1 q hq).1); have zz1 := HFX.out w1 S1; obtain ⟨za1, za2, za3, za4⟩ := zz1; have hx1 := two_far2 (wi.heap.size + 1) hgrow rfl (by omega) HW.out.2.1.1
                      refine hK.out _ _ S1 (fun hHeld => ?_)
                      clear hK K
                      (try simp only [Act.put, List.setIfInBounds_toArray, List.set_cons_zero, List.set_cons_succ])
                      refine wpAnyH_ready (rs := [8]) (by kernel_rfl) (by simp) ?_
                      refine AllReadyH.cons (o := { dst := some 116, op := Op.call { callee := Callee.builtin Builtin.append, args := #[Operand.tmp 113, Operand.tmp 115], argTypes := #[23, 23] }, type := 23, pos := "l12_draw.go:285", after := #[{ on := 5, ground := Ground.data }, { on := 7, ground := Ground.data }, { on := 5, ground := Ground.chain }], guard := none }) rfl (fun K hK => ?_) ?_
                      · refine step_append_i _ (by rfl) _ _ _ (by rfl) wi.heap.size 38 i0 (.agg #[.int .i64 0, .int .i64 0]) 2 16 Tryd.underlying23 hi hz0 hz1 hz2 rfl (by omega) _ (0 + k) ([] ++ pcs (r.ds.take k)) (by rfl) o1 ⟨_, 0, none⟩ 1 1 [.int .i64 nm, .int .i64 dy] (by rfl) (by rfl) (two_news2 hx1) (by simp [Value.oneCell']) (le_maxLen (by omega)) (by omega) S1.size ?_; intro v2 w2 o2 hgrow2; have S2 : Below wi.heap.size wi w2 := S1.grown hgrow2 S1.size (fun q hq => (World.ownsRow.lt o1 q hq).1); have zz2 := HFX.out w2 S2; obtain ⟨zb1, zb2, zb3, zb4⟩ := zz2
                        refine hK.out _ _ S2 (fun hHeld => ?_)
                        clear hK K
                        (try simp only [Act.put, List.setIfInBounds_toArray, List.set_cons_zero, List.set_cons_succ])
                        refine wpAnyH_ready (rs := [13]) (by kernel_rfl) (by simp) ?_
                        refine AllReadyH.cons (o := { dst := some 121, op := Op.call { callee := Callee.builtin Builtin.append, args := #[Operand.tmp 116, Operand.tmp 120], argTypes := #[23, 23] }, type := 23, pos := "l12_draw.go:285", after := #[{ on := 8, ground := Ground.data }, { on := 12, ground := Ground.data }, { on := 8, ground := Ground.chain }], guard := none }) rfl (fun K hK => ?_) ?_
                        · refine step_append_i _ (by rfl) _ _ _ (by rfl) wi.heap.size 38 i0 (.agg #[.int .i64 0, .int .i64 0]) 2 16 Tryd.underlying23 hi hz0 hz1 hz2 rfl (by omega) _ (0 + k + 1) ([] ++ pcs (r.ds.take k) ++ [.int .i64 nm, .int .i64 dy]) (by rfl) o2 ⟨g, 0, none⟩ (r.ds.length - k) _ (pcs ((r.ds.drop k).take (r.ds.length - k))) (by rfl) HL3.out (HN3.out _ S2) (pcs_two _) (le_maxLen (by omega)) (by omega) S2.size ?_; intro v3 w3 o3 hgrow3; have S3 : Below wi.heap.size wi w3 := S2.grown hgrow3 S2.size (fun q hq => (World.ownsRow.lt o2 q hq).1); have zz3 := HFX.out w3 S3; obtain ⟨zc1, zc2, zc3, zc4⟩ := zz3
                          refine hK.out _ _ S3 (fun hHeld => ?_)
                          clear hK K
                          (try simp only [Act.put, List.setIfInBounds_toArray, List.set_cons_zero, List.set_cons_succ])
                          refine wpAnyH_take (i := 14) (oi := { dst := some 122, op := Op.fieldAddr 26 (Operand.tmp 3) 4, type := 0, pos := "l12_draw.go:285", after := #[{ on := 0, ground := Ground.phase }, { on := 1, ground := Ground.phase }, { on := 2, ground := Ground.phase }, { on := 3, ground := Ground.phase }, { on := 4, ground := Ground.phase }, { on := 5, ground := Ground.phase }, { on := 6, ground := Ground.phase }, { on := 7, ground := Ground.phase }, { on := 8, ground := Ground.phase }, { on := 9, ground := Ground.phase }, { on := 10, ground := Ground.phase }, { on := 11, ground := Ground.phase }, { on := 12, ground := Ground.phase }, { on := 13, ground := Ground.phase }], guard := none }) (v := ?_) rfl (by kernel_rfl) (by kernel_rfl) (by kernel_rfl) (fun _ _ _ h => h) (Or.inl ⟨by rfl, ?_⟩) (by assumption) ?_
                          rotate_left
                          · (intro w7 hC7; obtain ⟨y1, y2, y3, y4⟩ := HFX.out w7 hC7; clear hC7; go_simp; first | done | rfl)
                          (try simp only [Act.put, List.setIfInBounds_toArray, List.set_cons_zero, List.set_cons_succ])
                          refine wpAnyH_done (by kernel_rfl) ?_ _
                          simp only [Ql]
                          obtain ⟨g', c', l', r', m', e3, KF⟩ := FIN.out _ _ _ _ _ o3 (by have := HK2.out; omega) S3
                          have HKF := Hid.mk' KF
                          subst e3
                          clear KF o1 o2 o3 S1 S2 S3 hgrow hgrow2 hgrow3
                          go_simp
                          go_wp2
                          go_roundw
                          case rel => exact ⟨i, r', m', by go_num, HKF.out.2.1, HKF.out.1, HKF.out.2.2⟩
                          case measure => first | (simp [intOf]; done) | (simp [intOf]; omega)
                        exact AllReadyH.nil
                      exact AllReadyH.nil
                    exact AllReadyH.nil
                  exact AllReadyH.nil
                refine AllReadyH.cons (o := { dst := some 115, op := Op.buildSlice 23 1 #[(0, Operand.tmp 114)], type := 23, pos := "l12_draw.go:285", after := #[{ on := 6, ground := Ground.data }], guard := none }) rfl (fun K hK => ?_) ?_
                · go_simp
                  refine hK.out _ _ (Below.alloc hHeld hHeld.size _) (fun hHeld => ?_)
                  clear hK K
                  (try simp only [Act.put, List.setIfInBounds_toArray, List.set_cons_zero, List.set_cons_succ])
                  refine wpAnyH_ready (rs := [0]) (by kernel_rfl) (by simp) ?_
                  refine AllReadyH.cons (o := { dst := some 108, op := Op.buildSlice 23 0 #[], type := 23, pos := "l12_draw.go:285", after := #[], guard := none }) rfl (fun K hK => ?_) ?_
                  · go_simp
                    refine hK.out _ _ (Below.alloc hHeld hHeld.size _) (fun hHeld => ?_)
                    clear hK K
                    (try simp only [Act.put, List.setIfInBounds_toArray, List.set_cons_zero, List.set_cons_succ])
                    refine wpAnyH_ready (rs := [5]) (by kernel_rfl) (by simp) ?_
                    refine AllReadyH.cons (o := { dst := some 113, op := Op.call { callee := Callee.builtin Builtin.append, args := #[Operand.tmp 108, Operand.tmp 112], argTypes := #[23, 23] }, type := 23, pos := "l12_draw.go:285", after := #[{ on := 0, ground := Ground.data }, { on := 4, ground := Ground.data }], guard := none }) rfl (fun K hK => ?_) ?_
                    · refine step_append_i _ (by rfl) _ _ _ (by rfl) wi.heap.size 38 i0 (.agg #[.int .i64 0, .int .i64 0]) 2 16 Tryd.underlying23 hi hz0 hz1 hz2 rfl (by omega) _ 0 [] (by rfl) HW.out.1.2.2 ⟨g, 0, none⟩ k _ (pcs (r.ds.take k)) (by rfl) HL1.out (HN1.out _ HW.out.2.2.2.2) (pcs_two _) (le_maxLen (by omega)) (by omega) HW.out.2.2.2.2.size ?_; intro v1 w1 o1 hgrow; have S1 : Below wi.heap.size wi w1 := HW.out.2.2.2.2.grown hgrow HW.out.2.2.2.2.size (fun q hq => (World.ownsRow.lt HW.out.1.2.2 q hq).1); have zz1 := HFX.out w1 S1; obtain ⟨za1, za2, za3, za4⟩ := zz1; have hx1 := two_far2 wi.heap.size hgrow rfl (by omega) HW.out.2.1.2
                      refine hK.out _ _ S1 (fun hHeld => ?_)
                      clear hK K
                      (try simp only [Act.put, List.setIfInBounds_toArray, List.set_cons_zero, List.set_cons_succ])
                      refine wpAnyH_ready (rs := [8]) (by kernel_rfl) (by simp) ?_
                      refine AllReadyH.cons (o := { dst := some 116, op := Op.call { callee := Callee.builtin Builtin.append, args := #[Operand.tmp 113, Operand.tmp 115], argTypes := #[23, 23] }, type := 23, pos := "l12_draw.go:285", after := #[{ on := 5, ground := Ground.data }, { on := 7, ground := Ground.data }, { on := 5, ground := Ground.chain }], guard := none }) rfl (fun K hK => ?_) ?_
                      · refine step_append_i _ (by rfl) _ _ _ (by rfl) wi.heap.size 38 i0 (.agg #[.int .i64 0, .int .i64 0]) 2 16 Tryd.underlying23 hi hz0 hz1 hz2 rfl (by omega) _ (0 + k) ([] ++ pcs (r.ds.take k)) (by rfl) o1 ⟨_, 0, none⟩ 1 1 [.int .i64 nm, .int .i64 dy] (by rfl) (by rfl) (two_news2 hx1) (by simp [Value.oneCell']) (le_maxLen (by omega)) (by omega) S1.size ?_; intro v2 w2 o2 hgrow2; have S2 : Below wi.heap.size wi w2 := S1.grown hgrow2 S1.size (fun q hq => (World.ownsRow.lt o1 q hq).1); have zz2 := HFX.out w2 S2; obtain ⟨zb1, zb2, zb3, zb4⟩ := zz2
                        refine hK.out _ _ S2 (fun hHeld => ?_)
                        clear hK K
                        (try simp only [Act.put, List.setIfInBounds_toArray, List.set_cons_zero, List.set_cons_succ])
                        refine wpAnyH_ready (rs := [13]) (by kernel_rfl) (by simp) ?_
                        refine AllReadyH.cons (o := { dst := some 121, op := Op.call { callee := Callee.builtin Builtin.append, args := #[Operand.tmp 116, Operand.tmp 120], argTypes := #[23, 23] }, type := 23, pos := "l12_draw.go:285", after := #[{ on := 8, ground := Ground.data }, { on := 12, ground := Ground.data }, { on := 8, ground := Ground.chain }], guard := none }) rfl (fun K hK => ?_) ?_
                        · refine step_append_i _ (by rfl) _ _ _ (by rfl) wi.heap.size 38 i0 (.agg #[.int .i64 0, .int .i64 0]) 2 16 Tryd.underlying23 hi hz0 hz1 hz2 rfl (by omega) _ (0 + k + 1) ([] ++ pcs (r.ds.take k) ++ [.int .i64 nm, .int .i64 dy]) (by rfl) o2 ⟨g, 0, none⟩ (r.ds.length - k) _ (pcs ((r.ds.drop k).take (r.ds.length - k))) (by rfl) HL3.out (HN3.out _ S2) (pcs_two _) (le_maxLen (by omega)) (by omega) S2.size ?_; intro v3 w3 o3 hgrow3; have S3 : Below wi.heap.size wi w3 := S2.grown hgrow3 S2.size (fun q hq => (World.ownsRow.lt o2 q hq).1); have zz3 := HFX.out w3 S3; obtain ⟨zc1, zc2, zc3, zc4⟩ := zz3
                          refine hK.out _ _ S3 (fun hHeld => ?_)
                          clear hK K
                          (try simp only [Act.put, List.setIfInBounds_toArray, List.set_cons_zero, List.set_cons_succ])
                          refine wpAnyH_take (i := 14) (oi := { dst := some 122, op := Op.fieldAddr 26 (Operand.tmp 3) 4, type := 0, pos := "l12_draw.go:285", after := #[{ on := 0, ground := Ground.phase }, { on := 1, ground := Ground.phase }, { on := 2, ground := Ground.phase }, { on := 3, ground := Ground.phase }, { on := 4, ground := Ground.phase }, { on := 5, ground := Ground.phase }, { on := 6, ground := Ground.phase }, { on := 7, ground := Ground.phase }, { on := 8, ground := Ground.phase }, { on := 9, ground := Ground.phase }, { on := 10, ground := Ground.phase }, { on := 11, ground := Ground.phase }, { on := 12, ground := Ground.phase }, { on := 13, ground := Ground.phase }], guard := none }) (v := ?_) rfl (by kernel_rfl) (by kernel_rfl) (by kernel_rfl) (fun _ _ _ h => h) (Or.inl ⟨by rfl, ?_⟩) (by assumption) ?_
                          rotate_left
                          · (intro w7 hC7; obtain ⟨y1, y2, y3, y4⟩ := HFX.out w7 hC7; clear hC7; go_simp; first | done | rfl)
                          (try simp only [Act.put, List.setIfInBounds_toArray, List.set_cons_zero, List.set_cons_succ])
                          refine wpAnyH_done (by kernel_rfl) ?_ _
                          simp only [Ql]
                          obtain ⟨g', c', l', r', m', e3, KF⟩ := FIN.out _ _ _ _ _ o3 (by have := HK2.out; omega) S3
                          have HKF := Hid.mk' KF
                          subst e3
                          clear KF o1 o2 o3 S1 S2 S3 hgrow hgrow2 hgrow3
                          go_simp
                          go_wp2
                          go_roundw
                          case rel => exact ⟨i, r', m', by go_num, HKF.out.2.1, HKF.out.1, HKF.out.2.2⟩
                          case measure => first | (simp [intOf]; done) | (simp [intOf]; omega)
                        exact AllReadyH.nil
                      exact AllReadyH.nil
                    exact AllReadyH.nil
                  exact AllReadyH.nil
                exact AllReadyH.nil
              · have HN3 : Hid (∀ w' : World, Below wi.heap.size wi w' → ∀ j u, (pcs ((r.ds.drop k).take (r.ds.length - k)))[j]? = some u → w'.cell? ((⟨g, k * 2, none⟩ : Addr).add j) = some u) := fun w' hb' => part_pairs o rfl hgl hb' k (r.ds.length - k)
                clear KI CI HSM ea ec o hgh hgB hnc hk
                go_wp2
                obtain ⟨i0, hi, hz0, hz1, hz2⟩ := info_parts byInfo
                refine region_last #[{ dst := some 108, op := Op.buildSlice 23 0 #[], type := 23, pos := "l12_draw.go:285", after := #[], guard := none }, { dst := some 109, op := Op.fieldAddr 26 (Operand.tmp 3) 4, type := 0, pos := "l12_draw.go:285", after := #[], guard := none }, { dst := some 110, op := Op.load 23 (Operand.tmp 109), type := 23, pos := "l12_draw.go:285", after := #[{ on := 1, ground := Ground.data }], guard := none }, { dst := some 111, op := Op.move (Operand.tmp 7), type := 3, pos := "l12_draw.go:285", after := #[], guard := none }, { dst := some 112, op := Op.slice 23 (Operand.tmp 110) none (some (Operand.tmp 111)) none, type := 23, pos := "l12_draw.go:285", after := #[{ on := 2, ground := Ground.data }, { on := 3, ground := Ground.data }], guard := none }, { dst := some 113, op := Op.call { callee := Callee.builtin Builtin.append, args := #[Operand.tmp 108, Operand.tmp 112], argTypes := #[23, 23] }, type := 23, pos := "l12_draw.go:285", after := #[{ on := 0, ground := Ground.data }, { on := 4, ground := Ground.data }], guard := none }, { dst := some 114, op := Op.load 38 (Operand.tmp 6), type := 38, pos := "l12_draw.go:285", after := #[], guard := none }, { dst := some 115, op := Op.buildSlice 23 1 #[(0, Operand.tmp 114)], type := 23, pos := "l12_draw.go:285", after := #[{ on := 6, ground := Ground.data }], guard := none }, { dst := some 116, op := Op.call { callee := Callee.builtin Builtin.append, args := #[Operand.tmp 113, Operand.tmp 115], argTypes := #[23, 23] }, type := 23, pos := "l12_draw.go:285", after := #[{ on := 5, ground := Ground.data }, { on := 7, ground := Ground.data }, { on := 5, ground := Ground.chain }], guard := none }, { dst := some 117, op := Op.fieldAddr 26 (Operand.tmp 3) 4, type := 0, pos := "l12_draw.go:285", after := #[], guard := none }, { dst := some 118, op := Op.load 23 (Operand.tmp 117), type := 23, pos := "l12_draw.go:285", after := #[{ on := 9, ground := Ground.data }], guard := none }, { dst := some 119, op := Op.move (Operand.tmp 7), type := 3, pos := "l12_draw.go:285", after := #[], guard := none }, { dst := some 120, op := Op.slice 23 (Operand.tmp 118) (some (Operand.tmp 119)) none none, type := 23, pos := "l12_draw.go:285", after := #[{ on := 10, ground := Ground.data }, { on := 11, ground := Ground.data }], guard := none }, { dst := some 121, op := Op.call { callee := Callee.builtin Builtin.append, args := #[Operand.tmp 116, Operand.tmp 120], argTypes := #[23, 23] }, type := 23, pos := "l12_draw.go:285", after := #[{ on := 8, ground := Ground.data }, { on := 12, ground := Ground.data }, { on := 8, ground := Ground.chain }], guard := none }, { dst := some 122, op := Op.fieldAddr 26 (Operand.tmp 3) 4, type := 0, pos := "l12_draw.go:285", after := #[{ on := 0, ground := Ground.phase }, { on := 1, ground := Ground.phase }, { on := 2, ground := Ground.phase }, { on := 3, ground := Ground.phase }, { on := 4, ground := Ground.phase }, { on := 5, ground := Ground.phase }, { on := 6, ground := Ground.phase }, { on := 7, ground := Ground.phase }, { on := 8, ground := Ground.phase }, { on := 9, ground := Ground.phase }, { on := 10, ground := Ground.phase }, { on := 11, ground := Ground.phase }, { on := 12, ground := Ground.phase }, { on := 13, ground := Ground.phase }], guard := none }] ({ dst := none, op := Op.store 23 (Operand.tmp 122) (Operand.tmp 121), type := 0, pos := "l12_draw.go:285", after := #[{ on := 14, ground := Ground.data }, { on := 13, ground := Ground.data }, { on := 13, ground := Ground.chain }, { on := 0, ground := Ground.phase }, { on := 1, ground := Ground.phase }, { on := 2, ground := Ground.phase }, { on := 3, ground := Ground.phase }, { on := 4, ground := Ground.phase }, { on := 5, ground := Ground.phase }, { on := 6, ground := Ground.phase }, { on := 7, ground := Ground.phase }, { on := 8, ground := Ground.phase }, { on := 9, ground := Ground.phase }, { on := 10, ground := Ground.phase }, { on := 11, ground := Ground.phase }, { on := 12, ground := Ground.phase }, { on := 13, ground := Ground.phase }], guard := none }) (fun w' => Below wi.heap.size wi w') rfl (by kernel_rfl) (by kernel_rfl) ((Below.refl _ _).drew) (fun hHeld => ?_)
                refine wpAnyH_take (i := 1) (oi := { dst := some 109, op := Op.fieldAddr 26 (Operand.tmp 3) 4, type := 0, pos := "l12_draw.go:285", after := #[], guard := none }) (v := ?_) rfl (by kernel_rfl) (by kernel_rfl) (by kernel_rfl) (fun _ _ _ h => h) (Or.inl ⟨by rfl, ?_⟩) (by assumption) ?_
                rotate_left
                · (intro w7 hC7; obtain ⟨y1, y2, y3, y4⟩ := HFX.out w7 hC7; clear hC7; go_simp; first | done | rfl)
                (try simp only [Act.put, List.setIfInBounds_toArray, List.set_cons_zero, List.set_cons_succ])
                refine wpAnyH_take (i := 2) (oi := { dst := some 110, op := Op.load 23 (Operand.tmp 109), type := 23, pos := "l12_draw.go:285", after := #[{ on := 1, ground := Ground.data }], guard := none }) (v := ?_) rfl (by kernel_rfl) (by kernel_rfl) (by kernel_rfl) (fun _ _ _ h => h) (Or.inl ⟨by rfl, ?_⟩) (by assumption) ?_
                rotate_left
                · (intro w7 hC7; obtain ⟨y1, y2, y3, y4⟩ := HFX.out w7 hC7; clear hC7; go_simp; first | done | rfl)
                (try simp only [Act.put, List.setIfInBounds_toArray, List.set_cons_zero, List.set_cons_succ])
                refine wpAnyH_take (i := 3) (oi := { dst := some 111, op := Op.move (Operand.tmp 7), type := 3, pos := "l12_draw.go:285", after := #[], guard := none }) (v := ?_) rfl (by kernel_rfl) (by kernel_rfl) (by kernel_rfl) (fun _ _ _ h => h) (Or.inl ⟨by rfl, ?_⟩) (by assumption) ?_
                rotate_left
                · (intro w7 hC7; obtain ⟨y1, y2, y3, y4⟩ := HFX.out w7 hC7; clear hC7; go_simp; first | done | rfl)
                (try simp only [Act.put, List.setIfInBounds_toArray, List.set_cons_zero, List.set_cons_succ])
                refine wpAnyH_take (i := 4) (oi := { dst := some 112, op := Op.slice 23 (Operand.tmp 110) none (some (Operand.tmp 111)) none, type := 23, pos := "l12_draw.go:285", after := #[{ on := 2, ground := Ground.data }, { on := 3, ground := Ground.data }], guard := none }) (v := ?_) rfl (by kernel_rfl) (by kernel_rfl) (by kernel_rfl) (fun _ _ _ h => h) (Or.inl ⟨by rfl, ?_⟩) (by assumption) ?_
                rotate_left
                · (intro w7 hC7; obtain ⟨y1, y2, y3, y4⟩ := HFX.out w7 hC7; clear hC7; go_simp; first | done | rfl)
                (try simp only [Act.put, List.setIfInBounds_toArray, List.set_cons_zero, List.set_cons_succ])
                refine wpAnyH_take (i := 6) (oi := { dst := some 114, op := Op.load 38 (Operand.tmp 6), type := 38, pos := "l12_draw.go:285", after := #[], guard := none }) (v := ?_) rfl (by kernel_rfl) (by kernel_rfl) (by kernel_rfl) (fun _ _ _ h => h) (Or.inl ⟨by rfl, ?_⟩) (by assumption) ?_
                rotate_left
                · (intro w7 hC7; obtain ⟨y1, y2, y3, y4⟩ := HFX.out w7 hC7; clear hC7; go_simp; first | done | rfl)
                (try simp only [Act.put, List.setIfInBounds_toArray, List.set_cons_zero, List.set_cons_succ])
                refine wpAnyH_take (i := 9) (oi := { dst := some 117, op := Op.fieldAddr 26 (Operand.tmp 3) 4, type := 0, pos := "l12_draw.go:285", after := #[], guard := none }) (v := ?_) rfl (by kernel_rfl) (by kernel_rfl) (by kernel_rfl) (fun _ _ _ h => h) (Or.inl ⟨by rfl, ?_⟩) (by assumption) ?_
                rotate_left
                · (intro w7 hC7; obtain ⟨y1, y2, y3, y4⟩ := HFX.out w7 hC7; clear hC7; go_simp; first | done | rfl)
                (try simp only [Act.put, List.setIfInBounds_toArray, List.set_cons_zero, List.set_cons_succ])
                refine wpAnyH_take (i := 10) (oi := { dst := some 118, op := Op.load 23 (Operand.tmp 117), type := 23, pos := "l12_draw.go:285", after := #[{ on := 9, ground := Ground.data }], guard := none }) (v := ?_) rfl (by kernel_rfl) (by kernel_rfl) (by kernel_rfl) (fun _ _ _ h => h) (Or.inl ⟨by rfl, ?_⟩) (by assumption) ?_
                rotate_left
                · (intro w7 hC7; obtain ⟨y1, y2, y3, y4⟩ := HFX.out w7 hC7; clear hC7; go_simp; first | done | rfl)
                (try simp only [Act.put, List.setIfInBounds_toArray, List.set_cons_zero, List.set_cons_succ])
                refine wpAnyH_take (i := 11) (oi := { dst := some 119, op := Op.move (Operand.tmp 7), type := 3, pos := "l12_draw.go:285", after := #[], guard := none }) (v := ?_) rfl (by kernel_rfl) (by kernel_rfl) (by kernel_rfl) (fun _ _ _ h => h) (Or.inl ⟨by rfl, ?_⟩) (by assumption) ?_
                rotate_left
                · (intro w7 hC7; obtain ⟨y1, y2, y3, y4⟩ := HFX.out w7 hC7; clear hC7; go_simp; first | done | rfl)
                (try simp only [Act.put, List.setIfInBounds_toArray, List.set_cons_zero, List.set_cons_succ])
                refine wpAnyH_take (i := 12) (oi := { dst := some 120, op := Op.slice 23 (Operand.tmp 118) (some (Operand.tmp 119)) none none, type := 23, pos := "l12_draw.go:285", after := #[{ on := 10, ground := Ground.data }, { on := 11, ground := Ground.data }], guard := none }) (v := ?_) rfl (by kernel_rfl) (by kernel_rfl) (by kernel_rfl) (fun _ _ _ h => h) (Or.inl ⟨by rfl, ?_⟩) (by assumption) ?_
                rotate_left
                · (intro w7 hC7; obtain ⟨y1, y2, y3, y4⟩ := HFX.out w7 hC7; clear hC7; go_simp; first | done | rfl)
                (try simp only [Act.put, List.setIfInBounds_toArray, List.set_cons_zero, List.set_cons_succ])
                refine wpAnyH_ready (rs := [0, 7]) (by kernel_rfl) (by simp) ?_
                refine AllReadyH.cons (o := { dst := some 108, op := Op.buildSlice 23 0 #[], type := 23, pos := "l12_draw.go:285", after := #[], guard := none }) rfl (fun K hK => ?_) ?_
                · go_simp
                  refine hK.out _ _ (Below.alloc hHeld hHeld.size _) (fun hHeld => ?_)
                  clear hK K
                  (try simp only [Act.put, List.setIfInBounds_toArray, List.set_cons_zero, List.set_cons_succ])
                  refine wpAnyH_ready (rs := [5, 7]) (by kernel_rfl) (by simp) ?_
                  refine AllReadyH.cons (o := { dst := some 113, op := Op.call { callee := Callee.builtin Builtin.append, args := #[Operand.tmp 108, Operand.tmp 112], argTypes := #[23, 23] }, type := 23, pos := "l12_draw.go:285", after := #[{ on := 0, ground := Ground.data }, { on := 4, ground := Ground.data }], guard := none }) rfl (fun K hK => ?_) ?_
                  · refine step_append_i _ (by rfl) _ _ _ (by rfl) wi.heap.size 38 i0 (.agg #[.int .i64 0, .int .i64 0]) 2 16 Tryd.underlying23 hi hz0 hz1 hz2 rfl (by omega) _ 0 [] (by rfl) HW.out.1.1 ⟨g, 0, none⟩ k _ (pcs (r.ds.take k)) (by rfl) HL1.out (HN1.out _ HW.out.2.2.1) (pcs_two _) (le_maxLen (by omega)) (by omega) HW.out.2.2.1.size ?_; intro v1 w1 o1 hgrow; have S1 : Below wi.heap.size wi w1 := HW.out.2.2.1.grown hgrow HW.out.2.2.1.size (fun q hq => (World.ownsRow.lt HW.out.1.1 q hq).1); have zz1 := HFX.out w1 S1; obtain ⟨za1, za2, za3, za4⟩ := zz1
                    refine hK.out _ _ S1 (fun hHeld => ?_)
                    clear hK K
                    (try simp only [Act.put, List.setIfInBounds_toArray, List.set_cons_zero, List.set_cons_succ])
                    refine wpAnyH_ready (rs := [7]) (by kernel_rfl) (by simp) ?_
                    refine AllReadyH.cons (o := { dst := some 115, op := Op.buildSlice 23 1 #[(0, Operand.tmp 114)], type := 23, pos := "l12_draw.go:285", after := #[{ on := 6, ground := Ground.data }], guard := none }) rfl (fun K hK => ?_) ?_
                    · go_simp
                      refine hK.out _ _ (Below.alloc hHeld hHeld.size _) (fun hHeld => ?_)
                      clear hK K
                      (try simp only [Act.put, List.setIfInBounds_toArray, List.set_cons_zero, List.set_cons_succ])
                      refine wpAnyH_ready (rs := [8]) (by kernel_rfl) (by simp) ?_
                      refine AllReadyH.cons (o := { dst := some 116, op := Op.call { callee := Callee.builtin Builtin.append, args := #[Operand.tmp 113, Operand.tmp 115], argTypes := #[23, 23] }, type := 23, pos := "l12_draw.go:285", after := #[{ on := 5, ground := Ground.data }, { on := 7, ground := Ground.data }, { on := 5, ground := Ground.chain }], guard := none }) rfl (fun K hK => ?_) ?_
                      · have q2 := (World.ownsRow.alloc o1 (Obj.cells #[Value.int IntKind.i64 nm, Value.int IntKind.i64 dy] 38)); have q3 : ∀ j u, ([.int .i64 nm, .int .i64 dy] : List Value)[j]? = some u → (w1.alloc (Obj.cells #[Value.int IntKind.i64 nm, Value.int IntKind.i64 dy] 38)).cell? ((⟨w1.heap.size, 0, none⟩ : Addr).add j) = some u := (World.news_of_block (heap_alloc_new w1 _)); have q7 := (S1.alloc S1.size (Obj.cells #[Value.int IntKind.i64 nm, Value.int IntKind.i64 dy] 38)); have q4 := q7.size; refine step_append_i (w1.alloc (Obj.cells #[Value.int IntKind.i64 nm, Value.int IntKind.i64 dy] 38)) (by rfl) _ _ _ (by rfl) wi.heap.size 38 i0 (.agg #[.int .i64 0, .int .i64 0]) 2 16 Tryd.underlying23 hi hz0 hz1 hz2 rfl (by omega) _ (0 + k) ([] ++ pcs (r.ds.take k)) (by rfl) q2 ⟨w1.heap.size, 0, none⟩ 1 1 [.int .i64 nm, .int .i64 dy] (by rfl) (by rfl) q3 (by simp [Value.oneCell']) (le_maxLen (by omega)) (by omega) q4 ?_; intro v2 w2 o2 hgrow2; have S2 : Below wi.heap.size wi w2 := q7.grown hgrow2 q4 (fun q hq => (World.ownsRow.lt q2 q hq).1); clear q2 q3 q4 q7; have zz2 := HFX.out w2 S2; obtain ⟨zb1, zb2, zb3, zb4⟩ := zz2
                        refine hK.out _ _ S2 (fun hHeld => ?_)
                        clear hK K
                        (try simp only [Act.put, List.setIfInBounds_toArray, List.set_cons_zero, List.set_cons_succ])
                        refine wpAnyH_ready (rs := [13]) (by kernel_rfl) (by simp) ?_
                        refine AllReadyH.cons (o := { dst := some 121, op := Op.call { callee := Callee.builtin Builtin.append, args := #[Operand.tmp 116, Operand.tmp 120], argTypes := #[23, 23] }, type := 23, pos := "l12_draw.go:285", after := #[{ on := 8, ground := Ground.data }, { on := 12, ground := Ground.data }, { on := 8, ground := Ground.chain }], guard := none }) rfl (fun K hK => ?_) ?_
                        · refine step_append_i _ (by rfl) _ _ _ (by rfl) wi.heap.size 38 i0 (.agg #[.int .i64 0, .int .i64 0]) 2 16 Tryd.underlying23 hi hz0 hz1 hz2 rfl (by omega) _ (0 + k + 1) ([] ++ pcs (r.ds.take k) ++ [.int .i64 nm, .int .i64 dy]) (by rfl) o2 ⟨g, k * 2, none⟩ (r.ds.length - k) _ (pcs ((r.ds.drop k).take (r.ds.length - k))) (by rfl) HL3.out (HN3.out _ S2) (pcs_two _) (le_maxLen (by omega)) (by omega) S2.size ?_; intro v3 w3 o3 hgrow3; have S3 : Below wi.heap.size wi w3 := S2.grown hgrow3 S2.size (fun q hq => (World.ownsRow.lt o2 q hq).1); have zz3 := HFX.out w3 S3; obtain ⟨zc1, zc2, zc3, zc4⟩ := zz3
                          refine hK.out _ _ S3 (fun hHeld => ?_)
                          clear hK K
                          (try simp only [Act.put, List.setIfInBounds_toArray, List.set_cons_zero, List.set_cons_succ])
                          refine wpAnyH_take (i := 14) (oi := { dst := some 122, op := Op.fieldAddr 26 (Operand.tmp 3) 4, type := 0, pos := "l12_draw.go:285", after := #[{ on := 0, ground := Ground.phase }, { on := 1, ground := Ground.phase }, { on := 2, ground := Ground.phase }, { on := 3, ground := Ground.phase }, { on := 4, ground := Ground.phase }, { on := 5, ground := Ground.phase }, { on := 6, ground := Ground.phase }, { on := 7, ground := Ground.phase }, { on := 8, ground := Ground.phase }, { on := 9, ground := Ground.phase }, { on := 10, ground := Ground.phase }, { on := 11, ground := Ground.phase }, { on := 12, ground := Ground.phase }, { on := 13, ground := Ground.phase }], guard := none }) (v := ?_) rfl (by kernel_rfl) (by kernel_rfl) (by kernel_rfl) (fun _ _ _ h => h) (Or.inl ⟨by rfl, ?_⟩) (by assumption) ?_
                          rotate_left
                          · (intro w7 hC7; obtain ⟨y1, y2, y3, y4⟩ := HFX.out w7 hC7; clear hC7; go_simp; first | done | rfl)
                          (try simp only [Act.put, List.setIfInBounds_toArray, List.set_cons_zero, List.set_cons_succ])
                          refine wpAnyH_done (by kernel_rfl) ?_ _
                          simp only [Ql]
                          obtain ⟨g', c', l', r', m', e3, KF⟩ := FIN.out _ _ _ _ _ o3 (by have := HK2.out; omega) S3
                          have HKF := Hid.mk' KF
                          subst e3
                          clear KF o1 o2 o3 S1 S2 S3 hgrow hgrow2 hgrow3
                          go_simp
                          go_wp2
                          go_roundw
                          case rel => exact ⟨i, r', m', by go_num, HKF.out.2.1, HKF.out.1, HKF.out.2.2⟩
                          case measure => first | (simp [intOf]; done) | (simp [intOf]; omega)
                        exact AllReadyH.nil
                      exact AllReadyH.nil
                    exact AllReadyH.nil
                  refine AllReadyH.cons (o := { dst := some 115, op := Op.buildSlice 23 1 #[(0, Operand.tmp 114)], type := 23, pos := "l12_draw.go:285", after := #[{ on := 6, ground := Ground.data }], guard := none }) rfl (fun K hK => ?_) ?_
                  · go_simp
                    refine hK.out _ _ (Below.alloc hHeld hHeld.size _) (fun hHeld => ?_)
                    clear hK K
                    (try simp only [Act.put, List.setIfInBounds_toArray, List.set_cons_zero, List.set_cons_succ])
                    refine wpAnyH_ready (rs := [5]) (by kernel_rfl) (by simp) ?_
                    refine AllReadyH.cons (o := { dst := some 113, op := Op.call { callee := Callee.builtin Builtin.append, args := #[Operand.tmp 108, Operand.tmp 112], argTypes := #[23, 23] }, type := 23, pos := "l12_draw.go:285", after := #[{ on := 0, ground := Ground.data }, { on := 4, ground := Ground.data }], guard := none }) rfl (fun K hK => ?_) ?_
                    · refine step_append_i _ (by rfl) _ _ _ (by rfl) wi.heap.size 38 i0 (.agg #[.int .i64 0, .int .i64 0]) 2 16 Tryd.underlying23 hi hz0 hz1 hz2 rfl (by omega) _ 0 [] (by rfl) HW.out.1.2.1 ⟨g, 0, none⟩ k _ (pcs (r.ds.take k)) (by rfl) HL1.out (HN1.out _ HW.out.2.2.2.1) (pcs_two _) (le_maxLen (by omega)) (by omega) HW.out.2.2.2.1.size ?_; intro v1 w1 o1 hgrow; have S1 : Below wi.heap.size wi w1 := HW.out.2.2.2.1.grown hgrow HW.out.2.2.2.1.size (fun q hq => (World.ownsRow.lt HW.out.1.2.1 q hq).1); have zz1 := HFX.out w1 S1; obtain ⟨za1, za2, za3, za4⟩ := zz1; have hx1 := two_far2 (wi.heap.size + 1) hgrow rfl (by omega) HW.out.2.1.1
                      refine hK.out _ _ S1 (fun hHeld => ?_)
                      clear hK K
                      (try simp only [Act.put, List.setIfInBounds_toArray, List.set_cons_zero, List.set_cons_succ])
                      refine wpAnyH_ready (rs := [8]) (by kernel_rfl) (by simp) ?_
                      refine AllReadyH.cons (o := { dst := some 116, op := Op.call { callee := Callee.builtin Builtin.append, args := #[Operand.tmp 113, Operand.tmp 115], argTypes := #[23, 23] }, type := 23, pos := "l12_draw.go:285", after := #[{ on := 5, ground := Ground.data }, { on := 7, ground := Ground.data }, { on := 5, ground := Ground.chain }], guard := none }) rfl (fun K hK => ?_) ?_
                      · refine step_append_i _ (by rfl) _ _ _ (by rfl) wi.heap.size 38 i0 (.agg #[.int .i64 0, .int .i64 0]) 2 16 Tryd.underlying23 hi hz0 hz1 hz2 rfl (by omega) _ (0 + k) ([] ++ pcs (r.ds.take k)) (by rfl) o1 ⟨_, 0, none⟩ 1 1 [.int .i64 nm, .int .i64 dy] (by rfl) (by rfl) (two_news2 hx1) (by simp [Value.oneCell']) (le_maxLen (by omega)) (by omega) S1.size ?_; intro v2 w2 o2 hgrow2; have S2 : Below wi.heap.size wi w2 := S1.grown hgrow2 S1.size (fun q hq => (World.ownsRow.lt o1 q hq).1); have zz2 := HFX.out w2 S2; obtain ⟨zb1, zb2, zb3, zb4⟩ := zz2
                        refine hK.out _ _ S2 (fun hHeld => ?_)
                        clear hK K
                        (try simp only [Act.put, List.setIfInBounds_toArray, List.set_cons_zero, List.set_cons_succ])
                        refine wpAnyH_ready (rs := [13]) (by kernel_rfl) (by simp) ?_
                        refine AllReadyH.cons (o := { dst := some 121, op := Op.call { callee := Callee.builtin Builtin.append, args := #[Operand.tmp 116, Operand.tmp 120], argTypes := #[23, 23] }, type := 23, pos := "l12_draw.go:285", after := #[{ on := 8, ground := Ground.data }, { on := 12, ground := Ground.data }, { on := 8, ground := Ground.chain }], guard := none }) rfl (fun K hK => ?_) ?_
                        · refine step_append_i _ (by rfl) _ _ _ (by rfl) wi.heap.size 38 i0 (.agg #[.int .i64 0, .int .i64 0]) 2 16 Tryd.underlying23 hi hz0 hz1 hz2 rfl (by omega) _ (0 + k + 1) ([] ++ pcs (r.ds.take k) ++ [.int .i64 nm, .int .i64 dy]) (by rfl) o2 ⟨g, k * 2, none⟩ (r.ds.length - k) _ (pcs ((r.ds.drop k).take (r.ds.length - k))) (by rfl) HL3.out (HN3.out _ S2) (pcs_two _) (le_maxLen (by omega)) (by omega) S2.size ?_; intro v3 w3 o3 hgrow3; have S3 : Below wi.heap.size wi w3 := S2.grown hgrow3 S2.size (fun q hq => (World.ownsRow.lt o2 q hq).1); have zz3 := HFX.out w3 S3; obtain ⟨zc1, zc2, zc3, zc4⟩ := zz3
                          refine hK.out _ _ S3 (fun hHeld => ?_)
                          clear hK K
                          (try simp only [Act.put, List.setIfInBounds_toArray, List.set_cons_zero, List.set_cons_succ])
                          refine wpAnyH_take (i := 14) (oi := { dst := some 122, op := Op.fieldAddr 26 (Operand.tmp 3) 4, type := 0, pos := "l12_draw.go:285", after := #[{ on := 0, ground := Ground.phase }, { on := 1, ground := Ground.phase }, { on := 2, ground := Ground.phase }, { on := 3, ground := Ground.phase }, { on := 4, ground := Ground.phase }, { on := 5, ground := Ground.phase }, { on := 6, ground := Ground.phase }, { on := 7, ground := Ground.phase }, { on := 8, ground := Ground.phase }, { on := 9, ground := Ground.phase }, { on := 10, ground := Ground.phase }, { on := 11, ground := Ground.phase }, { on := 12, ground := Ground.phase }, { on := 13, ground := Ground.phase }], guard := none }) (v := ?_) rfl (by kernel_rfl) (by kernel_rfl) (by kernel_rfl) (fun _ _ _ h => h) (Or.inl ⟨by rfl, ?_⟩) (by assumption) ?_
                          rotate_left
                          · (intro w7 hC7; obtain ⟨y1, y2, y3, y4⟩ := HFX.out w7 hC7; clear hC7; go_simp; first | done | rfl)
                          (try simp only [Act.put, List.setIfInBounds_toArray, List.set_cons_zero, List.set_cons_succ])
                          refine wpAnyH_done (by kernel_rfl) ?_ _
                          simp only [Ql]
                          obtain ⟨g', c', l', r', m', e3, KF⟩ := FIN.out _ _ _ _ _ o3 (by have := HK2.out; omega) S3
                          have HKF := Hid.mk' KF
                          subst e3
                          clear KF o1 o2 o3 S1 S2 S3 hgrow hgrow2 hgrow3
                          go_simp
                          go_wp2
                          go_roundw
                          case rel => exact ⟨i, r', m', by go_num, HKF.out.2.1, HKF.out.1, HKF.out.2.2⟩
                          case measure => first | (simp [intOf]; done) | (simp [intOf]; omega)
                        exact AllReadyH.nil
                      exact AllReadyH.nil
                    exact AllReadyH.nil
                  exact AllReadyH.nil
                refine AllReadyH.cons (o := { dst := some 115, op := Op.buildSlice 23 1 #[(0, Operand.tmp 114)], type := 23, pos := "l12_draw.go:285", after := #[{ on := 6, ground := Ground.data }], guard := none }) rfl (fun K hK => ?_) ?_
                · go_simp
                  refine hK.out _ _ (Below.alloc hHeld hHeld.size _) (fun hHeld => ?_)
                  clear hK K
                  (try simp only [Act.put, List.setIfInBounds_toArray, List.set_cons_zero, List.set_cons_succ])
                  refine wpAnyH_ready (rs := [0]) (by kernel_rfl) (by simp) ?_
                  refine AllReadyH.cons (o := { dst := some 108, op := Op.buildSlice 23 0 #[], type := 23, pos := "l12_draw.go:285", after := #[], guard := none }) rfl (fun K hK => ?_) ?_
                  · go_simp
                    refine hK.out _ _ (Below.alloc hHeld hHeld.size _) (fun hHeld => ?_)
                    clear hK K
                    (try simp only [Act.put, List.setIfInBounds_toArray, List.set_cons_zero, List.set_cons_succ])
                    refine wpAnyH_ready (rs := [5]) (by kernel_rfl) (by simp) ?_
                    refine AllReadyH.cons (o := { dst := some 113, op := Op.call { callee := Callee.builtin Builtin.append, args := #[Operand.tmp 108, Operand.tmp 112], argTypes := #[23, 23] }, type := 23, pos := "l12_draw.go:285", after := #[{ on := 0, ground := Ground.data }, { on := 4, ground := Ground.data }], guard := none }) rfl (fun K hK => ?_) ?_
                    · refine step_append_i _ (by rfl) _ _ _ (by rfl) wi.heap.size 38 i0 (.agg #[.int .i64 0, .int .i64 0]) 2 16 Tryd.underlying23 hi hz0 hz1 hz2 rfl (by omega) _ 0 [] (by rfl) HW.out.1.2.2 ⟨g, 0, none⟩ k _ (pcs (r.ds.take k)) (by rfl) HL1.out (HN1.out _ HW.out.2.2.2.2) (pcs_two _) (le_maxLen (by omega)) (by omega) HW.out.2.2.2.2.size ?_; intro v1 w1 o1 hgrow; have S1 : Below wi.heap.size wi w1 := HW.out.2.2.2.2.grown hgrow HW.out.2.2.2.2.size (fun q hq => (World.ownsRow.lt HW.out.1.2.2 q hq).1); have zz1 := HFX.out w1 S1; obtain ⟨za1, za2, za3, za4⟩ := zz1; have hx1 := two_far2 wi.heap.size hgrow rfl (by omega) HW.out.2.1.2
                      refine hK.out _ _ S1 (fun hHeld => ?_)
                      clear hK K
                      (try simp only [Act.put, List.setIfInBounds_toArray, List.set_cons_zero, List.set_cons_succ])
                      refine wpAnyH_ready (rs := [8]) (by kernel_rfl) (by simp) ?_
                      refine AllReadyH.cons (o := { dst := some 116, op := Op.call { callee := Callee.builtin Builtin.append, args := #[Operand.tmp 113, Operand.tmp 115], argTypes := #[23, 23] }, type := 23, pos := "l12_draw.go:285", after := #[{ on := 5, ground := Ground.data }, { on := 7, ground := Ground.data }, { on := 5, ground := Ground.chain }], guard := none }) rfl (fun K hK => ?_) ?_
                      · refine step_append_i _ (by rfl) _ _ _ (by rfl) wi.heap.size 38 i0 (.agg #[.int .i64 0, .int .i64 0]) 2 16 Tryd.underlying23 hi hz0 hz1 hz2 rfl (by omega) _ (0 + k) ([] ++ pcs (r.ds.take k)) (by rfl) o1 ⟨_, 0, none⟩ 1 1 [.int .i64 nm, .int .i64 dy] (by rfl) (by rfl) (two_news2 hx1) (by simp [Value.oneCell']) (le_maxLen (by omega)) (by omega) S1.size ?_; intro v2 w2 o2 hgrow2; have S2 : Below wi.heap.size wi w2 := S1.grown hgrow2 S1.size (fun q hq => (World.ownsRow.lt o1 q hq).1); have zz2 := HFX.out w2 S2; obtain ⟨zb1, zb2, zb3, zb4⟩ := zz2
                        refine hK.out _ _ S2 (fun hHeld => ?_)
                        clear hK K
                        (try simp only [Act.put, List.setIfInBounds_toArray, List.set_cons_zero, List.set_cons_succ])
                        refine wpAnyH_ready (rs := [13]) (by kernel_rfl) (by simp) ?_
                        refine AllReadyH.cons (o := { dst := some 121, op := Op.call { callee := Callee.builtin Builtin.append, args := #[Operand.tmp 116, Operand.tmp 120], argTypes := #[23, 23] }, type := 23, pos := "l12_draw.go:285", after := #[{ on := 8, ground := Ground.data }, { on := 12, ground := Ground.data }, { on := 8, ground := Ground.chain }], guard := none }) rfl (fun K hK => ?_) ?_
                        · refine step_append_i _ (by rfl) _ _ _ (by rfl) wi.heap.size 38 i0 (.agg #[.int .i64 0, .int .i64 0]) 2 16 Tryd.underlying23 hi hz0 hz1 hz2 rfl (by omega) _ (0 + k + 1) ([] ++ pcs (r.ds.take k) ++ [.int .i64 nm, .int .i64 dy]) (by rfl) o2 ⟨g, k * 2, none⟩ (r.ds.length - k) _ (pcs ((r.ds.drop k).take (r.ds.length - k))) (by rfl) HL3.out (HN3.out _ S2) (pcs_two _) (le_maxLen (by omega)) (by omega) S2.size ?_; intro v3 w3 o3 hgrow3; have S3 : Below wi.heap.size wi w3 := S2.grown hgrow3 S2.size (fun q hq => (World.ownsRow.lt o2 q hq).1); have zz3 := HFX.out w3 S3; obtain ⟨zc1, zc2, zc3, zc4⟩ := zz3
                          refine hK.out _ _ S3 (fun hHeld => ?_)
                          clear hK K
                          (try simp only [Act.put, List.setIfInBounds_toArray, List.set_cons_zero, List.set_cons_succ])
                          refine wpAnyH_take (i := 14) (oi := { dst := some 122, op := Op.fieldAddr 26 (Operand.tmp 3) 4, type := 0, pos := "l12_draw.go:285", after := #[{ on := 0, ground := Ground.phase }, { on := 1, ground := Ground.phase }, { on := 2, ground := Ground.phase }, { on := 3, ground := Ground.phase }, { on := 4, ground := Ground.phase }, { on := 5, ground := Ground.phase }, { on := 6, ground := Ground.phase }, { on := 7, ground := Ground.phase }, { on := 8, ground := Ground.phase }, { on := 9, ground := Ground.phase }, { on := 10, ground := Ground.phase }, { on := 11, ground := Ground.phase }, { on := 12, ground := Ground.phase }, { on := 13, ground := Ground.phase }], guard := none }) (v := ?_) rfl (by kernel_rfl) (by kernel_rfl) (by kernel_rfl) (fun _ _ _ h => h) (Or.inl ⟨by rfl, ?_⟩) (by assumption) ?_
                          rotate_left
                          · (intro w7 hC7; obtain ⟨y1, y2, y3, y4⟩ := HFX.out w7 hC7; clear hC7; go_simp; first | done | rfl)
                          (try simp only [Act.put, List.setIfInBounds_toArray, List.set_cons_zero, List.set_cons_succ])
                          refine wpAnyH_done (by kernel_rfl) ?_ _
                          simp only [Ql]
                          obtain ⟨g', c', l', r', m', e3, KF⟩ := FIN.out _ _ _ _ _ o3 (by have := HK2.out; omega) S3
                          have HKF := Hid.mk' KF
                          subst e3
                          clear KF o1 o2 o3 S1 S2 S3 hgrow hgrow2 hgrow3
                          go_simp
                          go_wp2
                          go_roundw
                          case rel => exact ⟨i, r', m', by go_num, HKF.out.2.1, HKF.out.1, HKF.out.2.2⟩
                          case measure => first | (simp [intOf]; done) | (simp [intOf]; omega)
                        exact AllReadyH.nil
                      exact AllReadyH.nil
                    exact AllReadyH.nil
                  exact AllReadyH.nil
                exact AllReadyH.nil
        · have hj0 : ¬ (0 : Int) < (j : Int) := by omega
          have HK : Hid (RS w rb w.heap.size X (L + 26 - 3 * j) r m wo) := K
          clear K
          go_wp2
          go_meet
          case rel => exact ⟨rfl, r, m, HK.out.more (by omega), by have := HSM.out.1; omega, HSM.out.2⟩
  clear hcy
  obtain ⟨rfl, hc⟩ := hcut
  generalize wc = wf at hc ⊢
  go_upto_region 24 with fail
  go_cut [3, 139] (fun p t wc => p = .pointer (some ⟨X, 0, none⟩) ∧ (∃ b : Bool, t = .bool b) ∧ ∃ r m, RS w rb w.heap.size X (L + 28) r m wc ∧ Sml 3 r)
  case first =>
    obtain ⟨r, m, K, sm⟩ := hc
    have c4 : wf.cell? ⟨X, 4, none⟩ = some (.slice m.a0 r.ds.length m.c0) := (K.c.2 4 _ rfl).1
    have c5 : wf.cell? ⟨X, 5, none⟩ = some (.slice m.a1 r.da.length m.c1) := (K.c.2 5 _ rfl).1
    have c6 : wf.cell? ⟨X, 6, none⟩ = some (.slice m.a2 r.mo.length m.c2) := (K.c.2 6 _ rfl).1
    have rd := K.rd
    have HK : Hid (RS w rb w.heap.size X (L + 27) r m wf) := K
    have HSM : Hid (Sml 3 r) := sm
    obtain ⟨b0, b1, b2, b3⟩ := sm
    clear K
    by_cases hs : 0 < (r.ds.length : Int) + (r.da.length : Int) + (r.mo.length : Int)
    · have hs2 : decide (0 < (r.ds.length : Int) + (r.da.length : Int) + (r.mo.length : Int)) = true := decide_eq_true hs
      go_wp2_with fail
      refine (pick_pos _ wf rb _ rd (by omega) (by omega)).mono ?_
      rintro e w5 ⟨⟨x, rfl, _, _⟩, hr5, hb5⟩
      have K5 : Hid (RS w rb w.heap.size X (L + 28) r m w5) := HK.out.step hb5 hr5
      clear hr5 hb5 HK rd c4 c5 c6
      go_wp2
      go_meet
      case rel => exact ⟨rfl, ⟨_, rfl⟩, r, m, K5.out, HSM.out⟩
    · have hs2 : decide (0 < (r.ds.length : Int) + (r.da.length : Int) + (r.mo.length : Int)) = false := decide_eq_false hs
      go_wp2
      go_meet
      case rel => exact ⟨rfl, ⟨_, rfl⟩, r, m, HK.out.more (by omega), HSM.out⟩
  obtain ⟨rfl, ⟨hqp, rfl⟩, hc⟩ := hcut
  generalize wc = wdp at hc ⊢
  have hcp : Hid (∃ r m, RS w rb w.heap.size X (L + 28) r m wdp ∧ Sml 3 r) := hc
  clear hc
  go_upto_if 139 with fail
  go_cut [3] (fun p wc => p = .pointer (some ⟨X, 0, none⟩) ∧ ∃ r m, RS w rb w.heap.size X (L + 32) r m wc ∧ Sml 3 r)
  case first =>
    obtain ⟨r, m, K, sm⟩ := hcp.out
    have HK : Hid (RS w rb w.heap.size X (L + 28) r m wdp) := K
    have rd := K.rd
    have HX : Hid (X < wdp.heap.size) := K.c.1
    clear K hcp
    cases hqp with
    | true =>
      go_wp2_with fail
      refine (ints_list wdp rb _ rd (by omega) 5 2 [1, 2, 3, -1, -2] rfl (by omega) (by omega) _ rfl (by omega) _ rfl).mono ?_
      rintro e w5 ⟨⟨g, c, l, rfl, O, hl⟩, hr5, hb5⟩
      have Kc := HK.out.step hb5 hr5
      have c2 := (Kc.c.2 7 _ rfl).1
      have f2 := (Kc.c.2 7 _ rfl).2
      have fin : Hid (∃ r m, RS w rb w.heap.size X (L + 32) r m (w5.setCell ⟨X, 7, none⟩ (.slice (some ⟨g, 0, none⟩) l.length c)) ∧ Sml 3 r) := ⟨⟨r.f, r.ev, r.ct, r.un, r.ds, r.da, r.mo, l, r.wk⟩, ⟨m.a0, m.c0, m.a1, m.c1, m.a2, m.c2, some ⟨g, 0, none⟩, c⟩, (RS.put (r' := ⟨r.f, r.ev, r.ct, r.un, r.ds, r.da, r.mo, l, r.wk⟩) (m' := ⟨m.a0, m.c0, m.a1, m.c1, m.a2, m.c2, some ⟨g, 0, none⟩, c⟩) Kc 7 _ (by omega) rfl ⟨Kc.l.d, Kc.l.a, Kc.l.o, O.base (Nat.succ_le_of_lt HX.out), Kc.l.q.1, own_ne HK.out.l.a (Nat.le_refl _) O, own_ne HK.out.l.o (Nat.le_refl _) O⟩).more (by omega), ⟨sm.1, sm.2.1, sm.2.2.1, Nat.le_trans hl (by omega), sm.2.2.2.2⟩⟩
      clear Kc hr5 hb5 HK rd O
      go_wp2
      go_meet
      case rel => exact ⟨rfl, fin.out⟩
    | false =>
      go_wp2
      go_meet
      case rel => exact ⟨rfl, r, m, HK.out.more (by omega), sm⟩
  clear hcp
  obtain ⟨rfl, hc⟩ := hcut
  obtain ⟨r, m, K, sm⟩ := hc
  generalize wc = wz at K ⊢
  have HK : Hid (RS w rb w.heap.size X (L + 32) r m wz) := K
  have c0 : wz.cell? ⟨X, 0, none⟩ = some (.int .i64 r.f) := (K.c.2 0 _ rfl).1
  have c1 : wz.cell? ⟨X, 1, none⟩ = some (.int .i64 r.ev) := (K.c.2 1 _ rfl).1
  have c2 : wz.cell? ⟨X, 2, none⟩ = some (.int .i64 r.ct) := (K.c.2 2 _ rfl).1
  have c3 : wz.cell? ⟨X, 3, none⟩ = some (.int .i64 r.un) := (K.c.2 3 _ rfl).1
  have c4 : wz.cell? ⟨X, 4, none⟩ = some (.slice m.a0 r.ds.length m.c0) := (K.c.2 4 _ rfl).1
  have c5 : wz.cell? ⟨X, 5, none⟩ = some (.slice m.a1 r.da.length m.c1) := (K.c.2 5 _ rfl).1
  have c6 : wz.cell? ⟨X, 6, none⟩ = some (.slice m.a2 r.mo.length m.c2) := (K.c.2 6 _ rfl).1
  have c7 : wz.cell? ⟨X, 7, none⟩ = some (.slice m.a3 r.pl.length m.c3) := (K.c.2 7 _ rfl).1
  have c8 : wz.cell? ⟨X, 8, none⟩ = some (.int .i64 r.wk) := (K.c.2 8 _ rfl).1
  have z0 : wz.cell? ⟨w.heap.size, 0, none⟩ = some (.int .i64 0) := (K.z.2 0 _ rfl).1
  have y0 : wz.frozen? ⟨w.heap.size, 0, none⟩ = false := (K.z.2 0 _ rfl).2
  have z1 : wz.cell? ⟨w.heap.size, 1, none⟩ = some (.int .i64 0) := (K.z.2 1 _ rfl).1
  have y1 : wz.frozen? ⟨w.heap.size, 1, none⟩ = false := (K.z.2 1 _ rfl).2
  have z2 : wz.cell? ⟨w.heap.size, 2, none⟩ = some (.int .i64 0) := (K.z.2 2 _ rfl).1
  have y2 : wz.frozen? ⟨w.heap.size, 2, none⟩ = false := (K.z.2 2 _ rfl).2
  have z3 : wz.cell? ⟨w.heap.size, 3, none⟩ = some (.int .i64 0) := (K.z.2 3 _ rfl).1
  have y3 : wz.frozen? ⟨w.heap.size, 3, none⟩ = false := (K.z.2 3 _ rfl).2
  have z4 : wz.cell? ⟨w.heap.size, 4, none⟩ = some (.slice none 0 0) := (K.z.2 4 _ rfl).1
  have y4 : wz.frozen? ⟨w.heap.size, 4, none⟩ = false := (K.z.2 4 _ rfl).2
  have z5 : wz.cell? ⟨w.heap.size, 5, none⟩ = some (.slice none 0 0) := (K.z.2 5 _ rfl).1
  have y5 : wz.frozen? ⟨w.heap.size, 5, none⟩ = false := (K.z.2 5 _ rfl).2
  have z6 : wz.cell? ⟨w.heap.size, 6, none⟩ = some (.slice none 0 0) := (K.z.2 6 _ rfl).1
  have y6 : wz.frozen? ⟨w.heap.size, 6, none⟩ = false := (K.z.2 6 _ rfl).2
  have z7 : wz.cell? ⟨w.heap.size, 7, none⟩ = some (.slice none 0 0) := (K.z.2 7 _ rfl).1
  have y7 : wz.frozen? ⟨w.heap.size, 7, none⟩ = false := (K.z.2 7 _ rfl).2
  have z8 : wz.cell? ⟨w.heap.size, 8, none⟩ = some (.int .i64 0) := (K.z.2 8 _ rfl).1
  have y8 : wz.frozen? ⟨w.heap.size, 8, none⟩ = false := (K.z.2 8 _ rfl).2
  have hXw : w.heap.size < X := K.rx
  clear K
  go_wp2
  refine bodyPost_ret (v := .agg #[.int .i64 r.f, .int .i64 r.ev, .int .i64 r.ct, .int .i64 r.un, .slice m.a0 r.ds.length m.c0, .slice m.a1 r.da.length m.c1, .slice m.a2 r.mo.length m.c2, .slice m.a3 r.pl.length m.c3, .int .i64 r.wk]) (by simp [results, Tryd.results55, go_sem, *]) rfl ⟨⟨r, m, rfl, ?_, sm⟩, ?_, ?_⟩
  · refine OL.down (B := X + 1) ?_ (by omega)
    repeat (first | with_reducible exact HK.out.l | with_reducible refine OL.low ?_ (by show w.heap.size < X + 1; omega) _)
  · refine Rd.mono (L := L + 32) ?_ (by omega)
    repeat (first | with_reducible exact HK.out.rd | with_reducible refine Rd.setCell ?_ (by show rb < w.heap.size; exact hs) _)
  · iterate 9 refine But.setCell ?_ (Or.inl (by show w.heap.size ≤ w.heap.size; exact Nat.le_refl _)) _
    exact HK.out.b
end Go.Proofs.YtlfglhpepoepcaaDoor
