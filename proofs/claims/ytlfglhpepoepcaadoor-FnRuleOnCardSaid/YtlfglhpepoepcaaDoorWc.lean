/- What the specification draws: a few numbers in order; what stands while a rule is drawn. -/
import Derived.Test.YtlfglhpepoepcaaDoorWb
import Derived.Test.YtlfglhpepoepcaaDoorKt
import Derived.Test.YtlfglhpepoepcaaDoorRs
import Derived.Test.YtlfglhpepoepcaaDoorOw
import Derived.Test.YtlfglhpepoepcaaDoorRf
import Derived.Test.YtlfglhpepoepcaaDoorLg
namespace Go.Proofs.YtlfglhpepoepcaaDoor
open Go.RowKit
set_option linter.unusedVariables false
set_option maxRecDepth 100000 in
set_option maxHeartbeats 8000000 in
theorem ints_any (w : World) (rb L : Nat) (h : Rd w rb L) (hL : L ≤ 1099511600000) (lb m cap mst : Nat) (xs : List Int) (hx : xs.length = m) (hm : 1 ≤ m) (hm2 : m ≤ 1000) (hlb : lb ≠ rb) (hls : lb < w.heap.size)
    (hc : ∀ i, i < m → w.cell? ⟨lb, i, none⟩ = some (.int .i64 (xs.getD i 0))) (h0 : mst ≤ 3) :
    Calls Tryd.prog 68 #[.pointer (some ⟨rb, 0, none⟩), .slice (some ⟨lb, 0, none⟩) m cap, .int .i64 mst] w fun e w' => (∃ g c l, e = .returned (.slice (some ⟨g, 0, none⟩) (List.length l) c) ∧ OI w' w.heap.size (.slice (some ⟨g, 0, none⟩) (List.length l) c) l ∧ List.length l ≤ mst) ∧ Rd w' rb (L + 4) ∧ But rb w.heap.size w w' := by
  have hs := h.size
  have B0 : Below w.heap.size w (w.alloc (.cells #[] 3)) := (Below.refl _ _).alloc (Nat.le_refl _) _
  have O0 : OI (w.alloc (.cells #[] 3)) w.heap.size (.slice (some ⟨w.heap.size, 0, none⟩) 0 0) [] := own_e1 w _ _ 1 _ (Nat.le_refl _) rfl
  have hd0 := h.below B0
  have S0 : Hid ((w.alloc (.cells #[] 3)).heap.size = w.heap.size + 1) := by unfold Hid; simp
  have HC : Hid (∀ W, But rb w.heap.size w W → ∀ i, i < m → W.cell? ⟨lb, i, none⟩ = some (.int .i64 (xs.getD i 0))) := fun W hb i hi => by rw [hb.cell (p := ⟨lb, i, none⟩) hls hlb]; exact hc i hi
  clear hc h
  go_enter Tryd.func68, Tryd.ntmps68
  go_wp2_with fail
  generalize w.alloc (.cells #[] 3) = W0 at B0 O0 hd0 S0 ⊢
  refine (pick_pos _ W0 rb L hd0 (by omega) (by omega)).mono ?_
  rintro e w1 ⟨⟨n, rfl, n0, n1⟩, hr1, hb1⟩
  have ss := S0.out
  have HO1 : Hid (OI w1 w.heap.size (.slice (some ⟨w.heap.size, 0, none⟩) 0 0) []) := O0.keep fun g hg => by
    have e : g = w.heap.size := by simpa [Value.ownBlock] using hg.symm
    subst e
    exact hb1.block _ (by omega) (by omega)
  have HB1 : Hid (But rb w.heap.size w w1) := (But.of_below B0).trans (hb1.mono (by omega))
  have HR1 : Hid (Rd w1 rb (L + 1)) := hr1
  obtain ⟨k0, rfl⟩ := Int.eq_ofNat_of_zero_le n0
  have hk0 : k0 ≤ mst := by omega
  clear O0 B0 hb1 hr1 hd0 S0 ss n0 n1
  go_wp2
  go_loopw [7, 8, 9] (fun o nv _ wr => ∃ (k g c : Nat) (l : List Int), k + l.length ≤ mst ∧ nv = .int .i64 k ∧ o = .slice (some ⟨g, 0, none⟩) l.length c ∧ OI wr w.heap.size (.slice (some ⟨g, 0, none⟩) l.length c) l ∧ Rd wr rb (L + 4 - k) ∧ But rb w.heap.size w wr) (fun _ nv _ _ => (intOf nv).toNat)
  case atStart => exact ⟨k0, w.heap.size, 0, [], by simpa using hk0, rfl, rfl, HO1.out, HR1.out.mono (by omega), HB1.out⟩
  case round =>
    clear HO1 HB1 HR1
    obtain ⟨k, g, c, l, hk, rfl, rfl, O, R, Bt⟩ := hrel
    by_cases hlt : 0 < k
    · obtain ⟨j, rfl⟩ : ∃ j, k = j + 1 := ⟨k - 1, by omega⟩
      have hj0 : (0 : Int) < ((j + 1 : Nat) : Int) := by omega
      have HO : Hid (OI wr w.heap.size (.slice (some ⟨g, 0, none⟩) l.length c) l) := O
      have HB : Hid (But rb w.heap.size w wr) := Bt
      have hcc := HC.out wr Bt
      have hss := Bt.size
      clear O Bt
      go_wp2_with fail
      refine (one_any wr rb _ R (by omega) lb m cap xs hx hm hm2 hlb (by omega) hcc).mono ?_
      rintro e w2 ⟨⟨x, rfl, _⟩, hr2, hb2⟩
      have HO2 : Hid (OI w2 w.heap.size (.slice (some ⟨g, 0, none⟩) l.length c) l) := HO.out.keep fun q hq => by
        have e : q = g := by simpa [Value.ownBlock] using hq.symm
        subst e
        have := HO.out.glt
        exact hb2.block _ (by omega) (by omega)
      have HB2 : Hid (But rb w.heap.size w w2) := HB.out.trans (hb2.mono hss)
      have HR2 : Hid (Rd w2 rb (L + 4 - j)) := hr2.mono (by omega)
      have hss2 := HB2.out.size
      clear HO HB hb2 hr2 R hcc
      cases hh : hasI l x with
      | true =>
        go_wp2_with fail
        refine (specHas _ _ l x w2 HO2.out.ints (by omega) true hh).mono ?_
        rintro e w3 ⟨rfl, rfl⟩
        clear hh
        go_wp2
        go_roundw
        case rel => exact ⟨j, g, c, l, by omega, by go_num, rfl, HO2.out, HR2.out, HB2.out⟩
        case measure => first | (simp [intOf]; done) | (simp [intOf]; omega)
      | false =>
        go_wp2_with fail
        refine (specHas _ _ l x w2 HO2.out.ints (by omega) false hh).mono ?_
        rintro e w3 ⟨rfl, rfl⟩
        clear hh
        go_wp2_with fail
        refine (specNum w.heap.size g c l x _ HO2.out (by omega)).mono ?_
        rintro e w4 ⟨g', c', l', rfl, O4, L4, b4⟩
        have HO4 : Hid (OI w4 w.heap.size (.slice (some ⟨g', 0, none⟩) l'.length c') l') := O4.base hss2
        have HB4 : Hid (But rb w.heap.size w w4) := HB2.out.trans ((But.of_below b4).mono hss2)
        have HR4 : Hid (Rd w4 rb (L + 4 - j)) := HR2.out.below b4
        have HL4 : Hid (j + l'.length ≤ mst) := by unfold Hid; omega
        clear O4 b4 HO2 HB2 HR2 L4
        go_wp2
        go_roundw
        case rel => exact ⟨j, g', c', l', HL4.out, by go_num, rfl, HO4.out, HR4.out, HB4.out⟩
        case measure => first | (simp [intOf]; done) | (simp [intOf]; omega)
    · have hk0' : ¬ (0 : Int) < (k : Int) := by omega
      have HO : Hid (OI wr w.heap.size (.slice (some ⟨g, 0, none⟩) l.length c) l) := O
      clear O
      go_wp2
      go_ret
      exact ⟨⟨g, c, l, rfl, HO.out, by omega⟩, R.mono (by omega), Bt⟩
/-- Of some numbers that have just been laid. -/
theorem ints_list (w : World) (rb L : Nat) (h : Rd w rb L) (hL : L ≤ 1099511600000) (n mst : Nat) (xs : List Int) (hx : xs.length = n) (hm : 1 ≤ n) (hm2 : n ≤ 1000) (vs : Array Value) (hv : vs = (xs.map (fun x => Value.int .i64 x)).toArray) (h0 : mst ≤ 3) (M : Int) (hM : M = mst) :
    Calls Tryd.prog 68 #[.pointer (some ⟨rb, 0, none⟩), .slice (some ⟨w.heap.size, 0, none⟩) n n, .int .i64 M] (w.alloc (.cells vs 3)) fun e w' => (∃ g c l, e = .returned (.slice (some ⟨g, 0, none⟩) (List.length l) c) ∧ OI w' w.heap.size (.slice (some ⟨g, 0, none⟩) (List.length l) c) l ∧ List.length l ≤ mst) ∧ Rd w' rb (L + 4) ∧ But rb w.heap.size w w' := by
  subst hM
  have hs := h.size
  have hb : Below w.heap.size w (w.alloc (.cells vs 3)) := (Below.refl _ _).alloc (Nat.le_refl _) _
  refine (ints_any (w.alloc (.cells vs 3)) rb L (h.below hb) hL w.heap.size n n mst xs hx hm hm2 (by omega) (by simp) ?_ h0).mono fun e w' hh => ?_
  · intro i hi
    rw [World.cell?_alloc_new, hv]
    exact ints_at xs i (by omega)
  · obtain ⟨⟨g, c, l, he, ho, hl⟩, hr, hk⟩ := hh
    exact ⟨⟨g, c, l, he, ho.base (by simp), hl⟩, hr, (But.of_below hb).trans (hk.mono (by simp))⟩
theorem OP.keep {w w' : World} {B : Nat} {T : TypeId} {v : Value} {ts : List (Int × Int)} (h : OP w B T v ts) (hk : ∀ g, v.ownBlock = some g → w'.heap[g]? = w.heap[g]?) : OP w' B T v ts := by
  obtain ⟨h1, h2⟩ := h
  refine ⟨h1, ?_⟩
  rcases h2 with h2 | ⟨g, cap, cur, rfl, b, c, d⟩
  · exact .inl h2
  · exact .inr ⟨g, cap, cur, rfl, b, (hk g rfl).trans c, d⟩
/-- The cells of a rule. -/
def rcs (r : Rl) (m : Rm) : Array Value := #[.int .i64 r.f, .int .i64 r.ev, .int .i64 r.ct, .int .i64 r.un, .slice m.a0 r.ds.length m.c0, .slice m.a1 r.da.length m.c1, .slice m.a2 r.mo.length m.c2, .slice m.a3 r.pl.length m.c3, .int .i64 r.wk]
/-- The lists of numbers lie in blocks of their own. -/
abbrev DIs (m : Rm) : Prop := (∀ g, (Value.slice m.a1 0 0).ownBlock = some g → (Value.slice m.a2 0 0).ownBlock ≠ some g) ∧ (∀ g, (Value.slice m.a1 0 0).ownBlock = some g → (Value.slice m.a3 0 0).ownBlock ≠ some g) ∧ (∀ g, (Value.slice m.a2 0 0).ownBlock = some g → (Value.slice m.a3 0 0).ownBlock ≠ some g)
/-- The lists of a rule, that a call owns. -/
structure OL (B : Nat) (r : Rl) (m : Rm) (W : World) : Prop where
  d : OP W B 38 (.slice m.a0 r.ds.length m.c0) r.ds
  a : OI W B (.slice m.a1 r.da.length m.c1) r.da
  o : OI W B (.slice m.a2 r.mo.length m.c2) r.mo
  p : OI W B (.slice m.a3 r.pl.length m.c3) r.pl
  q : DIs m
theorem OP.blk {w : World} {B : Nat} {T : TypeId} {v : Value} {ts : List (Int × Int)} (h : OP w B T v ts) : ∀ k, v.ownBlock = some k → B ≤ k ∧ k < w.heap.size := World.ownsRow.lt h
theorem OL.keep {B : Nat} {r : Rl} {m : Rm} {W W' : World} (h : OL B r m W) (hk : ∀ g, B ≤ g → g < W.heap.size → W'.heap[g]? = W.heap[g]?) : OL B r m W' :=
  ⟨h.d.keep fun g hg => hk g (h.d.blk g hg).1 (h.d.blk g hg).2, h.a.keep fun g hg => hk g (h.a.lt g hg).1 (h.a.lt g hg).2, h.o.keep fun g hg => hk g (h.o.lt g hg).1 (h.o.lt g hg).2, h.p.keep fun g hg => hk g (h.p.lt g hg).1 (h.p.lt g hg).2, h.q⟩
theorem OL.mem {B : Nat} {r : Rl} {m : Rm} {W : World} (h : OL B r m W) : RMem W r m := by
  obtain ⟨a', c', e, t⟩ := h.d.turns
  simp only [Value.slice.injEq] at e
  exact ⟨e.1 ▸ t, h.a.ints, h.o.ints, h.p.ints⟩
/-- The lists are short. -/
def Sml (n : Nat) (r : Rl) : Prop := r.ds.length ≤ n ∧ r.da.length ≤ n ∧ r.mo.length ≤ n ∧ (r.pl.length ≤ n ∧ 0 ≤ r.wk ∧ r.wk ≤ 6)
/-- What stands while a rule is drawn: the reader in block rb, the answer's block R, the rule's own block X, and its lists behind it. -/
structure RS (w0 : World) (rb R X L : Nat) (r : Rl) (m : Rm) (W : World) : Prop where
  rd : Rd W rb L
  s0 : rb < w0.heap.size
  hR : w0.heap.size ≤ R
  rx : R < X
  z : CF W R (rcs ⟨0, 0, 0, 0, [], [], [], [], 0⟩ ⟨none, 0, none, 0, none, 0, none, 0⟩)
  c : CF W X (rcs r m)
  l : OL (X + 1) r m W
  b : But rb w0.heap.size w0 W
theorem CF.but {W W' : World} {b rb : Nat} {vs : Array Value} (h : CF W b vs) (hb : But rb W.heap.size W W') (hn : b ≠ rb) : CF W' b vs := by
  refine ⟨Nat.lt_of_lt_of_le h.1 hb.size, fun i v hv => ?_⟩
  rw [hb.cell (p := ⟨b, i, none⟩) h.1 hn, hb.frozen (p := ⟨b, i, none⟩) h.1 hn]; exact h.2 i v hv
theorem RS.step {w0 W W' : World} {rb R X L L' : Nat} {r : Rl} {m : Rm} (h : RS w0 rb R X L r m W) (hb : But rb W.heap.size W W') (hr : Rd W' rb L') : RS w0 rb R X L' r m W' := by
  have h1 := h.s0; have h2 := h.hR; have h3 := h.rx
  exact ⟨hr, h1, h2, h3, h.z.but hb (by omega), h.c.but hb (by omega), h.l.keep fun g h4 h5 => hb.block g h5 (by omega), h.b.trans (hb.mono h.b.size)⟩
theorem RS.more {w0 W : World} {rb R X L L' : Nat} {r : Rl} {m : Rm} (h : RS w0 rb R X L r m W) (hl : L ≤ L') : RS w0 rb R X L' r m W := { h with rd := h.rd.mono hl }
/-- A field is written. -/
theorem RS.put {w0 W : World} {rb R X L : Nat} {r r' : Rl} {m m' : Rm} (h : RS w0 rb R X L r m W) (i : Nat) (v : Value) (hi : i < 9) (hc : rcs r' m' = (rcs r m).set! i v) (hl : OL (X + 1) r' m' W) : RS w0 rb R X L r' m' (W.setCell ⟨X, i, none⟩ v) := by
  have h1 := h.s0; have h2 := h.hR; have h3 := h.rx
  refine ⟨h.rd.setCell (by show rb < X; omega) _, h1, h2, h3, h.z.other i v (by omega), ?_, hl.keep fun g h4 h5 => Below.heap_setCell _ _ _ _ (by show g ≠ X; omega), h.b.setCell (p := ⟨X, i, none⟩) (.inl (by show w0.heap.size ≤ X; omega)) _⟩
  rw [hc]; exact h.c.set i v (by unfold rcs; exact hi)
theorem OL.re {B : Nat} {r r' : Rl} {m : Rm} {W : World} (h : OL B r m W) (h0 : r'.ds = r.ds) (h1 : r'.da = r.da) (h2 : r'.mo = r.mo) (h3 : r'.pl = r.pl) : OL B r' m W := by
  obtain ⟨a, b, c, d, q⟩ := h
  exact ⟨by rw [h0]; exact a, by rw [h1]; exact b, by rw [h2]; exact c, by rw [h3]; exact d, q⟩
theorem own_ne {W0 W2 : World} {B H : Nat} {a : Option Addr} {l k : List Int} {n c g cap : Nat} (h : OI W0 B (.slice a l.length c) l) (hH : W0.heap.size ≤ H) (h' : OI W2 H (.slice (some ⟨g, 0, none⟩) n cap) k) : ∀ b, (Value.slice a 0 0).ownBlock = some b → (Value.slice (some ⟨g, 0, none⟩) 0 0).ownBlock ≠ some b := fun b hb hg => by
  cases a with
  | none => cases hb
  | some x =>
    have h1 := (h.lt b hb).2
    have h2 := (h'.lt b hg).1
    omega
end Go.Proofs.YtlfglhpepoepcaaDoor
