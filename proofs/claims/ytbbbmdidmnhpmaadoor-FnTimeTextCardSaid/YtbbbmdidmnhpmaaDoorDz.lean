/- What the specification draws: zones and times. -/
import Derived.Test.YtbbbmdidmnhpmaaDoorDr
import Derived.Test.YtbbbmdidmnhpmaaDoorZn
import Derived.Test.YtbbbmdidmnhpmaaDoorOm
import Derived.Deep.AppendLies
import Derived.Deep.RegionHeld3
namespace Go.Proofs.YtbbbmdidmnhpmaaDoor
open Go.RowKit
set_option linter.unusedVariables false
/-- One of some texts. -/
theorem of_any (w : World) (rb L : Nat) (h : Rd w rb L) (hL : L ≤ 1099511627776) (lb m cap : Nat) (xs : List ByteArray) (hx : xs.length = m) (hm : 1 ≤ m) (hm2 : m ≤ 1000) (hlb : lb ≠ rb) (hls : lb < w.heap.size)
    (hc : ∀ i, i < m → w.cell? ⟨lb, i, none⟩ = some (.string (xs.getD i ByteArray.empty))) :
    Calls Tryd.prog 35 #[.pointer (some ⟨rb, 0, none⟩), .slice (some ⟨lb, 0, none⟩) m cap] w fun e w' => (∃ r : ByteArray, e = .returned (.string r) ∧ r ∈ xs) ∧ Rd w' rb (L + 1) ∧ But rb w.heap.size w w' := by
  go_enter Tryd.func35, Tryd.ntmps35
  go_wp2_with fail
  refine (pick_pos _ _ rb L h hL (by omega)).mono ?_
  rintro e w1 ⟨⟨r, rfl, r0, r1⟩, hr, hb⟩
  have hcell : w1.cell? ⟨lb, r.toNat, none⟩ = some (.string (xs.getD r.toNat ByteArray.empty)) := by
    rw [hb.cell (p := ⟨lb, r.toNat, none⟩) hls hlb]; exact hc _ (by omega)
  go_wp2
  go_ret
  exact ⟨⟨_, rfl, List.getElem_mem (by omega)⟩, hr, hb⟩
theorem texts_at (xs : List ByteArray) (i : Nat) (h : i < xs.length) : ((xs.map (fun x => Value.string x)).toArray)[i]? = some (.string (xs.getD i ByteArray.empty)) := by
  simp [h]
theorem of_list (w : World) (rb L : Nat) (h : Rd w rb L) (hL : L ≤ 1099511627776) (n : Nat) (xs : List ByteArray) (hx : xs.length = n) (hm : 1 ≤ n) (hm2 : n ≤ 1000) (vs : Array Value) (hv : vs = (xs.map (fun x => Value.string x)).toArray) :
    Calls Tryd.prog 35 #[.pointer (some ⟨rb, 0, none⟩), .slice (some ⟨w.heap.size, 0, none⟩) n n] (w.alloc (.cells vs 9)) fun e w' => (∃ r : ByteArray, e = .returned (.string r) ∧ r ∈ xs) ∧ Rd w' rb (L + 1) ∧ But rb w.heap.size w w' := by
  have hs := h.size
  have hb : Below w.heap.size w (w.alloc (.cells vs 9)) := (Below.refl _ _).alloc (Nat.le_refl _) _
  refine (of_any (w.alloc (.cells vs 9)) rb L (h.below hb) hL w.heap.size n n xs hx hm hm2 (by omega) (by simp) ?_).mono fun e w' hh => ?_
  · intro i hi
    rw [World.cell?_alloc_new, hv]
    exact texts_at xs i (by omega)
  · obtain ⟨he, hr, hk⟩ := hh
    exact ⟨he, hr, (But.of_below hb).trans (hk.mono (by simp))⟩
theorem time_any (w : World) (rb L : Nat) (h : Rd w rb L) (hL : L ≤ 1099511626000) :
    Calls Tryd.prog 46 #[.pointer (some ⟨rb, 0, none⟩)] w fun e w' => (∃ r : Int, e = .returned (.int .i64 r) ∧ 0 ≤ r ∧ r ≤ 5258964959) ∧ Rd w' rb (L + 3) ∧ But rb w.heap.size w w' := by
  go_enter Tryd.func46, Tryd.ntmps46
  go_wp2_with fail
  refine (pick_pos _ _ rb L h (by omega) (by omega)).mono ?_
  rintro e w1 ⟨⟨r1, rfl, a0, a1⟩, hr1, hb1⟩
  go_wp2_with fail
  refine (pick_pos _ _ rb _ hr1 (by omega) (by omega)).mono ?_
  rintro e w2 ⟨⟨r2, rfl, b0, b1⟩, hr2, hb2⟩
  go_wp2_with fail
  refine (one_list w2 rb _ hr2 (by omega) 7 [0, 540, 60, 120, 150, 1439, r2 * 5] rfl (by omega) (by omega) _ rfl).mono ?_
  rintro e w3 ⟨⟨r, rfl, hr⟩, hr3, hb3⟩
  have hr' : 0 ≤ r ∧ r ≤ 1439 := by
    simp only [List.mem_cons, List.not_mem_nil, or_false] at hr
    omega
  have hb := (hb1.trans (hb2.mono hb1.size)).trans (hb3.mono (Nat.le_trans hb1.size hb2.size))
  clear hb1 hb2 hb3 hr1 hr2 h hr
  go_wp2
  go_ret
  exact ⟨⟨_, rfl, by omega, by omega⟩, hr3, hb⟩
set_option maxHeartbeats 1000000 in
theorem anytime_any (w : World) (rb L : Nat) (h : Rd w rb L) (hL : L ≤ 1099511625000) :
    Calls Tryd.prog 40 #[.pointer (some ⟨rb, 0, none⟩)] w fun e w' => (∃ r : Int, e = .returned (.int .i64 r) ∧ -1 ≤ r ∧ r ≤ 5258964960) ∧ Rd w' rb (L + 13) ∧ But rb w.heap.size w w' := by
  go_enter Tryd.func40, Tryd.ntmps40
  go_wp2_with fail
  refine (time_any _ rb L h (by omega)).mono ?_
  rintro e w1 ⟨⟨r1, rfl, a0, a1⟩, hr1, hb1⟩
  go_wp2_with fail
  refine (time_any _ rb _ hr1 (by omega)).mono ?_
  rintro e w2 ⟨⟨r2, rfl, b0, b1⟩, hr2, hb2⟩
  go_wp2_with fail
  refine (time_any _ rb _ hr2 (by omega)).mono ?_
  rintro e w3 ⟨⟨r3, rfl, c0, c1⟩, hr3, hb3⟩
  go_wp2_with fail
  refine (time_any _ rb _ hr3 (by omega)).mono ?_
  rintro e w4 ⟨⟨r4, rfl, d0, d1⟩, hr4, hb4⟩
  have hs1 := hb1.size
  have hs2 := hb2.size
  have hs3 := hb3.size
  have hb : But rb w.heap.size w w4 := ((hb1.trans (hb2.mono (by omega))).trans (hb3.mono (by omega))).trans (hb4.mono (by omega))
  clear hb1 hb2 hb3 hb4 hr1 hr2 hr3 h hs1 hs2 hs3
  go_wp2_with fail
  refine (one_list w4 rb _ hr4 (by omega) 8 [r1, r2, r3, r4, 0, 5258964959, -1, 5258964960] rfl (by omega) (by omega) _ rfl).mono ?_
  rintro e w6 ⟨⟨r, rfl, hr⟩, hr6, hb6⟩
  have hr' : -1 ≤ r ∧ r ≤ 5258964960 := by
    simp only [List.mem_cons, List.not_mem_nil, or_false] at hr
    omega
  have hb' := hb.trans (hb6.mono hb.size)
  clear hb hb6 hr4 hr
  go_wp2
  go_ret
  exact ⟨⟨_, rfl, hr'⟩, hr6, hb'⟩
theorem one_listH (w : World) (rb L : Nat) (h : Rd w rb L) (hL : L ≤ 1099511627776) (n : Nat) (xs : List Int) (hx : xs.length = n) (hm : 1 ≤ n) (hm2 : n ≤ 1000) (vs : Array Value) (hv : vs = (xs.map (fun x => Value.int .i64 x)).toArray) (H : Nat) (hH : w.heap.size = H) :
    Calls Tryd.prog 48 #[.pointer (some ⟨rb, 0, none⟩), .slice (some ⟨H, 0, none⟩) n n] (w.alloc (.cells vs 3)) fun e w' => (∃ r : Int, e = .returned (.int .i64 r) ∧ r ∈ xs) ∧ Rd w' rb (L + 1) ∧ But rb w.heap.size w w' := by
  subst hH; exact one_list w rb L h hL n xs hx hm hm2 vs hv
theorem one_listD (w : World) (rb L : Nat) (h : Rd w rb L) (hL : L ≤ 1099511627776) (n : Nat) (xs : List Int) (hx : xs.length = n) (hm : 1 ≤ n) (hm2 : n ≤ 1000) (vs : Array Value) (hv : vs = (xs.map (fun x => Value.int .i64 x)).toArray) (H : Nat) (hH : w.heap.size = H) :
    Calls Tryd.prog 48 #[.pointer (some ⟨rb, 0, none⟩), .slice (some ⟨H, 0, none⟩) n n] (w.alloc (.cells vs 3)).drew fun e w' => (∃ r : Int, e = .returned (.int .i64 r) ∧ r ∈ xs) ∧ Rd w' rb (L + 1) ∧ But rb w.heap.size w w' := by
  have := one_listH w.drew rb L (h.below ⟨rfl, rfl, rfl, Nat.le_refl _, fun _ _ => rfl⟩) hL n xs hx hm hm2 vs hv H hH
  exact this.mono fun e w' ⟨a, b, c⟩ => ⟨a, b, c.os, c.tape, c.output, c.size, c.block⟩
/-- Turns as cells. -/
def tcs (ts : List (Int × Int)) : List Value := ts.flatMap fun p => [.int .i64 p.1, .int .i64 p.2]
theorem tcs_len (ts : List (Int × Int)) : (tcs ts).length = ts.length * 2 := by
  induction ts with
  | nil => rfl
  | cons p ts ih => simp [tcs] at *; omega
theorem tcs_snoc (ts : List (Int × Int)) (x y : Int) : tcs (ts ++ [(x, y)]) = tcs ts ++ [.int .i64 x, .int .i64 y] := by simp [tcs]
theorem tcs_at (ts : List (Int × Int)) : ∀ i, i < ts.length → (tcs ts)[i * 2]? = some (.int .i64 (tAt ts i)) ∧ (tcs ts)[i * 2 + 1]? = some (.int .i64 (tSh ts i)) := by
  induction ts with
  | nil => intro i hi; simp at hi
  | cons p ts ih =>
    intro i hi
    cases i with
    | zero => simp [tcs, tAt, tSh]
    | succ i =>
      have := ih i (by simpa using hi)
      simp only [tcs, List.flatMap_cons, List.cons_append, List.nil_append, show (i + 1) * 2 = i * 2 + 1 + 1 from by omega, List.getElem?_cons_succ] at *
      simpa [tAt, tSh] using this
theorem tcs_set (ts : List (Int × Int)) : ∀ i r, i < ts.length → (tcs ts).set (i * 2 + 1) (.int .i64 r) = tcs (ts.set i (tAt ts i, r)) := by
  induction ts with
  | nil => intro i r hi; simp at hi
  | cons p ts ih =>
    intro i r hi
    cases i with
    | zero => simp [tcs, tAt]
    | succ i =>
      have := ih i r (by simpa using hi)
      simp only [tcs, List.flatMap_cons, List.cons_append, List.nil_append, show (i + 1) * 2 + 1 = (i * 2 + 1) + 1 + 1 from by omega, List.set_cons_succ] at *
      simpa [tAt] using this
abbrev OT (w : World) (B : Nat) (v : Value) (ts : List (Int × Int)) : Prop := w.ownsRow B 0 2 v ts.length (tcs ts)
theorem OT.turns {w : World} {B : Nat} {v : Value} {ts : List (Int × Int)} (h : OT w B v ts) : ∃ a cap, v = .slice a ts.length cap ∧ IsTurns w a ts := by
  rcases h.2 with ⟨rfl, h0⟩ | ⟨g, cap, cur, rfl, hB, hg, hn, hm, hs, ht⟩
  · exact ⟨none, 0, by rw [h0], .inl (List.length_eq_zero_iff.1 h0)⟩
  · refine ⟨some ⟨g, 0, none⟩, cap, rfl, .inr ⟨g, 0, rfl, (Array.getElem?_eq_some_iff.1 hg).1, fun i hi => ?_⟩⟩
    have hc := fun j hj => World.ownsRow.cellAt (w := w) (base := B) (e := 0) (size := 2) (g := g) (n := ts.length) (cap := cap) (xs := tcs ts) h j hj
    have := tcs_at ts i hi
    rw [Nat.zero_add, hc _ (by omega), hc _ (by omega)]
    exact this
theorem Rd.low {w w' : World} {rb L : Nat} (h : Rd w rb L) (hb : Below (rb + 1) w w') : Rd w' rb L := by
  obtain ⟨p, a, len, cap, h0, h1, h2, h3, h4, h5, h6, h7⟩ := h
  refine ⟨p, a, len, cap, h0, h1, h2, Nat.lt_of_lt_of_le h3 hb.size, ?_, ?_, ?_, ?_⟩
  · rw [hb.cell (p := ⟨rb, 0, none⟩) (by simp)]; exact h4
  · rw [hb.cell (p := ⟨rb, 1, none⟩) (by simp)]; exact h5
  · rw [hb.frozen (p := ⟨rb, 1, none⟩) (by simp)]; exact h6
  · rcases h7 with h7 | ⟨b, off, h8, h9, h11⟩
    · exact .inl h7
    · refine .inr ⟨b, off, h8, h9, fun i hi => ?_⟩
      obtain ⟨z, z0, z1, z2⟩ := h11 i hi
      exact ⟨z, z0, z1, by rw [hb.cell (p := ⟨b, off + i, none⟩) (by simp; omega)]; exact z2⟩
/-- A zone that is being drawn: its box Z, the result's block R, the reader rb. -/
structure ZS (w0 : World) (rb R Z L : Nat) (s : ByteArray) (sh : Int) (v : Value) (ts : List (Int × Int)) (W : World) : Prop where
  rd : Rd W rb L
  rR : rb < R
  RZ : R < Z
  r0 : ∀ i, i < 3 → ∃ u, W.cell? ⟨R, i, none⟩ = some u
  rf : ∀ i, W.frozen? ⟨R, i, none⟩ = false
  c0 : W.cell? ⟨Z, 0, none⟩ = some (.string s)
  c1 : W.cell? ⟨Z, 1, none⟩ = some (.int .i64 sh)
  c2 : W.cell? ⟨Z, 2, none⟩ = some v
  zf : ∀ i, W.frozen? ⟨Z, i, none⟩ = false
  own : OT W (Z + 1) v ts
  but : But rb R w0 W
theorem own_but {w w' : World} {rb B : Nat} {v : Value} {ts : List (Int × Int)} (h : OT w B v ts) (hB : rb < B) (hb : But rb w.heap.size w w') : OT w' B v ts := by
  obtain ⟨h1, h2⟩ := h
  refine ⟨h1, ?_⟩
  rcases h2 with h2 | ⟨g, cap, cur, a, b, c, d⟩
  · exact .inl h2
  · exact .inr ⟨g, cap, cur, a, b, (hb.block g (Array.getElem?_eq_some_iff.1 c).1 (by omega)).trans c, d⟩
theorem ZS.step {w0 W W' : World} {rb R Z L L' : Nat} {s : ByteArray} {sh : Int} {v : Value} {ts : List (Int × Int)} (h : ZS w0 rb R Z L s sh v ts W) (hb : But rb W.heap.size W W') (hr : Rd W' rb L') : ZS w0 rb R Z L' s sh v ts W' := by
  obtain ⟨rd, rR, RZ, r0, rf, c0, c1, c2, zf, own, but⟩ := h
  have lt := cell_lt c0
  refine ⟨hr, rR, RZ, fun i hi => ?_, fun i => ?_, ?_, ?_, ?_, fun i => ?_, own_but own (by omega) hb, but.trans (hb.mono (by omega))⟩
  · rw [hb.cell (p := ⟨R, i, none⟩) (by simp; omega) (by simp; omega)]; exact r0 i hi
  · rw [hb.frozen (p := ⟨R, i, none⟩) (by simp; omega) (by simp; omega)]; exact rf i
  · rw [hb.cell (p := ⟨Z, 0, none⟩) lt (by simp; omega)]; exact c0
  · rw [hb.cell (p := ⟨Z, 1, none⟩) lt (by simp; omega)]; exact c1
  · rw [hb.cell (p := ⟨Z, 2, none⟩) lt (by simp; omega)]; exact c2
  · rw [hb.frozen (p := ⟨Z, i, none⟩) lt (by simp; omega)]; exact zf i
theorem ZS.more {w0 W : World} {rb R Z L L' : Nat} {s : ByteArray} {sh : Int} {v : Value} {ts : List (Int × Int)} (h : ZS w0 rb R Z L s sh v ts W) (hl : L ≤ L') : ZS w0 rb R Z L' s sh v ts W := by
  obtain ⟨rd, rR, RZ, r0, rf, c0, c1, c2, zf, own, but⟩ := h
  exact ⟨rd.mono hl, rR, RZ, r0, rf, c0, c1, c2, zf, own, but⟩
theorem ZS.app {w0 W w4 : World} {rb R Z L : Nat} {s : ByteArray} {sh : Int} {v v' : Value} {ts : List (Int × Int)} {x y : Int} {o : Obj} (h : ZS w0 rb R Z L s sh v ts W)
    (hown : w4.ownsRow (Z + 1) 0 2 v' (ts.length + 1) (tcs ts ++ [.int .i64 x, .int .i64 y])) (hgrow : (W.alloc o).grownBy w4 v.ownBlock) : ZS w0 rb R Z L s sh v' (ts ++ [(x, y)]) (w4.setCell ⟨Z, 2, none⟩ v') := by
  obtain ⟨rd, rR, RZ, r0, rf, c0, c1, c2, zf, own, but⟩ := h
  have lt := cell_lt c0
  have B : Below (Z + 1) W w4 := ((Below.refl _ _).alloc (by omega) o).grown hgrow (by simp; omega) (fun k hk => (World.ownsRow.lt own k hk).1)
  have c2' : w4.cell? ⟨Z, 2, none⟩ = some v := by rw [B.cell (p := ⟨Z, 2, none⟩) (by simp)]; exact c2
  have own' : OT w4 (Z + 1) v' (ts ++ [(x, y)]) := by unfold OT; rw [tcs_snoc, List.length_append]; exact hown
  refine ⟨(rd.low (B.mono (by omega))).setCell (p := ⟨Z, 2, none⟩) (by simp; omega) _, rR, RZ, fun i hi => ?_, fun i => ?_, ?_, ?_, ?_, fun i => ?_, ?_, ?_⟩
  · rw [cell_far _ _ _ _ (by simp; omega), B.cell (p := ⟨R, i, none⟩) (by simp; omega)]; exact r0 i hi
  · rw [World.frozen?_setCell, B.frozen (p := ⟨R, i, none⟩) (by simp; omega)]; exact rf i
  · rw [World.cell?_setCell_other _ _ _ _ (by simp), B.cell (p := ⟨Z, 0, none⟩) (by simp)]; exact c0
  · rw [World.cell?_setCell_other _ _ _ _ (by simp), B.cell (p := ⟨Z, 1, none⟩) (by simp)]; exact c1
  · exact World.cell?_setCell_same _ _ _ c2'
  · rw [World.frozen?_setCell, B.frozen (p := ⟨Z, i, none⟩) (by simp)]; exact zf i
  · exact ownsRow_setCell_below own' (by simp) _
  · exact (but.trans (But.of_below (B.mono (by omega)))).setCell (p := ⟨Z, 2, none⟩) (.inl (by simp; omega)) _
theorem ZS.set {w0 W : World} {rb R Z L : Nat} {s : ByteArray} {sh : Int} {g n cap : Nat} {ts : List (Int × Int)} (h : ZS w0 rb R Z L s sh (.slice (some ⟨g, 0, none⟩) n cap) ts W) (hn : n = ts.length) (i : Nat) (hi : i < ts.length) (r : Int) :
    ZS w0 rb R Z L s sh (.slice (some ⟨g, 0, none⟩) n cap) (ts.set i (tAt ts i, r)) (W.setCell ⟨g, i * 2 + 1, none⟩ (.int .i64 r)) := by
  subst hn
  obtain ⟨rd, rR, RZ, r0, rf, c0, c1, c2, zf, own, but⟩ := h
  have gz := (World.ownsRow.lt own g rfl).1
  refine ⟨rd.setCell (p := ⟨g, i * 2 + 1, none⟩) (by simp; omega) _, rR, RZ, fun j hj => ?_, fun j => ?_, ?_, ?_, ?_, fun j => ?_, ?_, but.setCell (p := ⟨g, i * 2 + 1, none⟩) (.inl (by simp; omega)) _⟩
  · rw [cell_far _ _ _ _ (by simp; omega)]; exact r0 j hj
  · rw [World.frozen?_setCell]; exact rf j
  · rw [cell_far _ _ _ _ (by simp; omega)]; exact c0
  · rw [cell_far _ _ _ _ (by simp; omega)]; exact c1
  · rw [cell_far _ _ _ _ (by simp; omega)]; exact c2
  · rw [World.frozen?_setCell]; exact zf j
  · have := (World.ownsRow.stored (w := W) (base := Z + 1) (e := 0) (size := 2) (g := g) (n := ts.length) (cap := cap) (xs := tcs ts) own (i * 2 + 1) (.int .i64 r)).1
    rw [tcs_set ts i r hi] at this
    unfold OT
    rw [List.length_set]
    exact this
end Go.Proofs.YtbbbmdidmnhpmaaDoor
