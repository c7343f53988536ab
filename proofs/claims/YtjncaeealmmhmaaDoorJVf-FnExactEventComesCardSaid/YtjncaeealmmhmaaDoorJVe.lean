/- Changes of an event, as they lie in memory, and the exact laws' own helpers over them. -/
import Derived.Test.YtjncaeealmmhmaaDoorRh
import Derived.Test.YtjncaeealmmhmaaDoorRn
import Derived.Test.YtjncaeealmmhmaaDoorRv
namespace Go.Proofs.YtjncaeealmmhmaaDoor
open Go.RowKit
set_option linter.unusedVariables false
/-- A change of one of an event. -/
structure OvR where
  a : Int
  s : Int
  l : Int
  t : ByteArray
def ov0 : OvR := ⟨0, 0, 0, ByteArray.empty⟩
def oAt (l : List OvR) (i : Nat) : OvR := l.getD i ov0
/-- A change in four cells. -/
def OCell (w : World) (b o : Nat) (x : OvR) : Prop := w.cell? ⟨b, o, none⟩ = some (.int .i64 x.a) ∧ w.cell? ⟨b, o + 1, none⟩ = some (.int .i64 x.s) ∧ w.cell? ⟨b, o + 2, none⟩ = some (.int .i64 x.l) ∧ w.cell? ⟨b, o + 3, none⟩ = some (.string x.t)
theorem OCell.below {w w' : World} {b o : Nat} {x : OvR} (h : OCell w b o x) (hb : Below w.heap.size w w') : OCell w' b o x := by
  obtain ⟨c0, c1, c2, c3⟩ := h
  have lt := cell_lt c0
  refine ⟨?_, ?_, ?_, ?_⟩
  · rw [hb.cell (p := ⟨b, o, none⟩) lt]; exact c0
  · rw [hb.cell (p := ⟨b, o + 1, none⟩) lt]; exact c1
  · rw [hb.cell (p := ⟨b, o + 2, none⟩) lt]; exact c2
  · rw [hb.cell (p := ⟨b, o + 3, none⟩) lt]; exact c3
def IsOvers (w : World) (a : Option Addr) (os : List OvR) : Prop := os = [] ∨ ∃ b off, a = some ⟨b, off, none⟩ ∧ b < w.heap.size ∧ ∀ i, i < os.length → OCell w b (off + i * 4) (oAt os i)
theorem IsOvers.below {w w' : World} {a : Option Addr} {os : List OvR} (h : IsOvers w a os) (hb : Below w.heap.size w w') : IsOvers w' a os := by
  rcases h with h | ⟨b, off, h1, h2, h3⟩
  · exact .inl h
  · exact .inr ⟨b, off, h1, Nat.lt_of_lt_of_le h2 hb.size, fun i hi => (h3 i hi).below hb⟩
theorem IsOvers.setCell {w : World} {g : Nat} {l : List OvR} (h : IsOvers w (some ⟨g, 0, none⟩) l) {p : Addr} (hp : p.block ≠ g) (v : Value) : IsOvers (w.setCell p v) (some ⟨g, 0, none⟩) l := by
  rcases h with h | ⟨b, off, h1, h2, h3⟩
  · exact .inl h
  · simp only [Option.some.injEq, Addr.mk.injEq] at h1
    obtain ⟨rfl, rfl, _⟩ := h1
    refine .inr ⟨g, 0, rfl, by simpa using h2, fun i hi => ?_⟩
    obtain ⟨c0, c1, c2, c3⟩ := h3 i hi
    have e : ∀ o, (w.setCell p v).cell? ⟨g, o, none⟩ = w.cell? ⟨g, o, none⟩ := fun o => World.cell?_of_block (w := w) (Below.heap_setCell _ _ _ _ (Ne.symm hp))
    exact ⟨(e _).trans c0, (e _).trans c1, (e _).trans c2, (e _).trans c3⟩
def OWide (os : List OvR) : Prop := os.length ≤ maxLen ∧ ∀ i, i < os.length → (oAt os i).t.size ≤ maxLen
def OSmall (os : List OvR) : Prop := os.length ≤ 1048576 ∧ ∀ i, i < os.length → (oAt os i).t.size ≤ 1048576
theorem lawSzOver (x : OvR) (left : Int) (w : World) (hn : x.t.size ≤ maxLen) (h0 : 0 ≤ left) (h1 : left ≤ 1048576) :
    Calls Tryd.prog 53 #[.agg #[.int .i64 x.a, .int .i64 x.s, .int .i64 x.l, .string x.t], .int .i64 left] w fun e w' => e = .returned (.int .i64 (sz1 x.t.size left)) ∧ Below w.heap.size w w' := by
  unfold maxLen at hn
  have hb0 := (Below.refl w.heap.size w).alloc (Nat.le_refl _) (.cells #[.int .i64 x.a, .int .i64 x.s, .int .i64 x.l, .string x.t] 83)
  by_cases h : (x.t.size : Int) ≤ left
  · have H : Hid (sz1 x.t.size left = left - (x.t.size : Int)) := if_pos h
    go_enter Tryd.func53, Tryd.ntmps53
    go_wp2
    go_ret
    exact ⟨ret_i H.out.symm, hb0⟩
  · have H : Hid (sz1 x.t.size left = -1) := if_neg h
    have h3 : left - (x.t.size : Int) < 0 := by omega
    go_enter Tryd.func53, Tryd.ntmps53
    go_wp2
    go_ret
    exact ⟨ret_i H.out.symm, hb0⟩
set_option maxHeartbeats 4000000 in
theorem lawSzOvers (a : Option Addr) (cap : Nat) (os : List OvR) (left : Int) (w : World) (h : IsOvers w a os) (hw : OWide os) (l0 : 0 ≤ left) (l1 : left ≤ 1048576) :
    Calls Tryd.prog 33 #[.slice a os.length cap, .int .i64 left] w fun e w' => (∃ r : Int, e = .returned (.int .i64 r) ∧ -1 ≤ r ∧ r ≤ left ∧ (0 ≤ r → OSmall os)) ∧ Below w.heap.size w w' := by
  have HZ : Hid (IsOvers w a os) := h
  have HW : Hid (OWide os) := hw
  have hlm : os.length ≤ 9223372036854775807 := hw.1
  clear h hw
  by_cases hn : (os.length : Int) ≤ left
  · have hl1 : ¬ left - (os.length : Int) < 0 := by omega
    have hn1 : os.length ≤ 1048576 := by omega
    go_enter Tryd.func33, Tryd.ntmps33
    go_wp2
    go_loopw [1, 5] (fun l i wr => ∃ (k : Nat) (left' : Int), k ≤ os.length ∧ i = .int .i64 k ∧ l = .int .i64 left' ∧ 0 ≤ left' ∧ left' ≤ left ∧ (∀ j, j < k → (oAt os j).t.size ≤ 1048576) ∧ Below w.heap.size w wr) (fun _ i _ => os.length - (intOf i).toNat)
    case atStart => exact ⟨0, left - (os.length : Int), by omega, rfl, rfl, by omega, by omega, fun j h => by omega, Below.refl _ _⟩
    case round =>
      obtain ⟨k, left', hk, rfl, rfl, g0, g1, ha, hb⟩ := hrel
      have HA : Hid (∀ j, j < k → (oAt os j).t.size ≤ 1048576) := ha
      clear ha
      by_cases hlt : k < os.length
      · have HT2 := HZ.out
        rcases HT2 with HT2 | ⟨b, off, rfl, hbs, hc⟩
        · rw [HT2] at hlt; simp at hlt
        obtain ⟨c0, c1, c2, c3⟩ := hc k hlt
        have d0 : wr.cell? ⟨b, off + k * 4, none⟩ = some (.int .i64 (oAt os k).a) := by rw [hb.cell (p := ⟨b, off + k * 4, none⟩) hbs]; exact c0
        have d1 : wr.cell? ⟨b, off + k * 4 + 1, none⟩ = some (.int .i64 (oAt os k).s) := by rw [hb.cell (p := ⟨b, off + k * 4 + 1, none⟩) hbs]; exact c1
        have d2 : wr.cell? ⟨b, off + k * 4 + 2, none⟩ = some (.int .i64 (oAt os k).l) := by rw [hb.cell (p := ⟨b, off + k * 4 + 2, none⟩) hbs]; exact c2
        have d3 : wr.cell? ⟨b, off + k * 4 + 3, none⟩ = some (.string (oAt os k).t) := by rw [hb.cell (p := ⟨b, off + k * 4 + 3, none⟩) hbs]; exact c3
        clear c0 c1 c2 c3 hc
        have w1 := HW.out.2 k hlt
        go_wp2_with fail
        refine (lawSzOver _ left' _ w1 g0 (by omega)).mono ?_
        rintro e w3 ⟨rfl, hb3⟩
        have B3 := hb.trans (hb3.mono hb.size)
        clear hb hb3 d0 d1 d2 d3
        by_cases h2 : ((oAt os k).t.size : Int) ≤ left'
        · rw [sz_yes h2]
          have FIN : Hid (∀ j, j < k + 1 → (oAt os j).t.size ≤ 1048576) := fun j hj => by
            by_cases e : j = k
            · subst e; omega
            · exact HA.out j (by omega)
          have q0 : ¬ left' - ((oAt os k).t.size : Int) < 0 := by omega
          have q1 : left' - ((oAt os k).t.size : Int) ≤ left := by omega
          clear h2
          generalize left' - ((oAt os k).t.size : Int) = l2 at q0 q1 ⊢
          go_wp2
          go_roundw
          case rel => exact ⟨k + 1, l2, by omega, by go_num, rfl, by omega, q1, FIN.out, B3⟩
          case measure => simp [intOf]; omega
        · rw [sz_no h2]
          go_wp2
          go_ret
          exact ⟨⟨-1, rfl, by omega, by omega, fun h => by omega⟩, B3⟩
      · have hkk : k = os.length := by omega
        subst hkk
        have FIN : Hid (OSmall os) := ⟨hn1, HA.out⟩
        go_wp2
        go_ret
        exact ⟨⟨left', rfl, by omega, by omega, fun _ => FIN.out⟩, hb⟩
  · have hl1 : left - (os.length : Int) < 0 := by omega
    go_enter Tryd.func33, Tryd.ntmps33
    go_wp2
    go_ret
    exact ⟨⟨-1, rfl, by omega, by omega, fun h => by omega⟩, Below.refl _ _⟩
theorem lawToOver (x : OvR) (w : World) :
    Calls Tryd.prog 58 #[.agg #[.int .i64 x.a, .int .i64 x.s, .int .i64 x.l, .string x.t]] w fun e w' => e = .returned (.agg #[.int .i64 x.a, .int .i64 x.s, .int .i64 x.l, .string x.t]) ∧ Below w.heap.size w w' := by
  go_enter Tryd.func58, Tryd.ntmps58
  go_wp2
  exact bodyPost_ret (v := .agg #[.int .i64 x.a, .int .i64 x.s, .int .i64 x.l, .string x.t]) (by simp [results, Tryd.results58, go_sem]) rfl ⟨rfl, (((Below.refl _ _).alloc (Nat.le_refl _) _).alloc (by simp) _).alloc (by simp; omega) _⟩
/-- Room for so many cells, that may be written. -/
structure FO (w : World) (g n : Nat) : Prop where
  there : ∀ i, i < n * 4 → ∃ v, w.cell? ⟨g, i, none⟩ = some v
  free : ∀ i, w.frozen? ⟨g, i, none⟩ = false
  lt : g < w.heap.size
theorem FO.setCell {w : World} {g n : Nat} (h : FO w g n) (p : Addr) (v : Value) : FO (w.setCell p v) g n := by
  refine ⟨fun i hi => ?_, fun i => by rw [World.frozen?_setCell]; exact h.free i, by simpa using h.lt⟩
  obtain ⟨u, hu⟩ := h.there i hi
  exact cell?_setCell_some hu
theorem FO.below {w w' : World} {g n : Nat} (h : FO w g n) (hb : Below w.heap.size w w') : FO w' g n := by
  refine ⟨fun i hi => ?_, fun i => ?_, Nat.lt_of_lt_of_le h.lt hb.size⟩
  · rw [hb.cell (p := ⟨g, i, none⟩) h.lt]; exact h.there i hi
  · rw [hb.frozen (p := ⟨g, i, none⟩) h.lt]; exact h.free i
/-- Where changes are being copied to. -/
structure Co (w wr : World) (os : List OvR) (k : Nat) : Prop where
  done : ∀ i, i < k → OCell wr w.heap.size (i * 4) (oAt os i)
  room : FO wr w.heap.size os.length
  hb : Below w.heap.size w wr
/-- Four stores into a block. -/
def set4 (w : World) (g o : Nat) (x : OvR) : World := (((w.setCell ⟨g, o, none⟩ (.int .i64 x.a)).setCell ⟨g, o + 1, none⟩ (.int .i64 x.s)).setCell ⟨g, o + 2, none⟩ (.int .i64 x.l)).setCell ⟨g, o + 3, none⟩ (.string x.t)
theorem set4_cells {w : World} {g n : Nat} (h : FO w g n) (k : Nat) (hk : k < n) (x : OvR) : OCell (set4 w g (k * 4) x) g (k * 4) x ∧ ∀ o, o < k * 4 → (set4 w g (k * 4) x).cell? ⟨g, o, none⟩ = w.cell? ⟨g, o, none⟩ := by
  have f1 := h.setCell ⟨g, k * 4, none⟩ (.int .i64 x.a)
  have f2 := f1.setCell ⟨g, k * 4 + 1, none⟩ (.int .i64 x.s)
  have f3 := f2.setCell ⟨g, k * 4 + 2, none⟩ (.int .i64 x.l)
  obtain ⟨u0, d0⟩ := h.there (k * 4) (by omega)
  obtain ⟨u1, d1⟩ := f1.there (k * 4 + 1) (by omega)
  obtain ⟨u2, d2⟩ := f2.there (k * 4 + 2) (by omega)
  obtain ⟨u3, d3⟩ := f3.there (k * 4 + 3) (by omega)
  unfold set4
  refine ⟨⟨?_, ?_, ?_, ?_⟩, fun o ho => ?_⟩
  · rw [World.cell?_setCell_other _ _ _ _ (by simp), World.cell?_setCell_other _ _ _ _ (by simp), World.cell?_setCell_other _ _ _ _ (by simp)]; exact World.cell?_setCell_same _ _ _ d0
  · rw [World.cell?_setCell_other _ _ _ _ (by simp), World.cell?_setCell_other _ _ _ _ (by simp)]; exact World.cell?_setCell_same _ _ _ d1
  · rw [World.cell?_setCell_other _ _ _ _ (by simp)]; exact World.cell?_setCell_same _ _ _ d2
  · exact World.cell?_setCell_same _ _ _ d3
  · rw [World.cell?_setCell_other _ _ _ _ (by first | (simp; done) | (simp; omega)), World.cell?_setCell_other _ _ _ _ (by first | (simp; done) | (simp; omega)), World.cell?_setCell_other _ _ _ _ (by first | (simp; done) | (simp; omega)), World.cell?_setCell_other _ _ _ _ (by first | (simp; done) | (simp; omega))]
theorem Co.step {w wr w' : World} {os : List OvR} {k : Nat} (h : Co w wr os k) (hk : k < os.length) (hb : Below wr.heap.size wr w') : Co w (set4 w' w.heap.size (k * 4) (oAt os k)) os (k + 1) := by
  obtain ⟨done, room, hbw⟩ := h
  have lt := room.lt
  have r' := room.below hb
  obtain ⟨s1, s2⟩ := set4_cells r' k hk (oAt os k)
  refine ⟨fun i hi => ?_, (((r'.setCell _ _).setCell _ _).setCell _ _).setCell _ _, ?_⟩
  · by_cases e : i = k
    · subst e; exact s1
    · have hik : i < k := by omega
      obtain ⟨c0, c1, c2, c3⟩ := done i hik
      have q : ∀ o, w'.cell? ⟨w.heap.size, o, none⟩ = wr.cell? ⟨w.heap.size, o, none⟩ := fun o => hb.cell (p := ⟨w.heap.size, o, none⟩) lt
      exact ⟨by rw [s2 _ (by omega), q]; exact c0, by rw [s2 _ (by omega), q]; exact c1, by rw [s2 _ (by omega), q]; exact c2, by rw [s2 _ (by omega), q]; exact c3⟩
  · have hs := hb.size
    exact ((((hbw.trans (hb.mono (by omega))).setCell (p := ⟨w.heap.size, k * 4, none⟩) (Nat.le_refl _) _).setCell (p := ⟨w.heap.size, k * 4 + 1, none⟩) (Nat.le_refl _) _).setCell (p := ⟨w.heap.size, k * 4 + 2, none⟩) (Nat.le_refl _) _).setCell (p := ⟨w.heap.size, k * 4 + 3, none⟩) (Nat.le_refl _) _
theorem Co.made (w : World) (os : List OvR) (cs : Array Value) (hc : cs.size = os.length * 4) (T : TypeId) : Co w (w.alloc (.cells cs T)) os 0 := by
  refine ⟨fun i hi => by omega, ⟨fun i hi => ?_, fun i => by simp, by simp⟩, (Below.refl _ _).alloc (Nat.le_refl _) _⟩
  rw [World.cell?_alloc_new]
  exact ⟨cs[i], by simp [hc, hi]⟩
theorem oMade : ∃ i z, Tryd.prog.info? 86 = some i ∧ i.zero = some z ∧ i.size = 4 ∧ i.bytes = 40 := by
  have q : (Tryd.prog.info? 86).map (fun i => (i.size, i.bytes, i.zero)) = some (4, 40, some (.agg #[.int .i64 0, .int .i64 0, .int .i64 0, .string ByteArray.empty])) := by kernel_rfl
  obtain ⟨i, hi, h⟩ := Option.map_eq_some_iff.1 q
  simp only [Prod.mk.injEq] at h
  exact ⟨i, _, hi, h.2.2, h.1, h.2.1⟩
set_option maxHeartbeats 4000000 in
theorem lawToOvers (a : Option Addr) (cap : Nat) (os : List OvR) (w : World) (h : IsOvers w a os) (hl : os.length ≤ 2000000) :
    Calls Tryd.prog 38 #[.slice a os.length cap] w fun e w' => e = .returned (.slice (some ⟨w.heap.size, 0, none⟩) os.length os.length) ∧ IsOvers w' (some ⟨w.heap.size, 0, none⟩) os ∧ Below w.heap.size w w' ∧ FO w' w.heap.size os.length := by
  obtain ⟨ti, tz, hi, hz, hsz, hby⟩ := oMade
  have hmk := fun w : World => run_make (P := Tryd.prog) w 43 86 ti tz Tryd.underlying43 hi hz .i64 .i64 (os.length : Int) (os.length : Int) (by omega) (by omega) (by rw [hby]; omega) (by omega)
  simp only [Int.toNat_natCast, hsz] at hmk
  have HC := Co.made w os (madeCells tz.cells (os.length * 4)) (size_madeCells _ _) 86
  generalize madeCells tz.cells (os.length * 4) = cs at hmk HC
  have HCC : Hid (Co w (w.alloc (.cells cs 86)) os 0) := HC
  have HT : Hid (IsOvers w a os) := h
  clear HC h hi hz hsz hby
  go_enter Tryd.func38, Tryd.ntmps38
  go_wp2
  go_loopw [4] (fun i wr => ∃ k : Nat, k ≤ os.length ∧ i = .int .i64 k ∧ Co w wr os k) (fun i _ => os.length - (intOf i).toNat)
  case atStart => exact ⟨0, by omega, rfl, HCC.out⟩
  case round =>
    obtain ⟨k, hk, rfl, hcp⟩ := hrel
    clear hmk
    have HP : Hid (Co w wr os k) := hcp
    have hlt0 := hcp.room.lt
    clear hcp
    by_cases hlt : k < os.length
    · have HT2 := HT.out
      rcases HT2 with HT2 | ⟨b, off, rfl, hbs, hc⟩
      · rw [HT2] at hlt; simp at hlt
      obtain ⟨c0, c1, c2, c3⟩ := hc k hlt
      have d0 : wr.cell? ⟨b, off + k * 4, none⟩ = some (.int .i64 (oAt os k).a) := by rw [HP.out.hb.cell (p := ⟨b, off + k * 4, none⟩) hbs]; exact c0
      have d1 : wr.cell? ⟨b, off + k * 4 + 1, none⟩ = some (.int .i64 (oAt os k).s) := by rw [HP.out.hb.cell (p := ⟨b, off + k * 4 + 1, none⟩) hbs]; exact c1
      have d2 : wr.cell? ⟨b, off + k * 4 + 2, none⟩ = some (.int .i64 (oAt os k).l) := by rw [HP.out.hb.cell (p := ⟨b, off + k * 4 + 2, none⟩) hbs]; exact c2
      have d3 : wr.cell? ⟨b, off + k * 4 + 3, none⟩ = some (.string (oAt os k).t) := by rw [HP.out.hb.cell (p := ⟨b, off + k * 4 + 3, none⟩) hbs]; exact c3
      clear hc c0 c1 c2 c3
      go_wp2_with fail
      refine (lawToOver _ _).mono ?_
      rintro e w3 ⟨rfl, hb3⟩
      have hs3 := hb3.size
      have R3 := HP.out.room.below hb3
      obtain ⟨v0, e0⟩ := R3.there (k * 4) (by omega)
      obtain ⟨v1, e1⟩ := R3.there (k * 4 + 1) (by omega)
      obtain ⟨v2, e2⟩ := R3.there (k * 4 + 2) (by omega)
      obtain ⟨v3, e3⟩ := R3.there (k * 4 + 3) (by omega)
      have f0 := R3.free (k * 4)
      have f1 := R3.free (k * 4 + 1)
      have f2 := R3.free (k * 4 + 2)
      have f3 := R3.free (k * 4 + 3)
      have FIN : Hid (Co w ((((w3.setCell ⟨w.heap.size, k * 4, none⟩ (.int .i64 (oAt os k).a)).setCell ⟨w.heap.size, k * 4 + 1, none⟩ (.int .i64 (oAt os k).s)).setCell ⟨w.heap.size, k * 4 + 2, none⟩ (.int .i64 (oAt os k).l)).setCell ⟨w.heap.size, k * 4 + 3, none⟩ (.string (oAt os k).t)) os (k + 1)) := HP.out.step hlt hb3
      clear hb3 R3 d0 d1 d2 d3
      go_wp2
      go_roundw
      case rel => exact ⟨k + 1, by omega, by go_num, FIN.out⟩
      case measure => simp [intOf]; omega
    · have hkk : k = os.length := by omega
      subst hkk
      have FIN : Hid (IsOvers wr (some ⟨w.heap.size, 0, none⟩) os) := .inr ⟨w.heap.size, 0, rfl, hlt0, fun i hi => by simpa using HP.out.done i hi⟩
      go_wp2
      go_ret
      exact ⟨rfl, FIN.out, HP.out.hb, HP.out.room⟩
theorem lawEqOver (x : OvR) (w : World) :
    Calls Tryd.prog 62 #[.agg #[.int .i64 x.a, .int .i64 x.s, .int .i64 x.l, .string x.t], .agg #[.int .i64 x.a, .int .i64 x.s, .int .i64 x.l, .string x.t]] w fun e w' => e = .returned (.bool true) ∧ Below w.heap.size w w' := by
  go_enter Tryd.func62, Tryd.ntmps62
  go_wp2
  go_ret
  exact ⟨rfl, ((Below.refl _ _).alloc (Nat.le_refl _) _).alloc (by simp) _⟩
/-- One change at two places. -/
abbrev TwoO (w : World) (b o b' o' : Nat) (a s l : Int) (t : ByteArray) (W : World) : Prop :=
  W.cell? ⟨b, o, none⟩ = some (.int .i64 a) ∧ W.cell? ⟨b, o + 1, none⟩ = some (.int .i64 s) ∧ W.cell? ⟨b, o + 2, none⟩ = some (.int .i64 l) ∧ W.cell? ⟨b, o + 3, none⟩ = some (.string t) ∧ W.cell? ⟨b', o', none⟩ = some (.int .i64 a) ∧ W.cell? ⟨b', o' + 1, none⟩ = some (.int .i64 s) ∧ W.cell? ⟨b', o' + 2, none⟩ = some (.int .i64 l) ∧ W.cell? ⟨b', o' + 3, none⟩ = some (.string t) ∧ Below w.heap.size w W
theorem TwoO.on {w W W' : World} {b o b' o' : Nat} {a s l : Int} {t : ByteArray} (h : TwoO w b o b' o' a s l t W) (hb : Below W.heap.size W W') : TwoO w b o b' o' a s l t W' := by
  obtain ⟨c0, c1, c2, c3, e0, e1, e2, e3, B⟩ := h
  have l1 := cell_lt c0
  have l2 := cell_lt e0
  exact ⟨by rw [hb.cell (p := ⟨b, o, none⟩) l1]; exact c0, by rw [hb.cell (p := ⟨b, o + 1, none⟩) l1]; exact c1, by rw [hb.cell (p := ⟨b, o + 2, none⟩) l1]; exact c2, by rw [hb.cell (p := ⟨b, o + 3, none⟩) l1]; exact c3, by rw [hb.cell (p := ⟨b', o', none⟩) l2]; exact e0, by rw [hb.cell (p := ⟨b', o' + 1, none⟩) l2]; exact e1, by rw [hb.cell (p := ⟨b', o' + 2, none⟩) l2]; exact e2, by rw [hb.cell (p := ⟨b', o' + 3, none⟩) l2]; exact e3, bstep B hb⟩
set_option maxRecDepth 100000 in
set_option maxHeartbeats 4000000 in
theorem lawEqOvers (a a' : Option Addr) (cap cap' : Nat) (os : List OvR) (w : World) (h : IsOvers w a os) (h' : IsOvers w a' os) (hl : os.length ≤ 2000000) :
    Calls Tryd.prog 41 #[.slice a os.length cap, .slice a' os.length cap'] w fun e w' => e = .returned (.bool true) ∧ Below w.heap.size w w' := by
  have H1 : Hid (IsOvers w a os) := h
  have H2 : Hid (IsOvers w a' os) := h'
  clear h h'
  go_enter Tryd.func41, Tryd.ntmps41
  go_wp2
  go_loopw [5] (fun i wr => ∃ k : Nat, k ≤ os.length ∧ i = .int .i64 k ∧ Below w.heap.size w wr) (fun i _ => os.length - (intOf i).toNat)
  case atStart => exact ⟨0, by omega, rfl, Below.refl _ _⟩
  case round =>
    obtain ⟨k, hk, rfl, hb⟩ := hrel
    by_cases hlt : k < os.length
    · have G1 := H1.out.below hb
      have G2 := H2.out.below hb
      rcases G1 with G1 | ⟨b, o, rfl, hbs, hc⟩
      · rw [G1] at hlt; simp at hlt
      rcases G2 with G2 | ⟨b', o', rfl, hbs', hc'⟩
      · rw [G2] at hlt; simp at hlt
      obtain ⟨c0, c1, c2, c3⟩ := hc k hlt
      obtain ⟨e0, e1, e2, e3⟩ := hc' k hlt
      have K : TwoO w b (o + k * 4) b' (o' + k * 4) (oAt os k).a (oAt os k).s (oAt os k).l (oAt os k).t wr := ⟨c0, c1, c2, c3, e0, e1, e2, e3, hb⟩
      have hi1 : (k : Int) < (os.length : Int) := by omega
      have hi0 : (0 : Int) ≤ (k : Int) := by omega
      clear hc hc'
      go_wp2
      go_region_held3 (fun w' => w'.cell? ⟨b, o + k * 4, none⟩ = some (.int .i64 (oAt os k).a) ∧ w'.cell? ⟨b, o + k * 4 + 1, none⟩ = some (.int .i64 (oAt os k).s) ∧ w'.cell? ⟨b, o + k * 4 + 2, none⟩ = some (.int .i64 (oAt os k).l) ∧ w'.cell? ⟨b, o + k * 4 + 3, none⟩ = some (.string (oAt os k).t) ∧ w'.cell? ⟨b', o' + k * 4, none⟩ = some (.int .i64 (oAt os k).a) ∧ w'.cell? ⟨b', o' + k * 4 + 1, none⟩ = some (.int .i64 (oAt os k).s) ∧ w'.cell? ⟨b', o' + k * 4 + 2, none⟩ = some (.int .i64 (oAt os k).l) ∧ w'.cell? ⟨b', o' + k * 4 + 3, none⟩ = some (.string (oAt os k).t) ∧ Below w.heap.size w w')
        (first | assumption | exact TwoO.on K (Below.refl _ _).drew | exact TwoO.on (by assumption) hb3)
        (first | (go_at_call 62; refine (lawEqOver _ _).mono ?_; rintro e w3 ⟨rfl, hb3⟩))
      go_wp2
      go_roundw
      case rel => exact ⟨k + 1, by omega, by go_num, by have h := (by assumption : TwoO w b (o + k * 4) b' (o' + k * 4) (oAt os k).a (oAt os k).s (oAt os k).l (oAt os k).t w3); exact h.2.2.2.2.2.2.2.2⟩
      case measure => simp [intOf]; omega
    · go_wp2
      go_ret
      exact ⟨rfl, hb⟩
end Go.Proofs.YtjncaeealmmhmaaDoor
namespace Go.Proofs.YtjncaeealmmhmaaDoor
open Go.RowKit
set_option linter.unusedVariables false
/-- An event. -/
structure Ev where
  id : ByteArray
  ti : ByteArray
  zn : ByteArray
  st : Int
  lo : Int
  r : Rl
  ou : List Int
  ov : List OvR
/-- Where its lists lie. -/
structure Em where
  r : Rm
  ao : Option Addr
  co : Nat
  av : Option Addr
  cv : Nat
structure EMem (w : World) (e : Ev) (m : Em) : Prop where
  r : RMem w e.r m.r
  o : IsInts w m.ao e.ou
  v : IsOvers w m.av e.ov
theorem EMem.below {w w' : World} {e : Ev} {m : Em} (h : EMem w e m) (hb : Below w.heap.size w w') : EMem w' e m := ⟨h.r.below hb, h.o.below hb, h.v.below hb⟩
/-- An event of such sizes. -/
structure ESz (e : Ev) (n : Nat) : Prop where
  id : e.id.size ≤ n
  ti : e.ti.size ≤ n
  zn : e.zn.size ≤ n
  ds : e.r.ds.length ≤ n
  da : e.r.da.length ≤ n
  mo : e.r.mo.length ≤ n
  pl : e.r.pl.length ≤ n
  ou : e.ou.length ≤ n
abbrev EWide (e : Ev) : Prop := ESz e maxLen ∧ OWide e.ov
abbrev ESmall (e : Ev) : Prop := ESz e 1048576 ∧ OSmall e.ov
set_option maxHeartbeats 8000000 in
theorem lawSzRuleL (f ev ct un : Int) (a0 : Option Addr) (n0 c0 : Nat) (a1 : Option Addr) (n1 c1 : Nat) (a2 : Option Addr) (n2 c2 : Nat) (a3 : Option Addr) (n3 c3 : Nat) (wk left : Int) (w : World) (m0 : n0 ≤ maxLen) (m1 : n1 ≤ maxLen) (m2 : n2 ≤ maxLen) (m3 : n3 ≤ maxLen) (k0 : 0 ≤ left) (k1 : left ≤ 1048576) :
    Calls Tryd.prog 6 #[.agg #[.int .i64 f, .int .i64 ev, .int .i64 ct, .int .i64 un, .slice a0 n0 c0, .slice a1 n1 c1, .slice a2 n2 c2, .slice a3 n3 c3, .int .i64 wk], .int .i64 left] w fun e w' => (∃ r : Int, e = .returned (.int .i64 r) ∧ -1 ≤ r ∧ r ≤ left ∧ (0 ≤ r → n0 ≤ 1048576 ∧ n1 ≤ 1048576 ∧ n2 ≤ 1048576 ∧ n3 ≤ 1048576)) ∧ Below w.heap.size w w' := by
  have hb0 := (Below.refl w.heap.size w).alloc (Nat.le_refl _) (.cells #[.int .i64 f, .int .i64 ev, .int .i64 ct, .int .i64 un, .slice a0 n0 c0, .slice a1 n1 c1, .slice a2 n2 c2, .slice a3 n3 c3, .int .i64 wk] 25)
  by_cases t0 : (n0 : Int) ≤ left
  · by_cases t1 : (n0 : Int) + n1 ≤ left
    · by_cases t2 : (n0 : Int) + n1 + n2 ≤ left
      · by_cases t3 : (n0 : Int) + n1 + n2 + n3 ≤ left
        · go_enter Tryd.func6, Tryd.ntmps6
          go_wp2_with fail
          refine (lawSzBys _ _ _ _ _ m0 (by omega) (by omega)).mono ?_
          rintro e w' ⟨rfl, rfl⟩
          rw [sz_yes (by omega)]
          go_wp2_with fail
          refine (lawSzInts _ _ _ _ _ m1 (by omega) (by omega)).mono ?_
          rintro e w' ⟨rfl, rfl⟩
          rw [sz_yes (by omega)]
          go_wp2_with fail
          refine (lawSzInts _ _ _ _ _ m2 (by omega) (by omega)).mono ?_
          rintro e w' ⟨rfl, rfl⟩
          rw [sz_yes (by omega)]
          go_wp2_with fail
          refine (lawSzInts _ _ _ _ _ m3 (by omega) (by omega)).mono ?_
          rintro e w' ⟨rfl, rfl⟩
          rw [sz_yes (by omega)]
          go_wp2
          go_ret
          exact ⟨⟨_, rfl, by omega, by omega, fun _ => ⟨by omega, by omega, by omega, by omega⟩⟩, hb0⟩
        · go_enter Tryd.func6, Tryd.ntmps6
          go_wp2_with fail
          refine (lawSzBys _ _ _ _ _ m0 (by omega) (by omega)).mono ?_
          rintro e w' ⟨rfl, rfl⟩
          rw [sz_yes (by omega)]
          go_wp2_with fail
          refine (lawSzInts _ _ _ _ _ m1 (by omega) (by omega)).mono ?_
          rintro e w' ⟨rfl, rfl⟩
          rw [sz_yes (by omega)]
          go_wp2_with fail
          refine (lawSzInts _ _ _ _ _ m2 (by omega) (by omega)).mono ?_
          rintro e w' ⟨rfl, rfl⟩
          rw [sz_yes (by omega)]
          go_wp2_with fail
          refine (lawSzInts _ _ _ _ _ m3 (by omega) (by omega)).mono ?_
          rintro e w' ⟨rfl, rfl⟩
          rw [sz_no (by omega)]
          go_wp2
          go_ret
          exact ⟨⟨-1, rfl, by omega, by omega, fun h => by omega⟩, hb0⟩
      · go_enter Tryd.func6, Tryd.ntmps6
        go_wp2_with fail
        refine (lawSzBys _ _ _ _ _ m0 (by omega) (by omega)).mono ?_
        rintro e w' ⟨rfl, rfl⟩
        rw [sz_yes (by omega)]
        go_wp2_with fail
        refine (lawSzInts _ _ _ _ _ m1 (by omega) (by omega)).mono ?_
        rintro e w' ⟨rfl, rfl⟩
        rw [sz_yes (by omega)]
        go_wp2_with fail
        refine (lawSzInts _ _ _ _ _ m2 (by omega) (by omega)).mono ?_
        rintro e w' ⟨rfl, rfl⟩
        rw [sz_no (by omega)]
        go_wp2
        go_ret
        exact ⟨⟨-1, rfl, by omega, by omega, fun h => by omega⟩, hb0⟩
    · go_enter Tryd.func6, Tryd.ntmps6
      go_wp2_with fail
      refine (lawSzBys _ _ _ _ _ m0 (by omega) (by omega)).mono ?_
      rintro e w' ⟨rfl, rfl⟩
      rw [sz_yes (by omega)]
      go_wp2_with fail
      refine (lawSzInts _ _ _ _ _ m1 (by omega) (by omega)).mono ?_
      rintro e w' ⟨rfl, rfl⟩
      rw [sz_no (by omega)]
      go_wp2
      go_ret
      exact ⟨⟨-1, rfl, by omega, by omega, fun h => by omega⟩, hb0⟩
  · go_enter Tryd.func6, Tryd.ntmps6
    go_wp2_with fail
    refine (lawSzBys _ _ _ _ _ m0 (by omega) (by omega)).mono ?_
    rintro e w' ⟨rfl, rfl⟩
    rw [sz_no (by omega)]
    go_wp2
    go_ret
    exact ⟨⟨-1, rfl, by omega, by omega, fun h => by omega⟩, hb0⟩
set_option maxHeartbeats 8000000 in
theorem lawSzEvent (e : Ev) (m : Em) (left : Int) (w : World) (hm : EMem w e m) (hw : EWide e) (k0 : 0 ≤ left) (k1 : left ≤ 1048576) :
    Calls Tryd.prog 17 #[.agg #[.string e.id, .string e.ti, .string e.zn, .int .i64 e.st, .int .i64 e.lo, .int .i64 e.r.f, .int .i64 e.r.ev, .int .i64 e.r.ct, .int .i64 e.r.un, .slice m.r.a0 e.r.ds.length m.r.c0, .slice m.r.a1 e.r.da.length m.r.c1, .slice m.r.a2 e.r.mo.length m.r.c2, .slice m.r.a3 e.r.pl.length m.r.c3, .int .i64 e.r.wk, .slice m.ao e.ou.length m.co, .slice m.av e.ov.length m.cv], .int .i64 left] w fun z w' => (∃ r : Int, z = .returned (.int .i64 r) ∧ -1 ≤ r ∧ r ≤ left ∧ (0 ≤ r → ESmall e)) ∧ Below w.heap.size w w' := by
  obtain ⟨W0, hW0⟩ : ∃ W0, W0 = w.alloc (.cells #[.string e.id, .string e.ti, .string e.zn, .int .i64 e.st, .int .i64 e.lo, .int .i64 e.r.f, .int .i64 e.r.ev, .int .i64 e.r.ct, .int .i64 e.r.un, .slice m.r.a0 e.r.ds.length m.r.c0, .slice m.r.a1 e.r.da.length m.r.c1, .slice m.r.a2 e.r.mo.length m.r.c2, .slice m.r.a3 e.r.pl.length m.r.c3, .int .i64 e.r.wk, .slice m.ao e.ou.length m.co, .slice m.av e.ov.length m.cv] 40) := ⟨_, rfl⟩
  have hb0 : Below w.heap.size w W0 := by rw [hW0]; exact (Below.refl _ w).alloc (Nat.le_refl _) _
  have HW0 : Hid (W0 = w.alloc (.cells #[.string e.id, .string e.ti, .string e.zn, .int .i64 e.st, .int .i64 e.lo, .int .i64 e.r.f, .int .i64 e.r.ev, .int .i64 e.r.ct, .int .i64 e.r.un, .slice m.r.a0 e.r.ds.length m.r.c0, .slice m.r.a1 e.r.da.length m.r.c1, .slice m.r.a2 e.r.mo.length m.r.c2, .slice m.r.a3 e.r.pl.length m.r.c3, .int .i64 e.r.wk, .slice m.ao e.ou.length m.co, .slice m.av e.ov.length m.cv] 40)) := hW0
  have HC0 : Hid (CF W0 w.heap.size #[.string e.id, .string e.ti, .string e.zn, .int .i64 e.st, .int .i64 e.lo, .int .i64 e.r.f, .int .i64 e.r.ev, .int .i64 e.r.ct, .int .i64 e.r.un, .slice m.r.a0 e.r.ds.length m.r.c0, .slice m.r.a1 e.r.da.length m.r.c1, .slice m.r.a2 e.r.mo.length m.r.c2, .slice m.r.a3 e.r.pl.length m.r.c3, .int .i64 e.r.wk, .slice m.ao e.ou.length m.co, .slice m.av e.ov.length m.cv]) := by unfold Hid; rw [hW0]; exact CF.new _ _ _
  have HB0 : Hid (Below w.heap.size w W0) := hb0
  have HM : Hid (EMem W0 e m) := hm.below hb0
  obtain ⟨⟨z0, z1, z2, z3, z4, z5, z6, z7⟩, zo⟩ := hw
  have y0 : e.id.size ≤ 9223372036854775807 := z0
  have y1 : e.ti.size ≤ 9223372036854775807 := z1
  have y2 : e.zn.size ≤ 9223372036854775807 := z2
  have HBW : Hid (Below w.heap.size w (w.alloc (.cells #[.string e.id, .string e.ti, .string e.zn, .int .i64 e.st, .int .i64 e.lo, .int .i64 e.r.f, .int .i64 e.r.ev, .int .i64 e.r.ct, .int .i64 e.r.un, .slice m.r.a0 e.r.ds.length m.r.c0, .slice m.r.a1 e.r.da.length m.r.c1, .slice m.r.a2 e.r.mo.length m.r.c2, .slice m.r.a3 e.r.pl.length m.r.c3, .int .i64 e.r.wk, .slice m.ao e.ou.length m.co, .slice m.av e.ov.length m.cv] 40))) := by unfold Hid; rw [← hW0]; exact hb0
  clear hW0 hb0 hm
  by_cases t0 : (e.id.size : Int) ≤ left
  · by_cases t1 : (e.id.size : Int) + e.ti.size ≤ left
    · by_cases t2 : (e.id.size : Int) + e.ti.size + e.zn.size ≤ left
      · have q0 : ¬ left - (e.id.size : Int) < 0 := by omega
        have q1 : ¬ left - (e.id.size : Int) - (e.ti.size : Int) < 0 := by omega
        have q2 : ¬ left - (e.id.size : Int) - (e.ti.size : Int) - (e.zn.size : Int) < 0 := by omega
        go_enter Tryd.func17, Tryd.ntmps17
        go_wp2_with fail
        rw [← HW0.out]
        refine (lawSzRuleL _ _ _ _ _ _ _ _ _ _ _ _ _ _ _ _ _ _ W0 z3 z4 z5 z6 (by omega) (by omega)).mono ?_
        rintro z w1 ⟨⟨r1, rfl, r10, r11, r12⟩, b1⟩
        have HB1 : Hid (Below w.heap.size w w1) := bstep HB0.out b1
        have C1 := HC0.out.below b1
        have x14 := (C1.2 14 _ rfl).1
        have x15 := (C1.2 15 _ rfl).1
        have HM1 : Hid (EMem w1 e m) := HM.out.below b1
        have HR : Hid (0 ≤ r1 → e.r.ds.length ≤ 1048576 ∧ e.r.da.length ≤ 1048576 ∧ e.r.mo.length ≤ 1048576 ∧ e.r.pl.length ≤ 1048576) := r12
        clear b1 C1 r12
        by_cases t3 : 0 ≤ r1
        · have t3' : ¬ r1 < 0 := by omega
          go_wp2_with fail
          refine (lawSzInts _ _ _ r1 w1 z7 t3 (by omega)).mono ?_
          rintro z w2 ⟨rfl, rfl⟩
          by_cases t4 : (e.ou.length : Int) ≤ r1
          · rw [sz_yes t4]
            have t4' : ¬ r1 - (e.ou.length : Int) < 0 := by omega
            go_wp2_with fail
            refine (lawSzOvers _ _ e.ov _ w2 HM1.out.v zo (by omega) (by omega)).mono ?_
            rintro z w3 ⟨⟨r3, rfl, r30, r31, r32⟩, b3⟩
            have HB3 : Hid (Below w.heap.size w w3) := bstep HB1.out b3
            have HO : Hid (0 ≤ r3 → OSmall e.ov) := r32
            clear b3 r32
            by_cases t5 : 0 ≤ r3
            · have t5' : ¬ r3 < 0 := by omega
              go_wp2
              go_ret
              obtain ⟨a0, a1, a2, a3⟩ := HR.out t3
              exact ⟨⟨r3, rfl, by omega, by omega, fun _ => ⟨⟨by omega, by omega, by omega, a0, a1, a2, a3, by omega⟩, HO.out t5⟩⟩, HB3.out⟩
            · have t5' : r3 < 0 := by omega
              go_wp2
              go_ret
              exact ⟨⟨-1, rfl, by omega, by omega, fun h => by omega⟩, HB3.out⟩
          · rw [sz_no t4]
            go_wp2
            go_ret
            exact ⟨⟨-1, rfl, by omega, by omega, fun h => by omega⟩, HB1.out⟩
        · have t3' : r1 < 0 := by omega
          go_wp2
          go_ret
          exact ⟨⟨-1, rfl, by omega, by omega, fun h => by omega⟩, HB1.out⟩
      · have q2 : left - (e.id.size : Int) - (e.ti.size : Int) - (e.zn.size : Int) < 0 := by omega
        have q0 : ¬ left - (e.id.size : Int) < 0 := by omega
        have q1 : ¬ left - (e.id.size : Int) - (e.ti.size : Int) < 0 := by omega
        go_enter Tryd.func17, Tryd.ntmps17
        go_wp2
        go_ret
        exact ⟨⟨-1, rfl, by omega, by omega, fun h => by omega⟩, HBW.out⟩
    · have q1 : left - (e.id.size : Int) - (e.ti.size : Int) < 0 := by omega
      have q0 : ¬ left - (e.id.size : Int) < 0 := by omega
      go_enter Tryd.func17, Tryd.ntmps17
      go_wp2
      go_ret
      exact ⟨⟨-1, rfl, by omega, by omega, fun h => by omega⟩, HBW.out⟩
  · have q0 : left - (e.id.size : Int) < 0 := by omega
    go_enter Tryd.func17, Tryd.ntmps17
    go_wp2
    go_ret
    exact ⟨⟨-1, rfl, by omega, by omega, fun h => by omega⟩, HBW.out⟩
end Go.Proofs.YtjncaeealmmhmaaDoor
namespace Go.Proofs.YtjncaeealmmhmaaDoor
open Go.RowKit
set_option linter.unusedVariables false
def noneB (r : Rl) : Bool := decide (r.f = 0 ∧ r.ev = 0 ∧ r.ct = 0 ∧ r.un = 0 ∧ r.wk = 0 ∧ r.ds.length = 0 ∧ r.da.length = 0 ∧ r.mo.length = 0 ∧ r.pl.length = 0)
def begB (x : Int) : Bool := inB x 2880 5258941919
set_option maxHeartbeats 8000000 in
theorem implIsNoRule (r : Rl) (m : Rm) (w : World) : Calls Tryd.prog 59 #[.agg #[.int .i64 r.f, .int .i64 r.ev, .int .i64 r.ct, .int .i64 r.un, .slice m.a0 r.ds.length m.c0, .slice m.a1 r.da.length m.c1, .slice m.a2 r.mo.length m.c2, .slice m.a3 r.pl.length m.c3, .int .i64 r.wk]] w fun e w' => e = .returned (.bool (noneB r)) ∧ Below w.heap.size w w' := by
  by_cases hf : r.f = 0
  · by_cases hev : r.ev = 0
    · by_cases hct : r.ct = 0
      · by_cases hun : r.un = 0
        · by_cases hwk : r.wk = 0
          · by_cases hds : r.ds.length = 0
            · by_cases hda : r.da.length = 0
              · by_cases hmo : r.mo.length = 0
                · by_cases hpl : r.pl.length = 0
                  · have HV : Hid (noneB r = true) := decide_eq_true ⟨hf, hev, hct, hun, hwk, hds, hda, hmo, hpl⟩
                    go_enter Tryd.func59, Tryd.ntmps59
                    go_wp2
                    go_ret
                    exact ⟨ret_b HV.out.symm, (Below.refl _ _).alloc (Nat.le_refl _) _⟩
                  · have HV : Hid (noneB r = false) := decide_eq_false (fun h => hpl (by omega))
                    go_enter Tryd.func59, Tryd.ntmps59
                    go_wp2
                    go_ret
                    exact ⟨by first | exact ret_b HV.out.symm | exact ret_b (by rw [HV.out]; simpa using hpl), (Below.refl _ _).alloc (Nat.le_refl _) _⟩
                · have HV : Hid (noneB r = false) := decide_eq_false (fun h => hmo (by omega))
                  go_enter Tryd.func59, Tryd.ntmps59
                  go_wp2
                  go_ret
                  exact ⟨by first | exact ret_b HV.out.symm | exact ret_b (by rw [HV.out]; simpa using hmo), (Below.refl _ _).alloc (Nat.le_refl _) _⟩
              · have HV : Hid (noneB r = false) := decide_eq_false (fun h => hda (by omega))
                go_enter Tryd.func59, Tryd.ntmps59
                go_wp2
                go_ret
                exact ⟨by first | exact ret_b HV.out.symm | exact ret_b (by rw [HV.out]; simpa using hda), (Below.refl _ _).alloc (Nat.le_refl _) _⟩
            · have HV : Hid (noneB r = false) := decide_eq_false (fun h => hds (by omega))
              go_enter Tryd.func59, Tryd.ntmps59
              go_wp2
              go_ret
              exact ⟨by first | exact ret_b HV.out.symm | exact ret_b (by rw [HV.out]; simpa using hds), (Below.refl _ _).alloc (Nat.le_refl _) _⟩
          · have HV : Hid (noneB r = false) := decide_eq_false (fun h => hwk (by omega))
            go_enter Tryd.func59, Tryd.ntmps59
            go_wp2
            go_ret
            exact ⟨by first | exact ret_b HV.out.symm | exact ret_b (by rw [HV.out]; simpa using hwk), (Below.refl _ _).alloc (Nat.le_refl _) _⟩
        · have HV : Hid (noneB r = false) := decide_eq_false (fun h => hun (by omega))
          go_enter Tryd.func59, Tryd.ntmps59
          go_wp2
          go_ret
          exact ⟨by first | exact ret_b HV.out.symm | exact ret_b (by rw [HV.out]; simpa using hun), (Below.refl _ _).alloc (Nat.le_refl _) _⟩
      · have HV : Hid (noneB r = false) := decide_eq_false (fun h => hct (by omega))
        go_enter Tryd.func59, Tryd.ntmps59
        go_wp2
        go_ret
        exact ⟨by first | exact ret_b HV.out.symm | exact ret_b (by rw [HV.out]; simpa using hct), (Below.refl _ _).alloc (Nat.le_refl _) _⟩
    · have HV : Hid (noneB r = false) := decide_eq_false (fun h => hev (by omega))
      go_enter Tryd.func59, Tryd.ntmps59
      go_wp2
      go_ret
      exact ⟨by first | exact ret_b HV.out.symm | exact ret_b (by rw [HV.out]; simpa using hev), (Below.refl _ _).alloc (Nat.le_refl _) _⟩
  · have HV : Hid (noneB r = false) := decide_eq_false (fun h => hf (by omega))
    go_enter Tryd.func59, Tryd.ntmps59
    go_wp2
    go_ret
    exact ⟨by first | exact ret_b HV.out.symm | exact ret_b (by rw [HV.out]; simpa using hf), (Below.refl _ _).alloc (Nat.le_refl _) _⟩
set_option maxHeartbeats 8000000 in
theorem specNone (r : Rl) (m : Rm) (w : World) (l0 : r.ds.length ≤ 2000000) (l1 : r.da.length ≤ 2000000) (l2 : r.mo.length ≤ 2000000) (l3 : r.pl.length ≤ 2000000) : Calls Tryd.prog 34 #[.agg #[.int .i64 r.f, .int .i64 r.ev, .int .i64 r.ct, .int .i64 r.un, .slice m.a0 r.ds.length m.c0, .slice m.a1 r.da.length m.c1, .slice m.a2 r.mo.length m.c2, .slice m.a3 r.pl.length m.c3, .int .i64 r.wk]] w fun e w' => e = .returned (.bool (noneB r)) ∧ Below w.heap.size w w' := by
  by_cases hf : r.f = 0
  · by_cases hev : r.ev = 0
    · by_cases hct : r.ct = 0
      · by_cases hun : r.un = 0
        · by_cases hsu : (r.ds.length : Int) + r.da.length + r.mo.length + r.pl.length = 0
          · by_cases hwk : r.wk = 0
            · have HV : Hid (noneB r = true) := decide_eq_true ⟨hf, hev, hct, hun, hwk, by omega, by omega, by omega, by omega⟩
              go_enter Tryd.func34, Tryd.ntmps34
              go_wp2
              go_ret
              exact ⟨ret_b HV.out.symm, (Below.refl _ _).alloc (Nat.le_refl _) _⟩
            · have HV : Hid (noneB r = false) := decide_eq_false (fun h => hwk (by omega))
              go_enter Tryd.func34, Tryd.ntmps34
              go_wp2
              go_ret
              exact ⟨by first | exact ret_b HV.out.symm | exact ret_b (by rw [HV.out]; simpa using hwk), (Below.refl _ _).alloc (Nat.le_refl _) _⟩
          · have HV : Hid (noneB r = false) := decide_eq_false (fun h => hsu (by omega))
            go_enter Tryd.func34, Tryd.ntmps34
            go_wp2
            go_ret
            exact ⟨by first | exact ret_b HV.out.symm | exact ret_b (by rw [HV.out]; simpa using hsu), (Below.refl _ _).alloc (Nat.le_refl _) _⟩
        · have HV : Hid (noneB r = false) := decide_eq_false (fun h => hun (by omega))
          go_enter Tryd.func34, Tryd.ntmps34
          go_wp2
          go_ret
          exact ⟨by first | exact ret_b HV.out.symm | exact ret_b (by rw [HV.out]; simpa using hun), (Below.refl _ _).alloc (Nat.le_refl _) _⟩
      · have HV : Hid (noneB r = false) := decide_eq_false (fun h => hct (by omega))
        go_enter Tryd.func34, Tryd.ntmps34
        go_wp2
        go_ret
        exact ⟨by first | exact ret_b HV.out.symm | exact ret_b (by rw [HV.out]; simpa using hct), (Below.refl _ _).alloc (Nat.le_refl _) _⟩
    · have HV : Hid (noneB r = false) := decide_eq_false (fun h => hev (by omega))
      go_enter Tryd.func34, Tryd.ntmps34
      go_wp2
      go_ret
      exact ⟨by first | exact ret_b HV.out.symm | exact ret_b (by rw [HV.out]; simpa using hev), (Below.refl _ _).alloc (Nat.le_refl _) _⟩
  · have HV : Hid (noneB r = false) := decide_eq_false (fun h => hf (by omega))
    go_enter Tryd.func34, Tryd.ntmps34
    go_wp2
    go_ret
    exact ⟨by first | exact ret_b HV.out.symm | exact ret_b (by rw [HV.out]; simpa using hf), (Below.refl _ _).alloc (Nat.le_refl _) _⟩
theorem implBeg (n : Int) (w : World) (r : Bool) (hr : begB n = r) : Calls Tryd.prog 39 #[.int .i64 n] w fun e w' => e = .returned (.bool r) ∧ w' = w := by
  subst hr
  by_cases h0 : 2880 ≤ n
  · by_cases h1 : n ≤ 5258941919
    · have HV : Hid (begB n = true) := (in_iff _ _ _).2 ⟨h0, h1⟩
      go_enter Tryd.func39, Tryd.ntmps39
      go_wp2
      go_ret
      exact ⟨ret_b HV.out.symm, rfl⟩
    · have HV : Hid (begB n = false) := (in_not _ _ _).2 (by omega)
      go_enter Tryd.func39, Tryd.ntmps39
      go_wp2
      go_ret
      exact ⟨ret_b HV.out.symm, rfl⟩
  · have HV : Hid (begB n = false) := (in_not _ _ _).2 (by omega)
    go_enter Tryd.func39, Tryd.ntmps39
    go_wp2
    go_ret
    exact ⟨ret_b HV.out.symm, rfl⟩
theorem implTimeB (n : Int) (w : World) (r : Bool) (hr : inB n 0 5258964959 = r) : Calls Tryd.prog 60 #[.int .i64 n] w fun e w' => e = .returned (.bool r) ∧ w' = w := by
  subst hr
  by_cases h0 : 0 ≤ n
  · by_cases h1 : n ≤ 5258964959
    · have HV : Hid (inB n 0 5258964959 = true) := (in_iff _ _ _).2 ⟨h0, h1⟩
      go_enter Tryd.func60, Tryd.ntmps60
      go_wp2
      go_ret
      exact ⟨ret_b HV.out.symm, rfl⟩
    · have HV : Hid (inB n 0 5258964959 = false) := (in_not _ _ _).2 (by omega)
      go_enter Tryd.func60, Tryd.ntmps60
      go_wp2
      go_ret
      exact ⟨ret_b HV.out.symm, rfl⟩
  · have HV : Hid (inB n 0 5258964959 = false) := (in_not _ _ _).2 (by omega)
    go_enter Tryd.func60, Tryd.ntmps60
    go_wp2
    go_ret
    exact ⟨ret_b HV.out.symm, rfl⟩
theorem specBeg (n : Int) (w : World) (r : Bool) (hr : begB n = r) : Calls Tryd.prog 36 #[.int .i64 n] w fun e w' => e = .returned (.bool r) ∧ w' = w := by
  have HR : Hid (inB n 2880 5258941919 = r) := hr
  clear hr
  go_enter Tryd.func36, Tryd.ntmps36
  go_wp2_with fail
  refine (specInR _ _ _ _ r HR.out).mono ?_
  rintro e w2 ⟨rfl, rfl⟩
  go_wp2
  go_ret
  exact ⟨rfl, rfl⟩
end Go.Proofs.YtjncaeealmmhmaaDoor
