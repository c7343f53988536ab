/- Guests, as they lie in memory, and the exact laws' own helpers over them. -/
import Derived.Test.YthmekfijpfghkaaVa
namespace Go.Proofs.Ythmekfijpfghkaa
open Go.RowKit
set_option linter.unusedVariables false
/-- A guest. -/
structure GuR where
  t : ByteArray
  s : Int
  l : Int
def gu0 : GuR := ⟨ByteArray.empty, 0, 0⟩
def uAt (l : List GuR) (i : Nat) : GuR := l.getD i gu0
/-- A guest in three cells. -/
def UCell (w : World) (b o : Nat) (x : GuR) : Prop := w.cell? ⟨b, o, none⟩ = some (.string x.t) ∧ w.cell? ⟨b, o + 1, none⟩ = some (.int .i64 x.s) ∧ w.cell? ⟨b, o + 2, none⟩ = some (.int .i64 x.l)
theorem UCell.below {w w' : World} {b o : Nat} {x : GuR} (h : UCell w b o x) (hb : Below w.heap.size w w') : UCell w' b o x := by
  obtain ⟨c0, c1, c2⟩ := h
  have lt := cell_lt c0
  refine ⟨?_, ?_, ?_⟩
  · rw [hb.cell (p := ⟨b, o, none⟩) lt]; exact c0
  · rw [hb.cell (p := ⟨b, o + 1, none⟩) lt]; exact c1
  · rw [hb.cell (p := ⟨b, o + 2, none⟩) lt]; exact c2
def IsGuests (w : World) (a : Option Addr) (os : List GuR) : Prop := os = [] ∨ ∃ b off, a = some ⟨b, off, none⟩ ∧ b < w.heap.size ∧ ∀ i, i < os.length → UCell w b (off + i * 3) (uAt os i)
theorem IsGuests.below {w w' : World} {a : Option Addr} {os : List GuR} (h : IsGuests w a os) (hb : Below w.heap.size w w') : IsGuests w' a os := by
  rcases h with h | ⟨b, off, h1, h2, h3⟩
  · exact .inl h
  · exact .inr ⟨b, off, h1, Nat.lt_of_lt_of_le h2 hb.size, fun i hi => (h3 i hi).below hb⟩
theorem IsGuests.setCell {w : World} {g : Nat} {l : List GuR} (h : IsGuests w (some ⟨g, 0, none⟩) l) {p : Addr} (hp : p.block ≠ g) (v : Value) : IsGuests (w.setCell p v) (some ⟨g, 0, none⟩) l := by
  rcases h with h | ⟨b, off, h1, h2, h3⟩
  · exact .inl h
  · simp only [Option.some.injEq, Addr.mk.injEq] at h1
    obtain ⟨rfl, rfl, _⟩ := h1
    refine .inr ⟨g, 0, rfl, by simpa using h2, fun i hi => ?_⟩
    obtain ⟨c0, c1, c2⟩ := h3 i hi
    have e : ∀ o, (w.setCell p v).cell? ⟨g, o, none⟩ = w.cell? ⟨g, o, none⟩ := fun o => World.cell?_of_block (w := w) (Below.heap_setCell _ _ _ _ (Ne.symm hp))
    exact ⟨(e _).trans c0, (e _).trans c1, (e _).trans c2⟩
def UWide (os : List GuR) : Prop := os.length ≤ maxLen ∧ ∀ i, i < os.length → (uAt os i).t.size ≤ maxLen
def USmall (os : List GuR) : Prop := os.length ≤ 1048576 ∧ ∀ i, i < os.length → (uAt os i).t.size ≤ 1048576
theorem lawSzGuest (x : GuR) (left : Int) (w : World) (hn : x.t.size ≤ maxLen) (h0 : 0 ≤ left) (h1 : left ≤ 1048576) :
    Calls Try.prog 48 #[.agg #[.string x.t, .int .i64 x.s, .int .i64 x.l], .int .i64 left] w fun e w' => e = .returned (.int .i64 (sz1 x.t.size left)) ∧ Below w.heap.size w w' := by
  unfold maxLen at hn
  have hb0 := (Below.refl w.heap.size w).alloc (Nat.le_refl _) (.cells #[.string x.t, .int .i64 x.s, .int .i64 x.l] 86)
  by_cases h : (x.t.size : Int) ≤ left
  · have H : Hid (sz1 x.t.size left = left - (x.t.size : Int)) := if_pos h
    go_enter Try.func48, Try.ntmps48
    go_wp2
    go_ret
    exact ⟨ret_i H.out.symm, hb0⟩
  · have H : Hid (sz1 x.t.size left = -1) := if_neg h
    have h3 : left - (x.t.size : Int) < 0 := by omega
    go_enter Try.func48, Try.ntmps48
    go_wp2
    go_ret
    exact ⟨ret_i H.out.symm, hb0⟩
set_option maxHeartbeats 4000000 in
theorem lawSzGuests (a : Option Addr) (cap : Nat) (os : List GuR) (left : Int) (w : World) (h : IsGuests w a os) (hw : UWide os) (l0 : 0 ≤ left) (l1 : left ≤ 1048576) :
    Calls Try.prog 27 #[.slice a os.length cap, .int .i64 left] w fun e w' => (∃ r : Int, e = .returned (.int .i64 r) ∧ -1 ≤ r ∧ r ≤ left ∧ (0 ≤ r → USmall os)) ∧ Below w.heap.size w w' := by
  have HZ : Hid (IsGuests w a os) := h
  have HW : Hid (UWide os) := hw
  have hlm : os.length ≤ 9223372036854775807 := hw.1
  clear h hw
  by_cases hn : (os.length : Int) ≤ left
  · have hl1 : ¬ left - (os.length : Int) < 0 := by omega
    have hn1 : os.length ≤ 1048576 := by omega
    go_enter Try.func27, Try.ntmps27
    go_wp2
    go_loopw [1, 5] (fun l i wr => ∃ (k : Nat) (left' : Int), k ≤ os.length ∧ i = .int .i64 k ∧ l = .int .i64 left' ∧ 0 ≤ left' ∧ left' ≤ left ∧ (∀ j, j < k → (uAt os j).t.size ≤ 1048576) ∧ Below w.heap.size w wr) (fun _ i _ => os.length - (intOf i).toNat)
    case atStart => exact ⟨0, left - (os.length : Int), by omega, rfl, rfl, by omega, by omega, fun j h => by omega, Below.refl _ _⟩
    case round =>
      obtain ⟨k, left', hk, rfl, rfl, g0, g1, ha, hb⟩ := hrel
      have HA : Hid (∀ j, j < k → (uAt os j).t.size ≤ 1048576) := ha
      clear ha
      by_cases hlt : k < os.length
      · have HT2 := HZ.out
        rcases HT2 with HT2 | ⟨b, off, rfl, hbs, hc⟩
        · rw [HT2] at hlt; simp at hlt
        obtain ⟨c0, c1, c2⟩ := hc k hlt
        have d0 : wr.cell? ⟨b, off + k * 3, none⟩ = some (.string (uAt os k).t) := by rw [hb.cell (p := ⟨b, off + k * 3, none⟩) hbs]; exact c0
        have d1 : wr.cell? ⟨b, off + k * 3 + 1, none⟩ = some (.int .i64 (uAt os k).s) := by rw [hb.cell (p := ⟨b, off + k * 3 + 1, none⟩) hbs]; exact c1
        have d2 : wr.cell? ⟨b, off + k * 3 + 2, none⟩ = some (.int .i64 (uAt os k).l) := by rw [hb.cell (p := ⟨b, off + k * 3 + 2, none⟩) hbs]; exact c2
        clear c0 c1 c2 hc
        have w1 := HW.out.2 k hlt
        go_wp2_with fail
        refine (lawSzGuest _ left' _ w1 g0 (by omega)).mono ?_
        rintro e w3 ⟨rfl, hb3⟩
        have B3 := hb.trans (hb3.mono hb.size)
        clear hb hb3 d0 d1 d2
        by_cases h2 : ((uAt os k).t.size : Int) ≤ left'
        · rw [sz_yes h2]
          have FIN : Hid (∀ j, j < k + 1 → (uAt os j).t.size ≤ 1048576) := fun j hj => by
            by_cases e : j = k
            · subst e; omega
            · exact HA.out j (by omega)
          have q0 : ¬ left' - ((uAt os k).t.size : Int) < 0 := by omega
          have q1 : left' - ((uAt os k).t.size : Int) ≤ left := by omega
          clear h2
          generalize left' - ((uAt os k).t.size : Int) = l2 at q0 q1 ⊢
          go_wp2
          go_roundw
          case rel => exact ⟨k + 1, l2, by omega, by go_num, rfl, by omega, q1, FIN.out, B3⟩
          case measure => simp [intOf]; omega
        · rw [sz_no h2]
          go_wp2
          go_ret
          exact ⟨⟨-1, rfl, by omega, by omega, fun h => by omega⟩, B3⟩
      · have hkk : k = os.length := by omega
        subst hkk
        have FIN : Hid (USmall os) := ⟨hn1, HA.out⟩
        go_wp2
        go_ret
        exact ⟨⟨left', rfl, by omega, by omega, fun _ => FIN.out⟩, hb⟩
  · have hl1 : left - (os.length : Int) < 0 := by omega
    go_enter Try.func27, Try.ntmps27
    go_wp2
    go_ret
    exact ⟨⟨-1, rfl, by omega, by omega, fun h => by omega⟩, Below.refl _ _⟩
theorem lawToGuest (x : GuR) (w : World) :
    Calls Try.prog 52 #[.agg #[.string x.t, .int .i64 x.s, .int .i64 x.l]] w fun e w' => e = .returned (.agg #[.string x.t, .int .i64 x.s, .int .i64 x.l]) ∧ Below w.heap.size w w' := by
  go_enter Try.func52, Try.ntmps52
  go_wp2
  exact bodyPost_ret (v := .agg #[.string x.t, .int .i64 x.s, .int .i64 x.l]) (by simp [results, Try.results52, go_sem]) rfl ⟨rfl, (((Below.refl _ _).alloc (Nat.le_refl _) _).alloc (by simp) _).alloc (by simp; omega) _⟩
/-- Room for so many cells, that may be written. -/
structure FU (w : World) (g n : Nat) : Prop where
  there : ∀ i, i < n * 3 → ∃ v, w.cell? ⟨g, i, none⟩ = some v
  free : ∀ i, w.frozen? ⟨g, i, none⟩ = false
  lt : g < w.heap.size
theorem FU.setCell {w : World} {g n : Nat} (h : FU w g n) (p : Addr) (v : Value) : FU (w.setCell p v) g n := by
  refine ⟨fun i hi => ?_, fun i => by rw [World.frozen?_setCell]; exact h.free i, by simpa using h.lt⟩
  obtain ⟨u, hu⟩ := h.there i hi
  exact cell?_setCell_some hu
theorem FU.below {w w' : World} {g n : Nat} (h : FU w g n) (hb : Below w.heap.size w w') : FU w' g n := by
  refine ⟨fun i hi => ?_, fun i => ?_, Nat.lt_of_lt_of_le h.lt hb.size⟩
  · rw [hb.cell (p := ⟨g, i, none⟩) h.lt]; exact h.there i hi
  · rw [hb.frozen (p := ⟨g, i, none⟩) h.lt]; exact h.free i
/-- Where guests are being copied to. -/
structure Cu (w wr : World) (os : List GuR) (k : Nat) : Prop where
  done : ∀ i, i < k → UCell wr w.heap.size (i * 3) (uAt os i)
  room : FU wr w.heap.size os.length
  hb : Below w.heap.size w wr
/-- Three stores into a block. -/
def set3 (w : World) (g o : Nat) (x : GuR) : World := ((w.setCell ⟨g, o, none⟩ (.string x.t)).setCell ⟨g, o + 1, none⟩ (.int .i64 x.s)).setCell ⟨g, o + 2, none⟩ (.int .i64 x.l)
theorem set3_cells {w : World} {g n : Nat} (h : FU w g n) (k : Nat) (hk : k < n) (x : GuR) : UCell (set3 w g (k * 3) x) g (k * 3) x ∧ ∀ o, o < k * 3 → (set3 w g (k * 3) x).cell? ⟨g, o, none⟩ = w.cell? ⟨g, o, none⟩ := by
  have f1 := h.setCell ⟨g, k * 3, none⟩ (.string x.t)
  have f2 := f1.setCell ⟨g, k * 3 + 1, none⟩ (.int .i64 x.s)
  obtain ⟨u0, d0⟩ := h.there (k * 3) (by omega)
  obtain ⟨u1, d1⟩ := f1.there (k * 3 + 1) (by omega)
  obtain ⟨u2, d2⟩ := f2.there (k * 3 + 2) (by omega)
  unfold set3
  refine ⟨⟨?_, ?_, ?_⟩, fun o ho => ?_⟩
  · rw [World.cell?_setCell_other _ _ _ _ (by simp), World.cell?_setCell_other _ _ _ _ (by simp)]; exact World.cell?_setCell_same _ _ _ d0
  · rw [World.cell?_setCell_other _ _ _ _ (by simp)]; exact World.cell?_setCell_same _ _ _ d1
  · exact World.cell?_setCell_same _ _ _ d2
  · rw [World.cell?_setCell_other _ _ _ _ (by first | (simp; done) | (simp; omega)), World.cell?_setCell_other _ _ _ _ (by first | (simp; done) | (simp; omega)), World.cell?_setCell_other _ _ _ _ (by first | (simp; done) | (simp; omega))]
theorem Cu.step {w wr w' : World} {os : List GuR} {k : Nat} (h : Cu w wr os k) (hk : k < os.length) (hb : Below wr.heap.size wr w') : Cu w (set3 w' w.heap.size (k * 3) (uAt os k)) os (k + 1) := by
  obtain ⟨done, room, hbw⟩ := h
  have lt := room.lt
  have r' := room.below hb
  obtain ⟨s1, s2⟩ := set3_cells r' k hk (uAt os k)
  refine ⟨fun i hi => ?_, ((r'.setCell _ _).setCell _ _).setCell _ _, ?_⟩
  · by_cases e : i = k
    · subst e; exact s1
    · have hik : i < k := by omega
      obtain ⟨c0, c1, c2⟩ := done i hik
      have q : ∀ o, w'.cell? ⟨w.heap.size, o, none⟩ = wr.cell? ⟨w.heap.size, o, none⟩ := fun o => hb.cell (p := ⟨w.heap.size, o, none⟩) lt
      exact ⟨by rw [s2 _ (by omega), q]; exact c0, by rw [s2 _ (by omega), q]; exact c1, by rw [s2 _ (by omega), q]; exact c2⟩
  · have hs := hb.size
    exact (((hbw.trans (hb.mono (by omega))).setCell (p := ⟨w.heap.size, k * 3, none⟩) (Nat.le_refl _) _).setCell (p := ⟨w.heap.size, k * 3 + 1, none⟩) (Nat.le_refl _) _).setCell (p := ⟨w.heap.size, k * 3 + 2, none⟩) (Nat.le_refl _) _
theorem Cu.made (w : World) (os : List GuR) (cs : Array Value) (hc : cs.size = os.length * 3) (T : TypeId) : Cu w (w.alloc (.cells cs T)) os 0 := by
  refine ⟨fun i hi => by omega, ⟨fun i hi => ?_, fun i => by simp, by simp⟩, (Below.refl _ _).alloc (Nat.le_refl _) _⟩
  rw [World.cell?_alloc_new]
  exact ⟨cs[i], by simp [hc, hi]⟩
theorem uMade : ∃ i z, Try.prog.info? 50 = some i ∧ i.zero = some z ∧ i.size = 3 ∧ i.bytes = 32 := by
  have q : (Try.prog.info? 50).map (fun i => (i.size, i.bytes, i.zero)) = some (3, 32, some (.agg #[.string ByteArray.empty, .int .i64 0, .int .i64 0])) := by kernel_rfl
  obtain ⟨i, hi, h⟩ := Option.map_eq_some_iff.1 q
  simp only [Prod.mk.injEq] at h
  exact ⟨i, _, hi, h.2.2, h.1, h.2.1⟩
set_option maxHeartbeats 4000000 in
theorem lawToGuests (a : Option Addr) (cap : Nat) (os : List GuR) (w : World) (h : IsGuests w a os) (hl : os.length ≤ 2000000) :
    Calls Try.prog 29 #[.slice a os.length cap] w fun e w' => e = .returned (.slice (some ⟨w.heap.size, 0, none⟩) os.length os.length) ∧ IsGuests w' (some ⟨w.heap.size, 0, none⟩) os ∧ Below w.heap.size w w' ∧ FU w' w.heap.size os.length := by
  obtain ⟨ti, tz, hi, hz, hsz, hby⟩ := uMade
  have hmk := fun w : World => run_make (P := Try.prog) w 40 50 ti tz Try.underlying40 hi hz .i64 .i64 (os.length : Int) (os.length : Int) (by omega) (by omega) (by rw [hby]; omega) (by omega)
  simp only [Int.toNat_natCast, hsz] at hmk
  have HC := Cu.made w os (madeCells tz.cells (os.length * 3)) (size_madeCells _ _) 50
  generalize madeCells tz.cells (os.length * 3) = cs at hmk HC
  have HCC : Hid (Cu w (w.alloc (.cells cs 50)) os 0) := HC
  have HT : Hid (IsGuests w a os) := h
  clear HC h hi hz hsz hby
  go_enter Try.func29, Try.ntmps29
  go_wp2
  go_loopw [4] (fun i wr => ∃ k : Nat, k ≤ os.length ∧ i = .int .i64 k ∧ Cu w wr os k) (fun i _ => os.length - (intOf i).toNat)
  case atStart => exact ⟨0, by omega, rfl, HCC.out⟩
  case round =>
    obtain ⟨k, hk, rfl, hcp⟩ := hrel
    clear hmk
    have HP : Hid (Cu w wr os k) := hcp
    have hlt0 := hcp.room.lt
    clear hcp
    by_cases hlt : k < os.length
    · have HT2 := HT.out
      rcases HT2 with HT2 | ⟨b, off, rfl, hbs, hc⟩
      · rw [HT2] at hlt; simp at hlt
      obtain ⟨c0, c1, c2⟩ := hc k hlt
      have d0 : wr.cell? ⟨b, off + k * 3, none⟩ = some (.string (uAt os k).t) := by rw [HP.out.hb.cell (p := ⟨b, off + k * 3, none⟩) hbs]; exact c0
      have d1 : wr.cell? ⟨b, off + k * 3 + 1, none⟩ = some (.int .i64 (uAt os k).s) := by rw [HP.out.hb.cell (p := ⟨b, off + k * 3 + 1, none⟩) hbs]; exact c1
      have d2 : wr.cell? ⟨b, off + k * 3 + 2, none⟩ = some (.int .i64 (uAt os k).l) := by rw [HP.out.hb.cell (p := ⟨b, off + k * 3 + 2, none⟩) hbs]; exact c2
      clear hc c0 c1 c2
      go_wp2_with fail
      refine (lawToGuest _ _).mono ?_
      rintro e w3 ⟨rfl, hb3⟩
      have hs3 := hb3.size
      have R3 := HP.out.room.below hb3
      obtain ⟨v0, e0⟩ := R3.there (k * 3) (by omega)
      obtain ⟨v1, e1⟩ := R3.there (k * 3 + 1) (by omega)
      obtain ⟨v2, e2⟩ := R3.there (k * 3 + 2) (by omega)
      have f0 := R3.free (k * 3)
      have f1 := R3.free (k * 3 + 1)
      have f2 := R3.free (k * 3 + 2)
      have FIN : Hid (Cu w (((w3.setCell ⟨w.heap.size, k * 3, none⟩ (.string (uAt os k).t)).setCell ⟨w.heap.size, k * 3 + 1, none⟩ (.int .i64 (uAt os k).s)).setCell ⟨w.heap.size, k * 3 + 2, none⟩ (.int .i64 (uAt os k).l)) os (k + 1)) := HP.out.step hlt hb3
      clear hb3 R3 d0 d1 d2
      go_wp2
      go_roundw
      case rel => exact ⟨k + 1, by omega, by go_num, FIN.out⟩
      case measure => simp [intOf]; omega
    · have hkk : k = os.length := by omega
      subst hkk
      have FIN : Hid (IsGuests wr (some ⟨w.heap.size, 0, none⟩) os) := .inr ⟨w.heap.size, 0, rfl, hlt0, fun i hi => by simpa using HP.out.done i hi⟩
      go_wp2
      go_ret
      exact ⟨rfl, FIN.out, HP.out.hb, HP.out.room⟩
theorem lawEqGuest (x : GuR) (w : World) :
    Calls Try.prog 56 #[.agg #[.string x.t, .int .i64 x.s, .int .i64 x.l], .agg #[.string x.t, .int .i64 x.s, .int .i64 x.l]] w fun e w' => e = .returned (.bool true) ∧ Below w.heap.size w w' := by
  go_enter Try.func56, Try.ntmps56
  go_wp2
  go_ret
  exact ⟨rfl, ((Below.refl _ _).alloc (Nat.le_refl _) _).alloc (by simp) _⟩
/-- One guest at two places. -/
abbrev TwoU (w : World) (b o b' o' : Nat) (t : ByteArray) (s l : Int) (W : World) : Prop :=
  W.cell? ⟨b, o, none⟩ = some (.string t) ∧ W.cell? ⟨b, o + 1, none⟩ = some (.int .i64 s) ∧ W.cell? ⟨b, o + 2, none⟩ = some (.int .i64 l) ∧ W.cell? ⟨b', o', none⟩ = some (.string t) ∧ W.cell? ⟨b', o' + 1, none⟩ = some (.int .i64 s) ∧ W.cell? ⟨b', o' + 2, none⟩ = some (.int .i64 l) ∧ Below w.heap.size w W
theorem TwoU.on {w W W' : World} {b o b' o' : Nat} {s l : Int} {t : ByteArray} (h : TwoU w b o b' o' t s l W) (hb : Below W.heap.size W W') : TwoU w b o b' o' t s l W' := by
  obtain ⟨c0, c1, c2, e0, e1, e2, B⟩ := h
  have l1 := cell_lt c0
  have l2 := cell_lt e0
  exact ⟨by rw [hb.cell (p := ⟨b, o, none⟩) l1]; exact c0, by rw [hb.cell (p := ⟨b, o + 1, none⟩) l1]; exact c1, by rw [hb.cell (p := ⟨b, o + 2, none⟩) l1]; exact c2, by rw [hb.cell (p := ⟨b', o', none⟩) l2]; exact e0, by rw [hb.cell (p := ⟨b', o' + 1, none⟩) l2]; exact e1, by rw [hb.cell (p := ⟨b', o' + 2, none⟩) l2]; exact e2, bstep B hb⟩
set_option maxRecDepth 100000 in
set_option maxHeartbeats 4000000 in
theorem lawEqGuests (a a' : Option Addr) (cap cap' : Nat) (os : List GuR) (w : World) (h : IsGuests w a os) (h' : IsGuests w a' os) (hl : os.length ≤ 2000000) :
    Calls Try.prog 31 #[.slice a os.length cap, .slice a' os.length cap'] w fun e w' => e = .returned (.bool true) ∧ Below w.heap.size w w' := by
  have H1 : Hid (IsGuests w a os) := h
  have H2 : Hid (IsGuests w a' os) := h'
  clear h h'
  go_enter Try.func31, Try.ntmps31
  go_wp2
  go_loopw [5] (fun i wr => ∃ k : Nat, k ≤ os.length ∧ i = .int .i64 k ∧ Below w.heap.size w wr) (fun i _ => os.length - (intOf i).toNat)
  case atStart => exact ⟨0, by omega, rfl, Below.refl _ _⟩
  case round =>
    obtain ⟨k, hk, rfl, hb⟩ := hrel
    by_cases hlt : k < os.length
    · have G1 := H1.out.below hb
      have G2 := H2.out.below hb
      rcases G1 with G1 | ⟨b, o, rfl, hbs, hc⟩
      · rw [G1] at hlt; simp at hlt
      rcases G2 with G2 | ⟨b', o', rfl, hbs', hc'⟩
      · rw [G2] at hlt; simp at hlt
      obtain ⟨c0, c1, c2⟩ := hc k hlt
      obtain ⟨e0, e1, e2⟩ := hc' k hlt
      have K : TwoU w b (o + k * 3) b' (o' + k * 3) (uAt os k).t (uAt os k).s (uAt os k).l wr := ⟨c0, c1, c2, e0, e1, e2, hb⟩
      have hi1 : (k : Int) < (os.length : Int) := by omega
      have hi0 : (0 : Int) ≤ (k : Int) := by omega
      clear hc hc'
      go_wp2
      go_region_held3 (fun w' => w'.cell? ⟨b, o + k * 3, none⟩ = some (.string (uAt os k).t) ∧ w'.cell? ⟨b, o + k * 3 + 1, none⟩ = some (.int .i64 (uAt os k).s) ∧ w'.cell? ⟨b, o + k * 3 + 2, none⟩ = some (.int .i64 (uAt os k).l) ∧ w'.cell? ⟨b', o' + k * 3, none⟩ = some (.string (uAt os k).t) ∧ w'.cell? ⟨b', o' + k * 3 + 1, none⟩ = some (.int .i64 (uAt os k).s) ∧ w'.cell? ⟨b', o' + k * 3 + 2, none⟩ = some (.int .i64 (uAt os k).l) ∧ Below w.heap.size w w')
        (first | assumption | exact TwoU.on K (Below.refl _ _).drew | exact TwoU.on (by assumption) hb3)
        (first | (go_at_call 56; refine (lawEqGuest _ _).mono ?_; rintro e w3 ⟨rfl, hb3⟩))
      go_wp2
      go_roundw
      case rel => exact ⟨k + 1, by omega, by go_num, by have h := (by assumption : TwoU w b (o + k * 3) b' (o' + k * 3) (uAt os k).t (uAt os k).s (uAt os k).l w3); exact h.2.2.2.2.2.2⟩
      case measure => simp [intOf]; omega
    · go_wp2
      go_ret
      exact ⟨rfl, hb⟩
end Go.Proofs.Ythmekfijpfghkaa
