/- Lists of zones, as they lie in memory, and the exact laws' own helpers over them. -/
import Derived.Test.YtlhaldhfoeiohaaZKp
namespace Go.Proofs.Ytlhaldhfoeiohaa
open Go.RowKit
set_option linter.unusedVariables false
/-- A zone: its name, its shift and its turns. -/
structure ZR where
  s : ByteArray
  sh : Int
  ts : List (Int × Int)
def zr0 : ZR := ⟨ByteArray.empty, 0, []⟩
def zAt (zs : List ZR) (i : Nat) : ZR := zs.getD i zr0
/-- A zone in three cells. -/
def ZCell (w : World) (b o : Nat) (z : ZR) : Prop := ∃ a cap, w.cell? ⟨b, o, none⟩ = some (.string z.s) ∧ w.cell? ⟨b, o + 1, none⟩ = some (.int .i64 z.sh) ∧ w.cell? ⟨b, o + 2, none⟩ = some (.slice a z.ts.length cap) ∧ IsTurns w a z.ts
theorem ZCell.below {w w' : World} {b o : Nat} {z : ZR} (h : ZCell w b o z) (hb : Below w.heap.size w w') : ZCell w' b o z := by
  obtain ⟨a, cap, c0, c1, c2, t⟩ := h
  have lt := cell_lt c0
  refine ⟨a, cap, ?_, ?_, ?_, t.below (B := 0) hb⟩
  · rw [hb.cell (p := ⟨b, o, none⟩) lt]; exact c0
  · rw [hb.cell (p := ⟨b, o + 1, none⟩) lt]; exact c1
  · rw [hb.cell (p := ⟨b, o + 2, none⟩) lt]; exact c2
def IsZones (w : World) (a : Option Addr) (zs : List ZR) : Prop := zs = [] ∨ ∃ b off, a = some ⟨b, off, none⟩ ∧ b < w.heap.size ∧ ∀ i, i < zs.length → ZCell w b (off + i * 3) (zAt zs i)
theorem IsZones.below {w w' : World} {a : Option Addr} {zs : List ZR} (h : IsZones w a zs) (hb : Below w.heap.size w w') : IsZones w' a zs := by
  rcases h with h | ⟨b, off, h1, h2, h3⟩
  · exact .inl h
  · exact .inr ⟨b, off, h1, Nat.lt_of_lt_of_le h2 hb.size, fun i hi => (h3 i hi).below hb⟩
/-- How much of a size is left behind a zone. -/
def szl (left : Int) (m n : Nat) : Int := if (m : Int) + n ≤ left then left - (m : Int) - (n : Int) else -1
set_option maxHeartbeats 4000000 in
theorem lawSzZoneL (left : Int) (s : ByteArray) (sh : Int) (a : Option Addr) (cap n : Nat) (w : World) (hs : s.size ≤ maxLen) (hn : n ≤ maxLen) (l0 : 0 ≤ left) (l1 : left ≤ 1048576) :
    Calls Try.prog 12 #[.agg #[.string s, .int .i64 sh, .slice a n cap], .int .i64 left] w fun e w' => e = .returned (.int .i64 (szl left s.size n)) ∧ Below w.heap.size w w' := by
  unfold maxLen at hs hn
  have hb0 := (Below.refl w.heap.size w).alloc (Nat.le_refl _) (.cells #[.string s, .int .i64 sh, .slice a n cap] 39)
  by_cases h1 : (s.size : Int) ≤ left
  · by_cases h2 : (s.size : Int) + n ≤ left
    · have HZ : Hid (szl left s.size n = left - (s.size : Int) - (n : Int)) := if_pos h2
      go_enter Try.func12, Try.ntmps12
      go_wp2
      go_ret
      exact ⟨ret_i HZ.out.symm, hb0⟩
    · have HZ : Hid (szl left s.size n = -1) := if_neg h2
      have h3 : left - (s.size : Int) - (n : Int) < 0 := by omega
      go_enter Try.func12, Try.ntmps12
      go_wp2
      go_ret
      exact ⟨ret_i HZ.out.symm, hb0⟩
  · have HZ : Hid (szl left s.size n = -1) := if_neg (by omega)
    have h3 : left - (s.size : Int) < 0 := by omega
    go_enter Try.func12, Try.ntmps12
    go_wp2
    go_ret
    exact ⟨ret_i HZ.out.symm, hb0⟩
/-- Zones within a size. -/
def ZSmall (zs : List ZR) : Prop := zs.length ≤ 1048576 ∧ ∀ i, i < zs.length → (zAt zs i).s.size ≤ 1048576 ∧ (zAt zs i).ts.length ≤ 1048576
def ZWide (zs : List ZR) : Prop := zs.length ≤ maxLen ∧ ∀ i, i < zs.length → (zAt zs i).s.size ≤ maxLen ∧ (zAt zs i).ts.length ≤ maxLen
set_option maxHeartbeats 4000000 in
theorem lawSzZoneS (a : Option Addr) (cap : Nat) (zs : List ZR) (w : World) (h : IsZones w a zs) (hw : ZWide zs) :
    Calls Try.prog 4 #[.slice a zs.length cap, .int .i64 1048576] w fun e w' => (∃ r : Int, e = .returned (.int .i64 r) ∧ -1 ≤ r ∧ r ≤ 1048576 ∧ (0 ≤ r → ZSmall zs)) ∧ Below w.heap.size w w' := by
  have HZ : Hid (IsZones w a zs) := h
  have HW : Hid (ZWide zs) := hw
  have hlm : zs.length ≤ 9223372036854775807 := hw.1
  clear h hw
  by_cases hn : zs.length ≤ 1048576
  · have hl1 : ¬ (1048576 : Int) - (zs.length : Int) < 0 := by omega
    go_enter Try.func4, Try.ntmps4
    go_wp2
    go_loopw [1, 5] (fun l i wr => ∃ (k : Nat) (left : Int), k ≤ zs.length ∧ i = .int .i64 k ∧ l = .int .i64 left ∧ 0 ≤ left ∧ left ≤ 1048576 ∧ (∀ j, j < k → (zAt zs j).s.size ≤ 1048576 ∧ (zAt zs j).ts.length ≤ 1048576) ∧ Below w.heap.size w wr) (fun _ i _ => zs.length - (intOf i).toNat)
    case atStart => exact ⟨0, 1048576 - (zs.length : Int), by omega, rfl, rfl, by omega, by omega, fun j h => by omega, Below.refl _ _⟩
    case round =>
      obtain ⟨k, left, hk, rfl, rfl, g0, g1, ha, hb⟩ := hrel
      have HA : Hid (∀ j, j < k → (zAt zs j).s.size ≤ 1048576 ∧ (zAt zs j).ts.length ≤ 1048576) := ha
      clear ha
      by_cases hlt : k < zs.length
      · have HT2 := HZ.out
        rcases HT2 with HT2 | ⟨b, off, rfl, hbs, hc⟩
        · rw [HT2] at hlt; simp at hlt
        obtain ⟨za, zc, c0, c1, c2, -⟩ := hc k hlt
        have d0 : wr.cell? ⟨b, off + k * 3, none⟩ = some (.string (zAt zs k).s) := by rw [hb.cell (p := ⟨b, off + k * 3, none⟩) hbs]; exact c0
        have d1 : wr.cell? ⟨b, off + k * 3 + 1, none⟩ = some (.int .i64 (zAt zs k).sh) := by rw [hb.cell (p := ⟨b, off + k * 3 + 1, none⟩) hbs]; exact c1
        have d2 : wr.cell? ⟨b, off + k * 3 + 2, none⟩ = some (.slice za (zAt zs k).ts.length zc) := by rw [hb.cell (p := ⟨b, off + k * 3 + 2, none⟩) hbs]; exact c2
        clear c0 c1 c2 hc
        obtain ⟨w1, w2⟩ := HW.out.2 k hlt
        go_wp2_with fail
        refine (lawSzZoneL left _ _ _ _ _ _ w1 w2 g0 g1).mono ?_
        rintro e w3 ⟨rfl, hb3⟩
        have B3 := hb.trans (hb3.mono hb.size)
        clear hb hb3 d0 d1 d2
        by_cases h2 : ((zAt zs k).s.size : Int) + (zAt zs k).ts.length ≤ left
        · have hv : szl left (zAt zs k).s.size (zAt zs k).ts.length = left - ((zAt zs k).s.size : Int) - ((zAt zs k).ts.length : Int) := if_pos h2
          rw [hv]
          have FIN : Hid (∀ j, j < k + 1 → (zAt zs j).s.size ≤ 1048576 ∧ (zAt zs j).ts.length ≤ 1048576) := fun j hj => by
            by_cases e : j = k
            · subst e; omega
            · exact HA.out j (by omega)
          have q0 : ¬ left - ((zAt zs k).s.size : Int) - ((zAt zs k).ts.length : Int) < 0 := by omega
          have q1 : left - ((zAt zs k).s.size : Int) - ((zAt zs k).ts.length : Int) ≤ 1048576 := by omega
          clear hv h2
          generalize left - ((zAt zs k).s.size : Int) - ((zAt zs k).ts.length : Int) = l2 at q0 q1 ⊢
          go_wp2
          go_roundw
          case rel => exact ⟨k + 1, l2, by omega, by go_num, rfl, by omega, q1, FIN.out, B3⟩
          case measure => simp [intOf]; omega
        · have hv : szl left (zAt zs k).s.size (zAt zs k).ts.length = -1 := if_neg h2
          rw [hv]
          go_wp2
          go_ret
          exact ⟨⟨-1, rfl, by omega, by omega, fun h => by omega⟩, B3⟩
      · have hkk : k = zs.length := by omega
        subst hkk
        have FIN : Hid (ZSmall zs) := ⟨hn, HA.out⟩
        go_wp2
        go_ret
        exact ⟨⟨left, rfl, by omega, by omega, fun _ => FIN.out⟩, hb⟩
  · have hl1 : (1048576 : Int) - (zs.length : Int) < 0 := by omega
    go_enter Try.func4, Try.ntmps4
    go_wp2
    go_ret
    exact ⟨⟨-1, rfl, by omega, by omega, fun h => by omega⟩, Below.refl _ _⟩
end Go.Proofs.Ytlhaldhfoeiohaa
