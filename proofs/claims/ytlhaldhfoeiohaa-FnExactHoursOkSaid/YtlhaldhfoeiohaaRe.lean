/- The exact laws' own helpers over rules: copies. -/
import Derived.Test.YtlhaldhfoeiohaaRx
import Derived.Test.YtlhaldhfoeiohaaZEx
namespace Go.Proofs.Ytlhaldhfoeiohaa
open Go.RowKit
set_option linter.unusedVariables false
/-- Room for so many numbers, that may be written. -/
structure FI (w : World) (g n : Nat) : Prop where
  there : ∀ i, i < n → ∃ v, w.cell? ⟨g, i, none⟩ = some v
  free : ∀ i, w.frozen? ⟨g, i, none⟩ = false
  lt : g < w.heap.size
theorem FI.below {w w' : World} {g n : Nat} (h : FI w g n) (hb : Below w.heap.size w w') : FI w' g n := by
  refine ⟨fun i hi => ?_, fun i => ?_, Nat.lt_of_lt_of_le h.lt hb.size⟩
  · rw [hb.cell (p := ⟨g, i, none⟩) h.lt]; exact h.there i hi
  · rw [hb.frozen (p := ⟨g, i, none⟩) h.lt]; exact h.free i
theorem FI.setCell {w : World} {g n : Nat} (h : FI w g n) (p : Addr) (v : Value) : FI (w.setCell p v) g n := by
  refine ⟨fun i hi => ?_, fun i => by rw [World.frozen?_setCell]; exact h.free i, by simpa using h.lt⟩
  obtain ⟨u, hu⟩ := h.there i hi
  exact cell?_setCell_some hu
/-- Where numbers are being copied to. -/
structure Ci (w wr : World) (l : List Int) (k : Nat) : Prop where
  done : ∀ i, i < k → wr.cell? ⟨w.heap.size, i, none⟩ = some (.int .i64 (gi l i))
  room : FI wr w.heap.size l.length
  hb : Below w.heap.size w wr
theorem Ci.step {w wr : World} {l : List Int} {k : Nat} (h : Ci w wr l k) (hk : k < l.length) : Ci w (wr.setCell ⟨w.heap.size, k, none⟩ (.int .i64 (gi l k))) l (k + 1) := by
  obtain ⟨done, room, hbw⟩ := h
  refine ⟨fun i hi => ?_, room.setCell _ _, hbw.setCell (p := ⟨w.heap.size, k, none⟩) (Nat.le_refl _) _⟩
  by_cases hik : i = k
  · subst hik
    obtain ⟨v, hv⟩ := room.there i hk
    exact World.cell?_setCell_same _ _ _ hv
  · rw [World.cell?_setCell_other _ _ _ _ (by first | (simp; done) | (simp; omega))]; exact done i (by omega)
theorem Ci.made (w : World) (l : List Int) (cs : Array Value) (hc : cs.size = l.length) (T : TypeId) : Ci w (w.alloc (.cells cs T)) l 0 := by
  refine ⟨fun i hi => by omega, ⟨fun i hi => ?_, fun i => by simp, by simp⟩, (Below.refl _ _).alloc (Nat.le_refl _) _⟩
  rw [World.cell?_alloc_new]
  exact ⟨cs[i], by simp [hc, hi]⟩
theorem iMade : ∃ i z, Try.prog.info? 3 = some i ∧ i.zero = some z ∧ i.size = 1 ∧ i.bytes = 8 := by
  obtain ⟨i, hi, h⟩ := Option.map_eq_some_iff.1 intInfo
  simp only [Prod.mk.injEq] at h
  exact ⟨i, _, hi, h.1, h.2.1, h.2.2⟩
set_option maxHeartbeats 4000000 in
theorem lawToInts (a : Option Addr) (cap : Nat) (l : List Int) (w : World) (h : IsInts w a l) (hl : l.length ≤ 2000000) :
    Calls Try.prog 18 #[.slice a l.length cap] w fun e w' => e = .returned (.slice (some ⟨w.heap.size, 0, none⟩) l.length l.length) ∧ IsInts w' (some ⟨w.heap.size, 0, none⟩) l ∧ Below w.heap.size w w' ∧ FI w' w.heap.size l.length := by
  obtain ⟨ti, tz, hi, hz, hsz, hby⟩ := iMade
  have hmk := fun w : World => run_make (P := Try.prog) w 23 3 ti tz Try.underlying23 hi hz .i64 .i64 (l.length : Int) (l.length : Int) (by omega) (by omega) (by rw [hby]; omega) (by omega)
  simp only [Int.toNat_natCast, hsz] at hmk
  have HC := Ci.made w l (madeCells tz.cells (l.length * 1)) (by rw [size_madeCells]; omega) 3
  generalize madeCells tz.cells (l.length * 1) = cs at hmk HC
  have HCC : Hid (Ci w (w.alloc (.cells cs 3)) l 0) := HC
  have HT : Hid (IsInts w a l) := h
  clear HC h hi hz hsz hby
  go_enter Try.func18, Try.ntmps18
  go_wp2
  go_loopw [4] (fun i wr => ∃ k : Nat, k ≤ l.length ∧ i = .int .i64 k ∧ Ci w wr l k) (fun i _ => l.length - (intOf i).toNat)
  case atStart => exact ⟨0, by omega, rfl, HCC.out⟩
  case round =>
    obtain ⟨k, hk, rfl, hcp⟩ := hrel
    clear hmk
    have HP : Hid (Ci w wr l k) := hcp
    have hlt0 := hcp.room.lt
    clear hcp
    by_cases hlt : k < l.length
    · have I := HT.out.below HP.out.hb
      rcases I with I | ⟨b, off, rfl, hbs, hc⟩
      · rw [I] at hlt; simp at hlt
      have c0 := hc k hlt
      clear hc
      obtain ⟨v0, d0⟩ := HP.out.room.there k hlt
      have f0 := HP.out.room.free k
      have FIN : Hid (Ci w (wr.setCell ⟨w.heap.size, k, none⟩ (.int .i64 (gi l k))) l (k + 1)) := HP.out.step hlt
      go_wp2
      go_roundw
      case rel => exact ⟨k + 1, by omega, by go_num, FIN.out⟩
      case measure => simp [intOf]; omega
    · have hkk : k = l.length := by omega
      subst hkk
      have FIN : Hid (IsInts wr (some ⟨w.heap.size, 0, none⟩) l) := .inr ⟨w.heap.size, 0, rfl, hlt0, fun i hi => by simpa using HP.out.done i hi⟩
      go_wp2
      go_ret
      exact ⟨rfl, FIN.out, HP.out.hb, HP.out.room⟩
end Go.Proofs.Ytlhaldhfoeiohaa
