/- The exact laws' own helpers over rules: copies. -/
import Derived.Test.YtlnhagkipmcioaaDoorRx
import Derived.Test.YtlnhagkipmcioaaDoorZEx
namespace Go.Proofs.YtlnhagkipmcioaaDoor
open Go.RowKit
set_option linter.unusedVariables false
theorem lawToBy (x y : Int) (w : World) :
    Calls Tryd.prog 24 #[.agg #[.int .i64 x, .int .i64 y]] w fun e w' => e = .returned (.agg #[.int .i64 x, .int .i64 y]) ∧ Below w.heap.size w w' := by
  go_enter Tryd.func24, Tryd.ntmps24
  go_wp2
  exact bodyPost_ret (v := .agg #[.int .i64 x, .int .i64 y]) (by simp [results, Tryd.results24, go_sem]) rfl ⟨rfl, (((Below.refl _ _).alloc (Nat.le_refl _) _).alloc (by simp) _).alloc (by simp; omega) _⟩
theorem byMade : ∃ i z, Tryd.prog.info? 48 = some i ∧ i.zero = some z ∧ i.size = 2 ∧ i.bytes = 16 := by
  have q : (Tryd.prog.info? 48).map (fun i => (i.size, i.bytes, i.zero)) = some (2, 16, some (.agg #[.int .i64 0, .int .i64 0])) := by kernel_rfl
  obtain ⟨i, hi, h⟩ := Option.map_eq_some_iff.1 q
  simp only [Prod.mk.injEq] at h
  exact ⟨i, _, hi, h.2.2, h.1, h.2.1⟩
set_option maxHeartbeats 4000000 in
theorem lawToBys (a : Option Addr) (cap : Nat) (ts : List (Int × Int)) (w : World) (h : IsTurns w a ts) (hl : ts.length ≤ 2000000) :
    Calls Tryd.prog 14 #[.slice a ts.length cap] w fun e w' => e = .returned (.slice (some ⟨w.heap.size, 0, none⟩) ts.length ts.length) ∧ IsTurns w' (some ⟨w.heap.size, 0, none⟩) ts ∧ Below w.heap.size w w' ∧ FT w' w.heap.size ts.length := by
  obtain ⟨ti, tz, hi, hz, hsz, hby⟩ := byMade
  have hmk := fun w : World => run_make (P := Tryd.prog) w 28 48 ti tz Tryd.underlying28 hi hz .i64 .i64 (ts.length : Int) (ts.length : Int) (by omega) (by omega) (by rw [hby]; omega) (by omega)
  simp only [Int.toNat_natCast, hsz] at hmk
  have HC := Cp.made w ts (madeCells tz.cells (ts.length * 2)) (size_madeCells _ _) 48
  generalize madeCells tz.cells (ts.length * 2) = cs at hmk HC
  have HCC : Hid (Cp w (w.alloc (.cells cs 48)) ts 0) := HC
  have HT : Hid (IsTurns w a ts) := h
  clear HC h hi hz hsz hby
  go_enter Tryd.func14, Tryd.ntmps14
  go_wp2
  go_loopw [4] (fun i wr => ∃ k : Nat, k ≤ ts.length ∧ i = .int .i64 k ∧ Cp w wr ts k) (fun i _ => ts.length - (intOf i).toNat)
  case atStart => exact ⟨0, by omega, rfl, HCC.out⟩
  case round =>
    obtain ⟨k, hk, rfl, hcp⟩ := hrel
    clear hmk
    have HP : Hid (Cp w wr ts k) := hcp
    have hlt0 := hcp.lt
    clear hcp
    by_cases hlt : k < ts.length
    · have HT2 := HT.out
      rcases HT2 with HT2 | ⟨b, off, rfl, hbs, hc⟩
      · rw [HT2] at hlt; simp at hlt
      have c0 : wr.cell? ⟨b, off + k * 2, none⟩ = some (.int .i64 (tAt ts k)) := by rw [HP.out.hb.cell (p := ⟨b, off + k * 2, none⟩) hbs]; exact (hc k hlt).1
      have c1 : wr.cell? ⟨b, off + k * 2 + 1, none⟩ = some (.int .i64 (tSh ts k)) := by rw [HP.out.hb.cell (p := ⟨b, off + k * 2 + 1, none⟩) hbs]; exact (hc k hlt).2
      clear hc
      go_wp2_with fail
      refine (lawToBy _ _ _).mono ?_
      rintro e w3 ⟨rfl, hb3⟩
      have hs3 := hb3.size
      obtain ⟨v0, d0⟩ := HP.out.there (k * 2) (by omega)
      obtain ⟨v1, d1⟩ := HP.out.there (k * 2 + 1) (by omega)
      have f0 := HP.out.free (k * 2)
      have f1 := HP.out.free (k * 2 + 1)
      rw [← hb3.cell (p := ⟨w.heap.size, k * 2, none⟩) hlt0] at d0
      rw [← hb3.cell (p := ⟨w.heap.size, k * 2 + 1, none⟩) hlt0] at d1
      rw [← hb3.frozen (p := ⟨w.heap.size, k * 2, none⟩) hlt0] at f0
      rw [← hb3.frozen (p := ⟨w.heap.size, k * 2 + 1, none⟩) hlt0] at f1
      have FIN : Hid (Cp w ((w3.setCell ⟨w.heap.size, k * 2, none⟩ (.int .i64 (tAt ts k))).setCell ⟨w.heap.size, k * 2 + 1, none⟩ (.int .i64 (tSh ts k))) ts (k + 1)) := HP.out.step hlt hb3
      clear hb3
      go_wp2
      go_roundw
      case rel => exact ⟨k + 1, by omega, by go_num, FIN.out⟩
      case measure => simp [intOf]; omega
    · have hkk : k = ts.length := by omega
      subst hkk
      have FIN : Hid (IsTurns wr (some ⟨w.heap.size, 0, none⟩) ts) := .inr ⟨w.heap.size, 0, rfl, hlt0, fun i hi => by simpa using HP.out.done i hi⟩
      go_wp2
      go_ret
      exact ⟨rfl, FIN.out, HP.out.hb, HP.out.there, HP.out.free, HP.out.lt⟩
/-- Room for so many numbers, that may be written. -/
structure FI (w : World) (g n : Nat) : Prop where
  there : ∀ i, i < n → ∃ v, w.cell? ⟨g, i, none⟩ = some v
  free : ∀ i, w.frozen? ⟨g, i, none⟩ = false
  lt : g < w.heap.size
theorem FI.below {w w' : World} {g n : Nat} (h : FI w g n) (hb : Below w.heap.size w w') : FI w' g n := by
  refine ⟨fun i hi => ?_, fun i => ?_, Nat.lt_of_lt_of_le h.lt hb.size⟩
  · rw [hb.cell (p := ⟨g, i, none⟩) h.lt]; exact h.there i hi
  · rw [hb.frozen (p := ⟨g, i, none⟩) h.lt]; exact h.free i
theorem FI.setCell {w : World} {g n : Nat} (h : FI w g n) (p : Addr) (v : Value) : FI (w.setCell p v) g n := by
  refine ⟨fun i hi => ?_, fun i => by rw [World.frozen?_setCell]; exact h.free i, by simpa using h.lt⟩
  obtain ⟨u, hu⟩ := h.there i hi
  exact cell?_setCell_some hu
/-- Where numbers are being copied to. -/
structure Ci (w wr : World) (l : List Int) (k : Nat) : Prop where
  done : ∀ i, i < k → wr.cell? ⟨w.heap.size, i, none⟩ = some (.int .i64 (gi l i))
  room : FI wr w.heap.size l.length
  hb : Below w.heap.size w wr
theorem Ci.step {w wr : World} {l : List Int} {k : Nat} (h : Ci w wr l k) (hk : k < l.length) : Ci w (wr.setCell ⟨w.heap.size, k, none⟩ (.int .i64 (gi l k))) l (k + 1) := by
  obtain ⟨done, room, hbw⟩ := h
  refine ⟨fun i hi => ?_, room.setCell _ _, hbw.setCell (p := ⟨w.heap.size, k, none⟩) (Nat.le_refl _) _⟩
  by_cases hik : i = k
  · subst hik
    obtain ⟨v, hv⟩ := room.there i hk
    exact World.cell?_setCell_same _ _ _ hv
  · rw [World.cell?_setCell_other _ _ _ _ (by first | (simp; done) | (simp; omega))]; exact done i (by omega)
theorem Ci.made (w : World) (l : List Int) (cs : Array Value) (hc : cs.size = l.length) (T : TypeId) : Ci w (w.alloc (.cells cs T)) l 0 := by
  refine ⟨fun i hi => by omega, ⟨fun i hi => ?_, fun i => by simp, by simp⟩, (Below.refl _ _).alloc (Nat.le_refl _) _⟩
  rw [World.cell?_alloc_new]
  exact ⟨cs[i], by simp [hc, hi]⟩
theorem iMade : ∃ i z, Tryd.prog.info? 3 = some i ∧ i.zero = some z ∧ i.size = 1 ∧ i.bytes = 8 := by
  obtain ⟨i, hi, h⟩ := Option.map_eq_some_iff.1 intInfo
  simp only [Prod.mk.injEq] at h
  exact ⟨i, _, hi, h.1, h.2.1, h.2.2⟩
set_option maxHeartbeats 4000000 in
theorem lawToInts (a : Option Addr) (cap : Nat) (l : List Int) (w : World) (h : IsInts w a l) (hl : l.length ≤ 2000000) :
    Calls Tryd.prog 15 #[.slice a l.length cap] w fun e w' => e = .returned (.slice (some ⟨w.heap.size, 0, none⟩) l.length l.length) ∧ IsInts w' (some ⟨w.heap.size, 0, none⟩) l ∧ Below w.heap.size w w' ∧ FI w' w.heap.size l.length := by
  obtain ⟨ti, tz, hi, hz, hsz, hby⟩ := iMade
  have hmk := fun w : World => run_make (P := Tryd.prog) w 23 3 ti tz Tryd.underlying23 hi hz .i64 .i64 (l.length : Int) (l.length : Int) (by omega) (by omega) (by rw [hby]; omega) (by omega)
  simp only [Int.toNat_natCast, hsz] at hmk
  have HC := Ci.made w l (madeCells tz.cells (l.length * 1)) (by rw [size_madeCells]; omega) 3
  generalize madeCells tz.cells (l.length * 1) = cs at hmk HC
  have HCC : Hid (Ci w (w.alloc (.cells cs 3)) l 0) := HC
  have HT : Hid (IsInts w a l) := h
  clear HC h hi hz hsz hby
  go_enter Tryd.func15, Tryd.ntmps15
  go_wp2
  go_loopw [4] (fun i wr => ∃ k : Nat, k ≤ l.length ∧ i = .int .i64 k ∧ Ci w wr l k) (fun i _ => l.length - (intOf i).toNat)
  case atStart => exact ⟨0, by omega, rfl, HCC.out⟩
  case round =>
    obtain ⟨k, hk, rfl, hcp⟩ := hrel
    clear hmk
    have HP : Hid (Ci w wr l k) := hcp
    have hlt0 := hcp.room.lt
    clear hcp
    by_cases hlt : k < l.length
    · have I := HT.out.below HP.out.hb
      rcases I with I | ⟨b, off, rfl, hbs, hc⟩
      · rw [I] at hlt; simp at hlt
      have c0 := hc k hlt
      clear hc
      obtain ⟨v0, d0⟩ := HP.out.room.there k hlt
      have f0 := HP.out.room.free k
      have FIN : Hid (Ci w (wr.setCell ⟨w.heap.size, k, none⟩ (.int .i64 (gi l k))) l (k + 1)) := HP.out.step hlt
      go_wp2
      go_roundw
      case rel => exact ⟨k + 1, by omega, by go_num, FIN.out⟩
      case measure => simp [intOf]; omega
    · have hkk : k = l.length := by omega
      subst hkk
      have FIN : Hid (IsInts wr (some ⟨w.heap.size, 0, none⟩) l) := .inr ⟨w.heap.size, 0, rfl, hlt0, fun i hi => by simpa using HP.out.done i hi⟩
      go_wp2
      go_ret
      exact ⟨rfl, FIN.out, HP.out.hb, HP.out.room⟩
end Go.Proofs.YtlnhagkipmcioaaDoor
