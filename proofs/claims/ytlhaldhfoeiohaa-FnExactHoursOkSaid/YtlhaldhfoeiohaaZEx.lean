/- The exact laws' own helpers over zones. -/
import Derived.Test.YtlhaldhfoeiohaaZn
import Derived.Laws.MakeOwn
import Derived.Deep.LoopGhost
namespace Go.Proofs.Ytlhaldhfoeiohaa
open Go.RowKit
set_option linter.unusedVariables false
theorem lawToTurn (x y : Int) (w : World) :
    Calls Try.prog 41 #[.agg #[.int .i64 x, .int .i64 y]] w fun e w' => e = .returned (.agg #[.int .i64 x, .int .i64 y]) ∧ Below w.heap.size w w' := by
  go_enter Try.func41, Try.ntmps41
  go_wp2
  exact bodyPost_ret (v := .agg #[.int .i64 x, .int .i64 y]) (by simp [results, Try.results41, go_sem]) rfl ⟨rfl, (((Below.refl _ _).alloc (Nat.le_refl _) _).alloc (by simp) _).alloc (by simp; omega) _⟩
/-- Room for so many turns, that may be written. -/
structure FT (w : World) (g n : Nat) : Prop where
  there : ∀ i, i < n * 2 → ∃ v, w.cell? ⟨g, i, none⟩ = some v
  free : ∀ i, w.frozen? ⟨g, i, none⟩ = false
  lt : g < w.heap.size
theorem FT.setCell {w : World} {g n : Nat} (h : FT w g n) (p : Addr) (v : Value) : FT (w.setCell p v) g n := by
  refine ⟨fun i hi => ?_, fun i => by rw [World.frozen?_setCell]; exact h.free i, by simpa using h.lt⟩
  obtain ⟨u, hu⟩ := h.there i hi
  exact cell?_setCell_some hu
theorem FT.below {w w' : World} {g n : Nat} (h : FT w g n) (hb : Below w.heap.size w w') : FT w' g n := by
  refine ⟨fun i hi => ?_, fun i => ?_, Nat.lt_of_lt_of_le h.lt hb.size⟩
  · rw [hb.cell (p := ⟨g, i, none⟩) h.lt]; exact h.there i hi
  · rw [hb.frozen (p := ⟨g, i, none⟩) h.lt]; exact h.free i
/-- Where turns are being copied to. -/
structure Cp (w wr : World) (ts : List (Int × Int)) (k : Nat) : Prop where
  lt : w.heap.size < wr.heap.size
  done : ∀ i, i < k → wr.cell? ⟨w.heap.size, i * 2, none⟩ = some (.int .i64 (tAt ts i)) ∧ wr.cell? ⟨w.heap.size, i * 2 + 1, none⟩ = some (.int .i64 (tSh ts i))
  there : ∀ i, i < ts.length * 2 → ∃ v, wr.cell? ⟨w.heap.size, i, none⟩ = some v
  free : ∀ i, wr.frozen? ⟨w.heap.size, i, none⟩ = false
  hb : Below w.heap.size w wr
theorem Cp.step {w wr w' : World} {ts : List (Int × Int)} {k : Nat} (h : Cp w wr ts k) (hk : k < ts.length) (hb : Below wr.heap.size wr w') :
    Cp w ((w'.setCell ⟨w.heap.size, k * 2, none⟩ (.int .i64 (tAt ts k))).setCell ⟨w.heap.size, k * 2 + 1, none⟩ (.int .i64 (tSh ts k))) ts (k + 1) := by
  obtain ⟨lt, done, there, free, hbw⟩ := h
  have hsz := hb.size
  have cc : ∀ o, w'.cell? ⟨w.heap.size, o, none⟩ = wr.cell? ⟨w.heap.size, o, none⟩ := fun o => hb.cell (p := ⟨w.heap.size, o, none⟩) lt
  have c0 : ∃ v, w'.cell? ⟨w.heap.size, k * 2, none⟩ = some v := by rw [cc]; exact there _ (by omega)
  have c1 : ∃ v, w'.cell? ⟨w.heap.size, k * 2 + 1, none⟩ = some v := by rw [cc]; exact there _ (by omega)
  obtain ⟨v0, c0⟩ := c0
  obtain ⟨v1, c1⟩ := c1
  refine ⟨by simp; omega, fun i hi => ?_, fun i hi => ?_, fun i => ?_, ?_⟩
  · by_cases hik : i = k
    · subst hik
      constructor
      · rw [World.cell?_setCell_other _ _ _ _ (by simp)]; exact World.cell?_setCell_same _ _ _ c0
      · exact World.cell?_setCell_same _ _ _ (u := v1) (by rw [World.cell?_setCell_other _ _ _ _ (by simp)]; exact c1)
    · have hlt : i < k := by omega
      constructor
      · rw [World.cell?_setCell_other _ _ _ _ (by first | (simp; done) | (simp; omega)), World.cell?_setCell_other _ _ _ _ (by first | (simp; done) | (simp; omega)), cc]; exact (done i hlt).1
      · rw [World.cell?_setCell_other _ _ _ _ (by first | (simp; done) | (simp; omega)), World.cell?_setCell_other _ _ _ _ (by first | (simp; done) | (simp; omega)), cc]; exact (done i hlt).2
  · by_cases e1 : i = k * 2 + 1
    · subst e1; exact ⟨_, World.cell?_setCell_same _ _ _ (u := v1) (by rw [World.cell?_setCell_other _ _ _ _ (by simp)]; exact c1)⟩
    · by_cases e0 : i = k * 2
      · subst e0; rw [World.cell?_setCell_other _ _ _ _ (by simp)]; exact ⟨_, World.cell?_setCell_same _ _ _ c0⟩
      · rw [World.cell?_setCell_other _ _ _ _ (by first | (simp; done) | (simp; omega)), World.cell?_setCell_other _ _ _ _ (by first | (simp; done) | (simp; omega)), cc]; exact there i hi
  · rw [World.frozen?_setCell, World.frozen?_setCell, hb.frozen (p := ⟨w.heap.size, i, none⟩) lt]; exact free i
  · exact ((hbw.trans (hb.mono (by omega))).setCell (p := ⟨w.heap.size, k * 2, none⟩) (Nat.le_refl _) _).setCell (p := ⟨w.heap.size, k * 2 + 1, none⟩) (Nat.le_refl _) _
theorem Cp.made (w : World) (ts : List (Int × Int)) (cs : Array Value) (hc : cs.size = ts.length * 2) (T : TypeId) : Cp w (w.alloc (.cells cs T)) ts 0 := by
  refine ⟨by simp, fun i hi => by omega, fun i hi => ?_, fun i => by simp, (Below.refl _ _).alloc (Nat.le_refl _) _⟩
  rw [World.cell?_alloc_new]
  exact ⟨cs[i], by simp [hc, hi]⟩
theorem tInfo : (Try.prog.info? 66).map (fun i => (i.size, i.bytes, i.zero)) = some (2, 16, some (.agg #[.int .i64 0, .int .i64 0])) := by kernel_rfl
theorem tMade : ∃ i z, Try.prog.info? 66 = some i ∧ i.zero = some z ∧ i.size = 2 ∧ i.bytes = 16 := by
  obtain ⟨i, hi, h⟩ := Option.map_eq_some_iff.1 tInfo
  simp only [Prod.mk.injEq] at h
  exact ⟨i, _, hi, h.2.2, h.1, h.2.1⟩
set_option maxHeartbeats 4000000 in
theorem lawToTurnsS (a : Option Addr) (cap : Nat) (ts : List (Int × Int)) (w : World) (h : IsTurns w a ts) (hl : ts.length ≤ 2000000) :
    Calls Try.prog 26 #[.slice a ts.length cap] w fun e w' => e = .returned (.slice (some ⟨w.heap.size, 0, none⟩) ts.length ts.length) ∧ IsTurns w' (some ⟨w.heap.size, 0, none⟩) ts ∧ Below w.heap.size w w' ∧ FT w' w.heap.size ts.length := by
  obtain ⟨ti, tz, hi, hz, hsz, hby⟩ := tMade
  have hmk := fun w : World => run_make (P := Try.prog) w 41 66 ti tz Try.underlying41 hi hz .i64 .i64 (ts.length : Int) (ts.length : Int) (by omega) (by omega) (by rw [hby]; omega) (by omega)
  simp only [Int.toNat_natCast, hsz] at hmk
  have HC := Cp.made w ts (madeCells tz.cells (ts.length * 2)) (size_madeCells _ _) 66
  generalize madeCells tz.cells (ts.length * 2) = cs at hmk HC
  have HCC : Hid (Cp w (w.alloc (.cells cs 66)) ts 0) := HC
  have HT : Hid (IsTurns w a ts) := h
  clear HC h hi hz hsz hby
  go_enter Try.func26, Try.ntmps26
  go_wp2
  go_loopw [4] (fun i wr => ∃ k : Nat, k ≤ ts.length ∧ i = .int .i64 k ∧ Cp w wr ts k) (fun i _ => ts.length - (intOf i).toNat)
  case atStart => exact ⟨0, by omega, rfl, HCC.out⟩
  case round =>
    obtain ⟨k, hk, rfl, hcp⟩ := hrel
    clear hmk
    have HP : Hid (Cp w wr ts k) := hcp
    have hlt0 := hcp.lt
    clear hcp
    by_cases hlt : k < ts.length
    · have HT2 := HT.out
      rcases HT2 with HT2 | ⟨b, off, rfl, hbs, hc⟩
      · rw [HT2] at hlt; simp at hlt
      have c0 : wr.cell? ⟨b, off + k * 2, none⟩ = some (.int .i64 (tAt ts k)) := by rw [HP.out.hb.cell (p := ⟨b, off + k * 2, none⟩) hbs]; exact (hc k hlt).1
      have c1 : wr.cell? ⟨b, off + k * 2 + 1, none⟩ = some (.int .i64 (tSh ts k)) := by rw [HP.out.hb.cell (p := ⟨b, off + k * 2 + 1, none⟩) hbs]; exact (hc k hlt).2
      clear hc
      go_wp2_with fail
      refine (lawToTurn _ _ _).mono ?_
      rintro e w3 ⟨rfl, hb3⟩
      have hs3 := hb3.size
      obtain ⟨v0, d0⟩ := HP.out.there (k * 2) (by omega)
      obtain ⟨v1, d1⟩ := HP.out.there (k * 2 + 1) (by omega)
      have f0 := HP.out.free (k * 2)
      have f1 := HP.out.free (k * 2 + 1)
      rw [← hb3.cell (p := ⟨w.heap.size, k * 2, none⟩) hlt0] at d0
      rw [← hb3.cell (p := ⟨w.heap.size, k * 2 + 1, none⟩) hlt0] at d1
      rw [← hb3.frozen (p := ⟨w.heap.size, k * 2, none⟩) hlt0] at f0
      rw [← hb3.frozen (p := ⟨w.heap.size, k * 2 + 1, none⟩) hlt0] at f1
      have FIN : Hid (Cp w ((w3.setCell ⟨w.heap.size, k * 2, none⟩ (.int .i64 (tAt ts k))).setCell ⟨w.heap.size, k * 2 + 1, none⟩ (.int .i64 (tSh ts k))) ts (k + 1)) := HP.out.step hlt hb3
      clear hb3
      go_wp2
      go_roundw
      case rel => exact ⟨k + 1, by omega, by go_num, FIN.out⟩
      case measure => simp [intOf]; omega
    · have hkk : k = ts.length := by omega
      subst hkk
      have FIN : Hid (IsTurns wr (some ⟨w.heap.size, 0, none⟩) ts) := .inr ⟨w.heap.size, 0, rfl, hlt0, fun i hi => by simpa using HP.out.done i hi⟩
      go_wp2
      go_ret
      exact ⟨rfl, FIN.out, HP.out.hb, HP.out.there, HP.out.free, HP.out.lt⟩
theorem lawToTurns (a : Option Addr) (cap : Nat) (ts : List (Int × Int)) (w : World) (h : IsTurns w a ts) (hl : ts.length ≤ 2000000) :
    Calls Try.prog 26 #[.slice a ts.length cap] w fun e w' => e = .returned (.slice (some ⟨w.heap.size, 0, none⟩) ts.length ts.length) ∧ IsTurns w' (some ⟨w.heap.size, 0, none⟩) ts ∧ Below w.heap.size w w' :=
  (lawToTurnsS a cap ts w h hl).mono fun e w' ⟨a, b, c, _⟩ => ⟨a, b, c⟩
theorem IsTurns.setCell {w : World} {g : Nat} {ts : List (Int × Int)} (h : IsTurns w (some ⟨g, 0, none⟩) ts) {p : Addr} (hp : p.block ≠ g) (v : Value) : IsTurns (w.setCell p v) (some ⟨g, 0, none⟩) ts := by
  rcases h with h | ⟨b, off, h1, h2, h3⟩
  · exact .inl h
  · simp only [Option.some.injEq, Addr.mk.injEq] at h1
    obtain ⟨rfl, rfl, _⟩ := h1
    refine .inr ⟨g, 0, rfl, by simpa using h2, fun i hi => ?_⟩
    rw [World.cell?_of_block (w := w) (Below.heap_setCell _ _ _ _ (Ne.symm hp)), World.cell?_of_block (w := w) (Below.heap_setCell _ _ _ _ (Ne.symm hp))]
    exact h3 i hi
set_option maxHeartbeats 4000000 in
theorem lawToZoneS (s : ByteArray) (sh : Int) (a : Option Addr) (cap : Nat) (ts : List (Int × Int)) (w : World) (h : IsTurns w a ts) (hl : ts.length ≤ 2000000) :
    Calls Try.prog 17 #[.agg #[.string s, .int .i64 sh, .slice a ts.length cap]] w fun e w' => ∃ g, e = .returned (.agg #[.string s, .int .i64 sh, .slice (some ⟨g, 0, none⟩) ts.length ts.length]) ∧ IsTurns w' (some ⟨g, 0, none⟩) ts ∧ Below w.heap.size w w' ∧ w.heap.size ≤ g ∧ FT w' g ts.length := by
  have HT : Hid (IsTurns w a ts) := h
  clear h
  go_enter Try.func17, Try.ntmps17
  go_wp2_with fail
  have hb0 := ((((Below.refl w.heap.size w).alloc (Nat.le_refl _) (.cells #[.string s, .int .i64 sh, .slice a ts.length cap] 39)).alloc (by simp) (.cells #[.string ByteArray.empty, .int .i64 0, .slice none 0 0] 43)).alloc (by simp; omega) (.cells #[.string s, .int .i64 sh, .slice none 0 0] 43))
  refine (lawToTurnsS a cap ts _ (HT.out.below (B := 0) hb0) hl).mono ?_
  rintro e w1 ⟨rfl, ht1, hb1, ft⟩
  have hbw := hb0.trans (hb1.mono (by simp; omega))
  obtain ⟨hc, hf⟩ := bcell hb1
  have hs := hb1.size
  simp at hs
  have hs1 : w.heap.size + 1 + 1 < w1.heap.size := by omega
  have hs2 : w.heap.size + 1 < w1.heap.size := by omega
  have c0 : w1.cell? ⟨w.heap.size + 1 + 1, 0, none⟩ = some (.string s) := by rw [hc _ _ (by simp)]; simp [World.cell?_alloc_at]
  have c1 : w1.cell? ⟨w.heap.size + 1 + 1, 1, none⟩ = some (.int .i64 sh) := by rw [hc _ _ (by simp)]; simp [World.cell?_alloc_at]
  have c2 : w1.cell? ⟨w.heap.size + 1 + 1, 2, none⟩ = some (.slice none 0 0) := by rw [hc _ _ (by simp)]; simp [World.cell?_alloc_at]
  have d0 : w1.cell? ⟨w.heap.size + 1, 0, none⟩ = some (.string ByteArray.empty) := by rw [hc _ _ (by simp)]; simp [World.cell?_alloc_at, World.cell?_alloc_past]
  have d1 : w1.cell? ⟨w.heap.size + 1, 1, none⟩ = some (.int .i64 0) := by rw [hc _ _ (by simp)]; simp [World.cell?_alloc_at, World.cell?_alloc_past]
  have d2 : w1.cell? ⟨w.heap.size + 1, 2, none⟩ = some (.slice none 0 0) := by rw [hc _ _ (by simp)]; simp [World.cell?_alloc_at, World.cell?_alloc_past]
  have f2 : w1.frozen? ⟨w.heap.size + 1 + 1, 2, none⟩ = false := by rw [hf _ _ (by simp)]; simp [go_sem]
  have g0 : w1.frozen? ⟨w.heap.size + 1, 0, none⟩ = false := by rw [hf _ _ (by simp)]; simp [go_sem]
  have g1 : w1.frozen? ⟨w.heap.size + 1, 1, none⟩ = false := by rw [hf _ _ (by simp)]; simp [go_sem]
  have g2 : w1.frozen? ⟨w.heap.size + 1, 2, none⟩ = false := by rw [hf _ _ (by simp)]; simp [go_sem]
  simp only [World.size_alloc] at ht1 ft ⊢
  have HFT : Hid (FT w1 (w.heap.size + 1 + 1 + 1) ts.length) := ft
  clear ft
  clear hc hf hb1 hb0
  go_wp2
  refine bodyPost_ret (v := .agg #[.string s, .int .i64 sh, .slice (some ⟨w.heap.size + 1 + 1 + 1, 0, none⟩) ts.length ts.length]) (by simp [results, Try.results17, go_sem, *]) rfl ⟨_, rfl, ?_, ?_, by omega, (((HFT.out.setCell _ _).setCell _ _).setCell _ _).setCell _ _⟩
  · exact (((ht1.setCell (p := ⟨w.heap.size + 1 + 1, 2, none⟩) (by simp) _).setCell (p := ⟨w.heap.size + 1, 0, none⟩) (by simp) _).setCell (p := ⟨w.heap.size + 1, 1, none⟩) (by simp) _).setCell (p := ⟨w.heap.size + 1, 2, none⟩) (by simp) _
  · exact (((hbw.setCell (p := ⟨w.heap.size + 1 + 1, 2, none⟩) (by simp; omega) _).setCell (p := ⟨w.heap.size + 1, 0, none⟩) (by simp) _).setCell (p := ⟨w.heap.size + 1, 1, none⟩) (by simp) _).setCell (p := ⟨w.heap.size + 1, 2, none⟩) (by simp) _
theorem lawToZone (s : ByteArray) (sh : Int) (a : Option Addr) (cap : Nat) (ts : List (Int × Int)) (w : World) (h : IsTurns w a ts) (hl : ts.length ≤ 2000000) :
    Calls Try.prog 17 #[.agg #[.string s, .int .i64 sh, .slice a ts.length cap]] w fun e w' => ∃ g, e = .returned (.agg #[.string s, .int .i64 sh, .slice (some ⟨g, 0, none⟩) ts.length ts.length]) ∧ IsTurns w' (some ⟨g, 0, none⟩) ts ∧ Below w.heap.size w w' :=
  (lawToZoneS s sh a cap ts w h hl).mono fun e w' ⟨g, a, b, c, _⟩ => ⟨g, a, b, c⟩
end Go.Proofs.Ytlhaldhfoeiohaa
