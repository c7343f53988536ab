/- The exact laws' own helpers over spans: copied, held against each other, and their size. -/
import Derived.Test.YtkbgbccehijckaaSa
import Derived.Test.YtkbgbccehijckaaZEx
import Derived.Deep.RegionHeld3
namespace Go.Proofs.Ytkbgbccehijckaa
open Go.RowKit
set_option linter.unusedVariables false
theorem lawToSpan (x y : Int) (w : World) :
    Calls Try.prog 40 #[.agg #[.int .i64 x, .int .i64 y]] w fun e w' => e = .returned (.agg #[.int .i64 x, .int .i64 y]) ∧ Below w.heap.size w w' := by
  go_enter Try.func40, Try.ntmps40
  go_wp2
  exact bodyPost_ret (v := .agg #[.int .i64 x, .int .i64 y]) (by simp [results, Try.results40, go_sem]) rfl ⟨rfl, (((Below.refl _ _).alloc (Nat.le_refl _) _).alloc (by simp) _).alloc (by simp; omega) _⟩
theorem sInfo : (Try.prog.info? 51).map (fun i => (i.size, i.bytes, i.zero)) = some (2, 16, some (.agg #[.int .i64 0, .int .i64 0])) := by kernel_rfl
theorem sMade : ∃ i z, Try.prog.info? 51 = some i ∧ i.zero = some z ∧ i.size = 2 ∧ i.bytes = 16 := by
  obtain ⟨i, hi, h⟩ := Option.map_eq_some_iff.1 sInfo
  simp only [Prod.mk.injEq] at h
  exact ⟨i, _, hi, h.2.2, h.1, h.2.1⟩
set_option maxHeartbeats 4000000 in
theorem lawToSpans (a : Option Addr) (cap : Nat) (ts : List (Int × Int)) (w : World) (h : IsTurns w a ts) (hl : ts.length ≤ 2000000) :
    Calls Try.prog 15 #[.slice a ts.length cap] w fun e w' => e = .returned (.slice (some ⟨w.heap.size, 0, none⟩) ts.length ts.length) ∧ IsTurns w' (some ⟨w.heap.size, 0, none⟩) ts ∧ Below w.heap.size w w' ∧ FT w' w.heap.size ts.length := by
  obtain ⟨ti, tz, hi, hz, hsz, hby⟩ := sMade
  have hmk := fun w : World => run_make (P := Try.prog) w 24 51 ti tz Try.underlying24 hi hz .i64 .i64 (ts.length : Int) (ts.length : Int) (by omega) (by omega) (by rw [hby]; omega) (by omega)
  simp only [Int.toNat_natCast, hsz] at hmk
  have HC := Cp.made w ts (madeCells tz.cells (ts.length * 2)) (size_madeCells _ _) 51
  generalize madeCells tz.cells (ts.length * 2) = cs at hmk HC
  have HCC : Hid (Cp w (w.alloc (.cells cs 51)) ts 0) := HC
  have HT : Hid (IsTurns w a ts) := h
  clear HC h hi hz hsz hby
  go_enter Try.func15, Try.ntmps15
  go_wp2
  go_loopw [4] (fun i wr => ∃ k : Nat, k ≤ ts.length ∧ i = .int .i64 k ∧ Cp w wr ts k) (fun i _ => ts.length - (intOf i).toNat)
  case atStart => exact ⟨0, by omega, rfl, HCC.out⟩
  case round =>
    obtain ⟨k, hk, rfl, hcp⟩ := hrel
    clear hmk
    have HP : Hid (Cp w wr ts k) := hcp
    have hlt0 := hcp.lt
    clear hcp
    by_cases hlt : k < ts.length
    · have HT2 := HT.out
      rcases HT2 with HT2 | ⟨b, off, rfl, hbs, hc⟩
      · rw [HT2] at hlt; simp at hlt
      have c0 : wr.cell? ⟨b, off + k * 2, none⟩ = some (.int .i64 (tAt ts k)) := by rw [HP.out.hb.cell (p := ⟨b, off + k * 2, none⟩) hbs]; exact (hc k hlt).1
      have c1 : wr.cell? ⟨b, off + k * 2 + 1, none⟩ = some (.int .i64 (tSh ts k)) := by rw [HP.out.hb.cell (p := ⟨b, off + k * 2 + 1, none⟩) hbs]; exact (hc k hlt).2
      clear hc
      go_wp2_with fail
      refine (lawToSpan _ _ _).mono ?_
      rintro e w3 ⟨rfl, hb3⟩
      have hs3 := hb3.size
      obtain ⟨v0, d0⟩ := HP.out.there (k * 2) (by omega)
      obtain ⟨v1, d1⟩ := HP.out.there (k * 2 + 1) (by omega)
      have f0 := HP.out.free (k * 2)
      have f1 := HP.out.free (k * 2 + 1)
      rw [← hb3.cell (p := ⟨w.heap.size, k * 2, none⟩) hlt0] at d0
      rw [← hb3.cell (p := ⟨w.heap.size, k * 2 + 1, none⟩) hlt0] at d1
      rw [← hb3.frozen (p := ⟨w.heap.size, k * 2, none⟩) hlt0] at f0
      rw [← hb3.frozen (p := ⟨w.heap.size, k * 2 + 1, none⟩) hlt0] at f1
      have FIN : Hid (Cp w ((w3.setCell ⟨w.heap.size, k * 2, none⟩ (.int .i64 (tAt ts k))).setCell ⟨w.heap.size, k * 2 + 1, none⟩ (.int .i64 (tSh ts k))) ts (k + 1)) := HP.out.step hlt hb3
      clear hb3
      go_wp2
      go_roundw
      case rel => exact ⟨k + 1, by omega, by go_num, FIN.out⟩
      case measure => simp [intOf]; omega
    · have hkk : k = ts.length := by omega
      subst hkk
      have FIN : Hid (IsTurns wr (some ⟨w.heap.size, 0, none⟩) ts) := .inr ⟨w.heap.size, 0, rfl, hlt0, fun i hi => by simpa using HP.out.done i hi⟩
      go_wp2
      go_ret
      exact ⟨rfl, FIN.out, HP.out.hb, HP.out.there, HP.out.free, HP.out.lt⟩
theorem lawEqSpan (x y : Int) (w : World) :
    Calls Try.prog 45 #[.agg #[.int .i64 x, .int .i64 y], .agg #[.int .i64 x, .int .i64 y]] w fun e w' => e = .returned (.bool true) ∧ Below w.heap.size w w' := by
  go_enter Try.func45, Try.ntmps45
  go_wp2
  go_ret
  exact ⟨rfl, ((Below.refl _ _).alloc (Nat.le_refl _) _).alloc (by simp) _⟩
abbrev Tws (w : World) (b o b' o' : Nat) (x y : Int) (w' : World) : Prop := w'.cell? ⟨b, o, none⟩ = some (.int .i64 x) ∧ w'.cell? ⟨b, o + 1, none⟩ = some (.int .i64 y) ∧ w'.cell? ⟨b', o', none⟩ = some (.int .i64 x) ∧ w'.cell? ⟨b', o' + 1, none⟩ = some (.int .i64 y) ∧ Below w.heap.size w w'
theorem Tws.on {w W w' : World} {b o b' o' : Nat} {x y : Int} (h : Tws w b o b' o' x y W) (hb : Below W.heap.size W w') : Tws w b o b' o' x y w' := by
  obtain ⟨c0, c1, c2, c3, B⟩ := h
  refine ⟨?_, ?_, ?_, ?_, B.trans (hb.mono B.size)⟩
  · rw [hb.cell (p := ⟨b, o, none⟩) (cell_lt c0)]; exact c0
  · rw [hb.cell (p := ⟨b, o + 1, none⟩) (cell_lt c0)]; exact c1
  · rw [hb.cell (p := ⟨b', o', none⟩) (cell_lt c2)]; exact c2
  · rw [hb.cell (p := ⟨b', o' + 1, none⟩) (cell_lt c2)]; exact c3
set_option maxRecDepth 100000 in
set_option maxHeartbeats 4000000 in
theorem lawEqSpans (a a' : Option Addr) (cap cap' : Nat) (ts : List (Int × Int)) (w : World) (h : IsTurns w a ts) (h' : IsTurns w a' ts) (hl : ts.length ≤ 2000000) :
    Calls Try.prog 17 #[.slice a ts.length cap, .slice a' ts.length cap'] w fun e w' => e = .returned (.bool true) ∧ Below w.heap.size w w' := by
  have H1 : Hid (IsTurns w a ts) := h
  have H2 : Hid (IsTurns w a' ts) := h'
  clear h h'
  go_enter Try.func17, Try.ntmps17
  go_wp2
  go_loopw [5] (fun i wr => ∃ k : Nat, k ≤ ts.length ∧ i = .int .i64 k ∧ Below w.heap.size w wr) (fun i _ => ts.length - (intOf i).toNat)
  case atStart => exact ⟨0, by omega, rfl, Below.refl _ _⟩
  case round =>
    obtain ⟨k, hk, rfl, hb⟩ := hrel
    by_cases hlt : k < ts.length
    · have G1 := H1.out
      have G2 := H2.out
      rcases G1 with G1 | ⟨b, o, rfl, hbs, hc⟩
      · rw [G1] at hlt; simp at hlt
      rcases G2 with G2 | ⟨b', o', rfl, hbs', hc'⟩
      · rw [G2] at hlt; simp at hlt
      have c0 : wr.cell? ⟨b, o + k * 2, none⟩ = some (.int .i64 (tAt ts k)) := by rw [hb.cell (p := ⟨b, o + k * 2, none⟩) hbs]; exact (hc k hlt).1
      have c1 : wr.cell? ⟨b, o + k * 2 + 1, none⟩ = some (.int .i64 (tSh ts k)) := by rw [hb.cell (p := ⟨b, o + k * 2 + 1, none⟩) hbs]; exact (hc k hlt).2
      have c2 : wr.cell? ⟨b', o' + k * 2, none⟩ = some (.int .i64 (tAt ts k)) := by rw [hb.cell (p := ⟨b', o' + k * 2, none⟩) hbs']; exact (hc' k hlt).1
      have c3 : wr.cell? ⟨b', o' + k * 2 + 1, none⟩ = some (.int .i64 (tSh ts k)) := by rw [hb.cell (p := ⟨b', o' + k * 2 + 1, none⟩) hbs']; exact (hc' k hlt).2
      have K : Tws w b (o + k * 2) b' (o' + k * 2) (tAt ts k) (tSh ts k) wr := ⟨c0, c1, c2, c3, hb⟩
      have hi1 : (k : Int) < (ts.length : Int) := by omega
      have hi0 : (0 : Int) ≤ (k : Int) := by omega
      clear hc hc'
      go_wp2
      go_region_held3 (fun w' => w'.cell? ⟨b, o + k * 2, none⟩ = some (.int .i64 (tAt ts k)) ∧ w'.cell? ⟨b, o + k * 2 + 1, none⟩ = some (.int .i64 (tSh ts k)) ∧ w'.cell? ⟨b', o' + k * 2, none⟩ = some (.int .i64 (tAt ts k)) ∧ w'.cell? ⟨b', o' + k * 2 + 1, none⟩ = some (.int .i64 (tSh ts k)) ∧ Below w.heap.size w w')
        (first | assumption | exact Tws.on K (Below.refl _ _).drew | exact Tws.on (by assumption) hb3)
        (first | (go_at_call 45; refine (lawEqSpan _ _ _).mono ?_; rintro e w3 ⟨rfl, hb3⟩))
      go_wp2
      go_roundw
      case rel => exact ⟨k + 1, by omega, by go_num, by have h := (by assumption : Tws w b (o + k * 2) b' (o' + k * 2) (tAt ts k) (tSh ts k) w3); exact h.2.2.2.2⟩
      case measure => simp [intOf]; omega
    · go_wp2
      go_ret
      exact ⟨rfl, hb⟩
def szs (n : Nat) : Int := if n ≤ 1048576 then 1048576 - (n : Int) else -1
theorem lawSzSpans (a : Option Addr) (cap n : Nat) (w : World) (hn : n ≤ maxLen) :
    Calls Try.prog 13 #[.slice a n cap, .int .i64 1048576] w fun e w' => e = .returned (.int .i64 (szs n)) ∧ Below w.heap.size w w' := by
  unfold maxLen at hn
  by_cases h2 : n ≤ 1048576
  · have HZ : Hid (szs n = 1048576 - (n : Int)) := if_pos h2
    go_enter Try.func13, Try.ntmps13
    go_wp2
    go_ret
    exact ⟨ret_i HZ.out.symm, Below.refl _ _⟩
  · have HZ : Hid (szs n = -1) := if_neg h2
    have h3 : (1048576 : Int) - (n : Int) < 0 := by omega
    go_enter Try.func13, Try.ntmps13
    go_wp2
    go_ret
    exact ⟨ret_i HZ.out.symm, Below.refl _ _⟩
end Go.Proofs.Ytkbgbccehijckaa
