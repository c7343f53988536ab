/- Lists of zones: copied, and held against each other. -/
import Derived.Test.YtlhaldhfoeiohaaZl
namespace Go.Proofs.Ytlhaldhfoeiohaa
open Go.RowKit
set_option linter.unusedVariables false
/-- Where zones are being copied to. -/
structure Cz (w wr : World) (zs : List ZR) (k : Nat) : Prop where
  lt : w.heap.size < wr.heap.size
  done : ∀ i, i < k → ∃ g, w.heap.size < g ∧ wr.cell? ⟨w.heap.size, i * 3, none⟩ = some (.string (zAt zs i).s) ∧ wr.cell? ⟨w.heap.size, i * 3 + 1, none⟩ = some (.int .i64 (zAt zs i).sh) ∧ wr.cell? ⟨w.heap.size, i * 3 + 2, none⟩ = some (.slice (some ⟨g, 0, none⟩) (zAt zs i).ts.length (zAt zs i).ts.length) ∧ IsTurns wr (some ⟨g, 0, none⟩) (zAt zs i).ts
  there : ∀ i, i < zs.length * 3 → ∃ v, wr.cell? ⟨w.heap.size, i, none⟩ = some v
  free : ∀ i, wr.frozen? ⟨w.heap.size, i, none⟩ = false
  hb : Below w.heap.size w wr
theorem cell3 {w : World} {B k : Nat} {x y z : Value} (h : ∀ i, i < k * 3 + 3 → ∃ v, w.cell? ⟨B, i, none⟩ = some v) (i : Nat) (hi : i < k * 3 + 3) :
    (((w.setCell ⟨B, k * 3, none⟩ x).setCell ⟨B, k * 3 + 1, none⟩ y).setCell ⟨B, k * 3 + 2, none⟩ z).cell? ⟨B, i, none⟩ = if i = k * 3 then some x else if i = k * 3 + 1 then some y else if i = k * 3 + 2 then some z else w.cell? ⟨B, i, none⟩ := by
  obtain ⟨v0, c0⟩ := h (k * 3) (by omega)
  obtain ⟨v1, c1⟩ := h (k * 3 + 1) (by omega)
  obtain ⟨v2, c2⟩ := h (k * 3 + 2) (by omega)
  by_cases e0 : i = k * 3
  · subst e0
    rw [if_pos rfl, World.cell?_setCell_other _ _ _ _ (by simp), World.cell?_setCell_other _ _ _ _ (by simp)]
    exact World.cell?_setCell_same _ _ _ c0
  · rw [if_neg e0]
    by_cases e1 : i = k * 3 + 1
    · subst e1
      rw [if_pos rfl, World.cell?_setCell_other _ _ _ _ (by simp)]
      exact World.cell?_setCell_same _ _ _ (u := v1) (by rw [World.cell?_setCell_other _ _ _ _ (by simp)]; exact c1)
    · rw [if_neg e1]
      by_cases e2 : i = k * 3 + 2
      · subst e2
        rw [if_pos rfl]
        exact World.cell?_setCell_same _ _ _ (u := v2) (by rw [World.cell?_setCell_other _ _ _ _ (by simp), World.cell?_setCell_other _ _ _ _ (by simp)]; exact c2)
      · rw [if_neg e2, World.cell?_setCell_other _ _ _ _ (by first | (simp; done) | (simp; omega)), World.cell?_setCell_other _ _ _ _ (by first | (simp; done) | (simp; omega)), World.cell?_setCell_other _ _ _ _ (by first | (simp; done) | (simp; omega))]
theorem Cz.step {w wr w' : World} {zs : List ZR} {k g : Nat} (h : Cz w wr zs k) (hk : k < zs.length) (hb : Below wr.heap.size wr w') (hg : w.heap.size < g) (ht : IsTurns w' (some ⟨g, 0, none⟩) (zAt zs k).ts) :
    Cz w (((w'.setCell ⟨w.heap.size, k * 3, none⟩ (.string (zAt zs k).s)).setCell ⟨w.heap.size, k * 3 + 1, none⟩ (.int .i64 (zAt zs k).sh)).setCell ⟨w.heap.size, k * 3 + 2, none⟩ (.slice (some ⟨g, 0, none⟩) (zAt zs k).ts.length (zAt zs k).ts.length)) zs (k + 1) := by
  obtain ⟨lt, done, there, free, hbw⟩ := h
  have hsz := hb.size
  have cc : ∀ o, w'.cell? ⟨w.heap.size, o, none⟩ = wr.cell? ⟨w.heap.size, o, none⟩ := fun o => hb.cell (p := ⟨w.heap.size, o, none⟩) lt
  have th : ∀ i, i < zs.length * 3 → ∃ v, w'.cell? ⟨w.heap.size, i, none⟩ = some v := fun i hi => by rw [cc]; exact there i hi
  have c3 := cell3 (w := w') (B := w.heap.size) (k := k) (x := .string (zAt zs k).s) (y := .int .i64 (zAt zs k).sh) (z := .slice (some ⟨g, 0, none⟩) (zAt zs k).ts.length (zAt zs k).ts.length) (fun i hi => th i (by omega))
  have tk : ∀ (gg : Nat) (l : List (Int × Int)), w.heap.size < gg → IsTurns w' (some ⟨gg, 0, none⟩) l → IsTurns (((w'.setCell ⟨w.heap.size, k * 3, none⟩ (.string (zAt zs k).s)).setCell ⟨w.heap.size, k * 3 + 1, none⟩ (.int .i64 (zAt zs k).sh)).setCell ⟨w.heap.size, k * 3 + 2, none⟩ (.slice (some ⟨g, 0, none⟩) (zAt zs k).ts.length (zAt zs k).ts.length)) (some ⟨gg, 0, none⟩) l := fun gg l hgg hl =>
    ((hl.setCell (p := ⟨w.heap.size, k * 3, none⟩) (by simp; omega) _).setCell (p := ⟨w.heap.size, k * 3 + 1, none⟩) (by simp; omega) _).setCell (p := ⟨w.heap.size, k * 3 + 2, none⟩) (by simp; omega) _
  refine ⟨by simp; omega, fun i hi => ?_, fun i hi => ?_, fun i => ?_, ?_⟩
  · by_cases hik : i = k
    · subst hik
      refine ⟨g, hg, ?_, ?_, ?_, tk g _ hg ht⟩
      · rw [c3 _ (by omega), if_pos rfl]
      · rw [c3 _ (by omega), if_neg (by omega), if_pos rfl]
      · rw [c3 _ (by omega), if_neg (by omega), if_neg (by omega), if_pos rfl]
    · obtain ⟨gg, h0, h1, h2, h3, h4⟩ := done i (by omega)
      refine ⟨gg, h0, ?_, ?_, ?_, tk gg _ h0 (h4.below (B := 0) hb)⟩
      · rw [c3 _ (by omega), if_neg (by omega), if_neg (by omega), if_neg (by omega), cc]; exact h1
      · rw [c3 _ (by omega), if_neg (by omega), if_neg (by omega), if_neg (by omega), cc]; exact h2
      · rw [c3 _ (by omega), if_neg (by omega), if_neg (by omega), if_neg (by omega), cc]; exact h3
  · obtain ⟨v, hv⟩ := th i hi
    have t1 : ∃ v, (w'.setCell ⟨w.heap.size, k * 3, none⟩ (.string (zAt zs k).s)).cell? ⟨w.heap.size, i, none⟩ = some v := cell?_setCell_some hv
    obtain ⟨v1, hv1⟩ := t1
    have t2 : ∃ v, ((w'.setCell ⟨w.heap.size, k * 3, none⟩ (.string (zAt zs k).s)).setCell ⟨w.heap.size, k * 3 + 1, none⟩ (.int .i64 (zAt zs k).sh)).cell? ⟨w.heap.size, i, none⟩ = some v := cell?_setCell_some hv1
    obtain ⟨v2, hv2⟩ := t2
    exact cell?_setCell_some hv2
  · rw [World.frozen?_setCell, World.frozen?_setCell, World.frozen?_setCell, hb.frozen (p := ⟨w.heap.size, i, none⟩) lt]; exact free i
  · exact (((hbw.trans (hb.mono (by omega))).setCell (p := ⟨w.heap.size, k * 3, none⟩) (Nat.le_refl _) _).setCell (p := ⟨w.heap.size, k * 3 + 1, none⟩) (Nat.le_refl _) _).setCell (p := ⟨w.heap.size, k * 3 + 2, none⟩) (Nat.le_refl _) _
theorem Cz.made (w : World) (zs : List ZR) (cs : Array Value) (hc : cs.size = zs.length * 3) (T : TypeId) : Cz w (w.alloc (.cells cs T)) zs 0 := by
  refine ⟨by simp, fun i hi => by omega, fun i hi => ?_, fun i => by simp, (Below.refl _ _).alloc (Nat.le_refl _) _⟩
  rw [World.cell?_alloc_new]
  exact ⟨cs[i], by simp [hc, hi]⟩
theorem zInfo : (Try.prog.info? 43).map (fun i => (i.size, i.bytes, i.zero)) = some (3, 48, some (.agg #[.string ByteArray.empty, .int .i64 0, .slice none 0 0])) := by kernel_rfl
theorem zMade : ∃ i z, Try.prog.info? 43 = some i ∧ i.zero = some z ∧ i.size = 3 ∧ i.bytes = 48 := by
  obtain ⟨i, hi, h⟩ := Option.map_eq_some_iff.1 zInfo
  simp only [Prod.mk.injEq] at h
  exact ⟨i, _, hi, h.2.2, h.1, h.2.1⟩
theorem Cz.zones {w wr : World} {zs : List ZR} (h : Cz w wr zs zs.length) : IsZones wr (some ⟨w.heap.size, 0, none⟩) zs :=
  .inr ⟨w.heap.size, 0, rfl, h.lt, fun i hi => by
    obtain ⟨g, _, h1, h2, h3, h4⟩ := h.done i hi
    exact ⟨_, _, by simpa using h1, by simpa using h2, by simpa using h3, h4⟩⟩
set_option maxHeartbeats 4000000 in
theorem lawToZones (a : Option Addr) (cap : Nat) (zs : List ZR) (w : World) (h : IsZones w a zs) (hl : ZSmall zs) :
    Calls Try.prog 7 #[.slice a zs.length cap] w fun e w' => e = .returned (.slice (some ⟨w.heap.size, 0, none⟩) zs.length zs.length) ∧ IsZones w' (some ⟨w.heap.size, 0, none⟩) zs ∧ Below w.heap.size w w' := by
  obtain ⟨ti, tz, hi, hz, hsz, hby⟩ := zMade
  have hln := hl.1
  have hmk := fun w : World => run_make (P := Try.prog) w 29 43 ti tz Try.underlying29 hi hz .i64 .i64 (zs.length : Int) (zs.length : Int) (by omega) (by omega) (by rw [hby]; omega) (by omega)
  simp only [Int.toNat_natCast, hsz] at hmk
  have HC := Cz.made w zs (madeCells tz.cells (zs.length * 3)) (size_madeCells _ _) 43
  generalize madeCells tz.cells (zs.length * 3) = cs at hmk HC
  have HCC : Hid (Cz w (w.alloc (.cells cs 43)) zs 0) := HC
  have HZ : Hid (IsZones w a zs) := h
  have HL : Hid (ZSmall zs) := hl
  clear HC h hi hz hsz hby hl
  go_enter Try.func7, Try.ntmps7
  go_wp2
  go_loopw [4] (fun i wr => ∃ k : Nat, k ≤ zs.length ∧ i = .int .i64 k ∧ Cz w wr zs k) (fun i _ => zs.length - (intOf i).toNat)
  case atStart => exact ⟨0, by omega, rfl, HCC.out⟩
  case round =>
    obtain ⟨k, hk, rfl, hcp⟩ := hrel
    clear hmk
    have HP : Hid (Cz w wr zs k) := hcp
    have hlt0 := hcp.lt
    clear hcp
    by_cases hlt : k < zs.length
    · have HT2 := HZ.out
      rcases HT2 with HT2 | ⟨b, off, rfl, hbs, hc⟩
      · rw [HT2] at hlt; simp at hlt
      obtain ⟨za, zc, c0, c1, c2, tt⟩ := (hc k hlt)
      have d0 : wr.cell? ⟨b, off + k * 3, none⟩ = some (.string (zAt zs k).s) := by rw [HP.out.hb.cell (p := ⟨b, off + k * 3, none⟩) hbs]; exact c0
      have d1 : wr.cell? ⟨b, off + k * 3 + 1, none⟩ = some (.int .i64 (zAt zs k).sh) := by rw [HP.out.hb.cell (p := ⟨b, off + k * 3 + 1, none⟩) hbs]; exact c1
      have d2 : wr.cell? ⟨b, off + k * 3 + 2, none⟩ = some (.slice za (zAt zs k).ts.length zc) := by rw [HP.out.hb.cell (p := ⟨b, off + k * 3 + 2, none⟩) hbs]; exact c2
      have HT : Hid (IsTurns wr za (zAt zs k).ts) := tt.below (B := 0) HP.out.hb
      have hl2 : (zAt zs k).ts.length ≤ 2000000 := by have := (HL.out.2 k hlt).2; omega
      clear hc c0 c1 c2 tt
      go_wp2_with fail
      refine (lawToZoneS _ _ _ _ _ _ HT.out hl2).mono ?_
      rintro e w3 ⟨g, rfl, ht3, hb3, hg3, -⟩
      have hs3 := hb3.size
      have HG3 : Hid (w.heap.size < g) := by unfold Hid; omega
      obtain ⟨v0, e0⟩ := HP.out.there (k * 3) (by omega)
      obtain ⟨v1, e1⟩ := HP.out.there (k * 3 + 1) (by omega)
      obtain ⟨v2, e2⟩ := HP.out.there (k * 3 + 2) (by omega)
      have f0 := HP.out.free (k * 3)
      have f1 := HP.out.free (k * 3 + 1)
      have f2 := HP.out.free (k * 3 + 2)
      rw [← hb3.cell (p := ⟨w.heap.size, k * 3, none⟩) hlt0] at e0
      rw [← hb3.cell (p := ⟨w.heap.size, k * 3 + 1, none⟩) hlt0] at e1
      rw [← hb3.cell (p := ⟨w.heap.size, k * 3 + 2, none⟩) hlt0] at e2
      rw [← hb3.frozen (p := ⟨w.heap.size, k * 3, none⟩) hlt0] at f0
      rw [← hb3.frozen (p := ⟨w.heap.size, k * 3 + 1, none⟩) hlt0] at f1
      rw [← hb3.frozen (p := ⟨w.heap.size, k * 3 + 2, none⟩) hlt0] at f2
      have FIN : Hid (Cz w (((w3.setCell ⟨w.heap.size, k * 3, none⟩ (.string (zAt zs k).s)).setCell ⟨w.heap.size, k * 3 + 1, none⟩ (.int .i64 (zAt zs k).sh)).setCell ⟨w.heap.size, k * 3 + 2, none⟩ (.slice (some ⟨g, 0, none⟩) (zAt zs k).ts.length (zAt zs k).ts.length)) zs (k + 1)) := HP.out.step hlt hb3 HG3.out ht3
      clear hb3 ht3 hg3 d0 d1 d2
      go_wp2
      go_roundw
      case rel => exact ⟨k + 1, by omega, by go_num, FIN.out⟩
      case measure => simp [intOf]; omega
    · have hkk : k = zs.length := by omega
      subst hkk
      have FIN : Hid (IsZones wr (some ⟨w.heap.size, 0, none⟩) zs) := HP.out.zones
      go_wp2
      go_ret
      exact ⟨rfl, FIN.out, HP.out.hb⟩
end Go.Proofs.Ytlhaldhfoeiohaa
