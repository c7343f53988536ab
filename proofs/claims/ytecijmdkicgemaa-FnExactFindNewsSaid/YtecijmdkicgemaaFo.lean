/- What is found, as it lies in memory; the laws' own helpers over it: size, copy, likeness. -/
import Derived.Test.YtecijmdkicgemaaNm
import Derived.Test.YtecijmdkicgemaaCls
import Derived.Deep.RegionHeld3
namespace Go.Proofs.Ytecijmdkicgemaa
open Go.RowKit
set_option linter.unusedVariables false
theorem Hid.of {p : Prop} (h : p) : Hid p := h
abbrev FO := ByteArray × Int
def fS (l : List FO) (i : Nat) : ByteArray := (l.getD i (ByteArray.empty, 0)).1
def fA (l : List FO) (i : Nat) : Int := (l.getD i (ByteArray.empty, 0)).2
theorem fS_get {l : List FO} {i : Nat} (h : i < l.length) : fS l i = l[i].1 := by unfold fS; simp [h]
theorem fA_get {l : List FO} {i : Nat} (h : i < l.length) : fA l i = l[i].2 := by unfold fA; simp [h]
def IsFo (w : World) (a : Option Addr) (l : List FO) : Prop := l = [] ∨ ∃ b off, a = some ⟨b, off, none⟩ ∧ b < w.heap.size ∧ ∀ i, i < l.length → w.cell? ⟨b, off + i * 2, none⟩ = some (.string (fS l i)) ∧ w.cell? ⟨b, off + i * 2 + 1, none⟩ = some (.int .i64 (fA l i))
theorem IsFo.below {w w' : World} {a : Option Addr} {l : List FO} (h : IsFo w a l) (hb : Below w.heap.size w w') : IsFo w' a l := by
  rcases h with h | ⟨b, off, h1, h2, h3⟩
  · exact .inl h
  · refine .inr ⟨b, off, h1, Nat.lt_of_lt_of_le h2 hb.size, fun i hi => ?_⟩
    rw [hb.cell (p := ⟨b, off + i * 2, none⟩) h2, hb.cell (p := ⟨b, off + i * 2 + 1, none⟩) h2]
    exact h3 i hi
theorem IsFo.at {w : World} {a : Option Addr} {l : List FO} (h : IsFo w a l) (hl : 0 < l.length) : ∃ b off, a = some ⟨b, off, none⟩ ∧ b < w.heap.size ∧ ∀ i, i < l.length → w.cell? ⟨b, off + i * 2, none⟩ = some (.string (fS l i)) ∧ w.cell? ⟨b, off + i * 2 + 1, none⟩ = some (.int .i64 (fA l i)) := by
  rcases h with h | h
  · rw [h] at hl; simp at hl
  · exact h
/-- As it came in: no longer than any list, or text, may be. -/
def FWide (l : List FO) : Prop := l.length ≤ maxLen ∧ ∀ i, i < l.length → (fS l i).size ≤ maxLen
def FSmall (l : List FO) : Prop := l.length ≤ 1048576 ∧ ∀ i, i < l.length → (fS l i).size ≤ 1048576
theorem lawSzFound (s : ByteArray) (t left : Int) (w : World) (h0 : 0 ≤ left) (h1 : left ≤ 1048576) (hs : s.size ≤ maxLen) :
    Calls Try.prog 46 #[.agg #[.string s, .int .i64 t], .int .i64 left] w fun e w' => e = .returned (.int .i64 (if left - (s.size : Int) < 0 then -1 else left - (s.size : Int))) ∧ Below w.heap.size w w' := by
  unfold maxLen at hs
  have g := IntWalk.i64_in (left - (s.size : Int)) (by omega)
  by_cases h : left - (s.size : Int) < 0
  · go_enter Try.func46, Try.ntmps46
    go_wp2
    go_ret
    exact ⟨rfl, (Below.refl _ _).alloc (Nat.le_refl _) _⟩
  · go_enter Try.func46, Try.ntmps46
    go_wp2
    go_ret
    exact ⟨rfl, (Below.refl _ _).alloc (Nat.le_refl _) _⟩
set_option maxRecDepth 100000 in
set_option maxHeartbeats 4000000 in
theorem lawSzFounds (a : Option Addr) (cap : Nat) (l : List FO) (w : World) (h : IsFo w a l) (hw : FWide l) :
    Calls Try.prog 14 #[.slice a l.length cap, .int .i64 1048576] w fun e w' => (∃ v : Int, e = .returned (.int .i64 v) ∧ (v < 0 ∨ 0 ≤ v ∧ FSmall l)) ∧ Below w.heap.size w w' := by
  have HF : Hid (IsFo w a l) := h
  have HW : Hid (FWide l) := hw
  have hll := hw.1
  unfold maxLen at hll
  clear h hw
  have g := IntWalk.i64_in (1048576 - (l.length : Int)) (by omega)
  by_cases hl : 1048576 - (l.length : Int) < 0
  · go_enter Try.func14, Try.ntmps14
    go_wp2
    go_ret
    exact ⟨⟨_, rfl, .inl (by omega)⟩, Below.refl _ _⟩
  go_enter Try.func14, Try.ntmps14
  go_wp2
  go_loopw [1, 5] (fun v i wr => ∃ (k : Nat) (z : Int), k ≤ l.length ∧ v = .int .i64 z ∧ i = .int .i64 k ∧ 0 ≤ z ∧ z ≤ 1048576 ∧ (∀ j, j < k → (fS l j).size ≤ 1048576) ∧ Below w.heap.size w wr) (fun _ i _ => l.length - (intOf i).toNat)
  case atStart => exact ⟨0, _, by omega, rfl, rfl, by omega, by omega, fun j hj => by omega, Below.refl _ _⟩
  case round =>
    obtain ⟨k, z, hk, rfl, rfl, z0, z1, ha, hb⟩ := hrel
    have HA : Hid (∀ j, j < k → (fS l j).size ≤ 1048576) := ha
    have HB : Hid (Below w.heap.size w wr) := hb
    clear ha
    by_cases hlt : k < l.length
    · obtain ⟨b, off, rfl, hbs, hc⟩ := (HF.out.below hb).at (by omega)
      obtain ⟨c0, c1⟩ := hc k hlt
      have hi0 : (0 : Int) ≤ (k : Int) := by omega
      have hi1 : (k : Int) < (l.length : Int) := by omega
      have hsz := HW.out.2 k hlt
      have HS := Hid.of (lawSzFound (fS l k) (fA l k) z wr z0 z1 hsz)
      unfold maxLen at hsz
      clear hc hb
      by_cases hz : z - ((fS l k).size : Int) < 0
      · rw [if_pos hz] at HS
        go_wp2_with fail
        refine HS.out.mono ?_
        rintro e w1 ⟨rfl, b1⟩
        have B1 := bstep HB.out b1
        clear b1 HS c0 c1
        go_wp2
        go_ret
        exact ⟨⟨_, rfl, .inl (by omega)⟩, B1⟩
      · rw [if_neg hz] at HS
        have HQ : Hid (∀ j, j < k + 1 → (fS l j).size ≤ 1048576) := fun j hj => by
          by_cases e : j = k
          · subst e; omega
          · exact HA.out j (by omega)
        go_wp2_with fail
        refine HS.out.mono ?_
        rintro e w1 ⟨rfl, b1⟩
        have B1 := bstep HB.out b1
        clear b1 HS c0 c1
        go_wp2
        go_roundw
        case rel => exact ⟨k + 1, _, by omega, rfl, by go_num, by omega, by omega, HQ.out, B1⟩
        case measure => simp [intOf]; omega
    · go_wp2
      go_ret
      exact ⟨⟨_, rfl, .inr ⟨z0, by omega, fun i hi => HA.out i (by omega)⟩⟩, hb⟩
theorem lawToFound (s : ByteArray) (t : Int) (w : World) :
    Calls Try.prog 49 #[.agg #[.string s, .int .i64 t]] w fun e w' => e = .returned (.agg #[.string s, .int .i64 t]) ∧ Below w.heap.size w w' := by
  go_enter Try.func49, Try.ntmps49
  go_wp2
  exact bodyPost_ret (v := .agg #[.string s, .int .i64 t]) (by simp [results, Try.results49, go_sem]) rfl ⟨rfl, (((Below.refl _ _).alloc (Nat.le_refl _) _).alloc (by simp) _).alloc (by simp; omega) _⟩
theorem foMade : ∃ i z, Try.prog.info? 71 = some i ∧ i.zero = some z ∧ i.size = 2 ∧ i.bytes = 24 := by
  have q : (Try.prog.info? 71).map (fun i => (i.size, i.bytes, i.zero)) = some (2, 24, some (.agg #[.string ⟨#[]⟩, .int .i64 0])) := by kernel_rfl
  obtain ⟨i, hi, h⟩ := Option.map_eq_some_iff.1 q
  simp only [Prod.mk.injEq] at h
  exact ⟨i, _, hi, h.2.2, h.1, h.2.1⟩
/-- Where what is found is being copied to. -/
structure Cfo (w wr : World) (l : List FO) (k : Nat) : Prop where
  lt : w.heap.size < wr.heap.size
  done : ∀ i, i < k → wr.cell? ⟨w.heap.size, i * 2, none⟩ = some (.string (fS l i)) ∧ wr.cell? ⟨w.heap.size, i * 2 + 1, none⟩ = some (.int .i64 (fA l i))
  there : ∀ i, i < l.length * 2 → ∃ v, wr.cell? ⟨w.heap.size, i, none⟩ = some v
  free : ∀ i, wr.frozen? ⟨w.heap.size, i, none⟩ = false
  hb : Below w.heap.size w wr
theorem Cfo.step {w wr w' : World} {l : List FO} {k : Nat} (h : Cfo w wr l k) (hk : k < l.length) (hb : Below wr.heap.size wr w') :
    Cfo w ((w'.setCell ⟨w.heap.size, k * 2, none⟩ (.string (fS l k))).setCell ⟨w.heap.size, k * 2 + 1, none⟩ (.int .i64 (fA l k))) l (k + 1) := by
  obtain ⟨lt, done, there, free, hbw⟩ := h
  have hsz := hb.size
  have cc : ∀ o, w'.cell? ⟨w.heap.size, o, none⟩ = wr.cell? ⟨w.heap.size, o, none⟩ := fun o => hb.cell (p := ⟨w.heap.size, o, none⟩) lt
  have c0 : ∃ v, w'.cell? ⟨w.heap.size, k * 2, none⟩ = some v := by rw [cc]; exact there _ (by omega)
  have c1 : ∃ v, w'.cell? ⟨w.heap.size, k * 2 + 1, none⟩ = some v := by rw [cc]; exact there _ (by omega)
  obtain ⟨v0, c0⟩ := c0
  obtain ⟨v1, c1⟩ := c1
  refine ⟨by simp; omega, fun i hi => ?_, fun i hi => ?_, fun i => ?_, ?_⟩
  · by_cases hik : i = k
    · subst hik
      constructor
      · rw [World.cell?_setCell_other _ _ _ _ (by simp)]; exact World.cell?_setCell_same _ _ _ c0
      · exact World.cell?_setCell_same _ _ _ (u := v1) (by rw [World.cell?_setCell_other _ _ _ _ (by simp)]; exact c1)
    · constructor
      · rw [World.cell?_setCell_other _ _ _ _ (by simp <;> omega), World.cell?_setCell_other _ _ _ _ (by simp <;> omega), cc]; exact (done i (by omega)).1
      · rw [World.cell?_setCell_other _ _ _ _ (by simp <;> omega), World.cell?_setCell_other _ _ _ _ (by simp <;> omega), cc]; exact (done i (by omega)).2
  · obtain ⟨u, hu⟩ := there i hi
    rw [← cc] at hu
    obtain ⟨u1, h1⟩ := cell?_setCell_some (p := ⟨w.heap.size, k * 2, none⟩) (x := .string (fS l k)) hu
    exact cell?_setCell_some h1
  · rw [World.frozen?_setCell, World.frozen?_setCell, hb.frozen (p := ⟨w.heap.size, i, none⟩) lt]; exact free i
  · exact ((bstep hbw hb).setCell (p := ⟨w.heap.size, k * 2, none⟩) (Nat.le_refl _) _).setCell (p := ⟨w.heap.size, k * 2 + 1, none⟩) (Nat.le_refl _) _
theorem Cfo.made (w : World) (l : List FO) (cs : Array Value) (hc : cs.size = l.length * 2) (T : TypeId) : Cfo w (w.alloc (.cells cs T)) l 0 := by
  refine ⟨by simp, fun i hi => by omega, fun i hi => ?_, fun i => by simp, (Below.refl _ _).alloc (Nat.le_refl _) _⟩
  rw [World.cell?_alloc_new]
  exact ⟨cs[i], by simp [hc, hi]⟩
set_option maxHeartbeats 4000000 in
theorem lawToFounds (a : Option Addr) (cap : Nat) (l : List FO) (w : World) (h : IsFo w a l) (hl : l.length ≤ 2000000) :
    Calls Try.prog 16 #[.slice a l.length cap] w fun e w' => e = .returned (.slice (some ⟨w.heap.size, 0, none⟩) l.length l.length) ∧ IsFo w' (some ⟨w.heap.size, 0, none⟩) l ∧ Below w.heap.size w w' := by
  obtain ⟨ti, tz, hi, hz, hsz, hby⟩ := foMade
  have hmk := fun w : World => run_make (P := Try.prog) w 30 71 ti tz Try.underlying30 hi hz .i64 .i64 (l.length : Int) (l.length : Int) (by omega) (by omega) (by rw [hby]; omega) (by omega)
  simp only [Int.toNat_natCast, hsz] at hmk
  have HC := Cfo.made w l (madeCells tz.cells (l.length * 2)) (size_madeCells _ _) 71
  generalize madeCells tz.cells (l.length * 2) = cs at hmk HC
  have HCC : Hid (Cfo w (w.alloc (.cells cs 71)) l 0) := HC
  have HT : Hid (IsFo w a l) := h
  clear HC h hi hz hsz hby
  go_enter Try.func16, Try.ntmps16
  go_wp2
  go_loopw [4] (fun i wr => ∃ k : Nat, k ≤ l.length ∧ i = .int .i64 k ∧ Cfo w wr l k) (fun i _ => l.length - (intOf i).toNat)
  case atStart => exact ⟨0, by omega, rfl, HCC.out⟩
  case round =>
    obtain ⟨k, hk, rfl, hcp⟩ := hrel
    clear hmk
    have HP : Hid (Cfo w wr l k) := hcp
    have hlt0 := hcp.lt
    clear hcp
    by_cases hlt : k < l.length
    · have HT2 := HT.out
      rcases HT2 with HT2 | ⟨b, off, rfl, hbs, hc⟩
      · rw [HT2] at hlt; simp at hlt
      have c0 : wr.cell? ⟨b, off + k * 2, none⟩ = some (.string (fS l k)) := by rw [HP.out.hb.cell (p := ⟨b, off + k * 2, none⟩) hbs]; exact (hc k hlt).1
      have c1 : wr.cell? ⟨b, off + k * 2 + 1, none⟩ = some (.int .i64 (fA l k)) := by rw [HP.out.hb.cell (p := ⟨b, off + k * 2 + 1, none⟩) hbs]; exact (hc k hlt).2
      clear hc
      go_wp2_with fail
      refine (lawToFound _ _ _).mono ?_
      rintro e w3 ⟨rfl, hb3⟩
      have hs3 := hb3.size
      obtain ⟨v0, d0⟩ := HP.out.there (k * 2) (by omega)
      obtain ⟨v1, d1⟩ := HP.out.there (k * 2 + 1) (by omega)
      have f0 := HP.out.free (k * 2)
      have f1 := HP.out.free (k * 2 + 1)
      rw [← hb3.cell (p := ⟨w.heap.size, k * 2, none⟩) hlt0] at d0
      rw [← hb3.cell (p := ⟨w.heap.size, k * 2 + 1, none⟩) hlt0] at d1
      rw [← hb3.frozen (p := ⟨w.heap.size, k * 2, none⟩) hlt0] at f0
      rw [← hb3.frozen (p := ⟨w.heap.size, k * 2 + 1, none⟩) hlt0] at f1
      have FIN : Hid (Cfo w ((w3.setCell ⟨w.heap.size, k * 2, none⟩ (.string (fS l k))).setCell ⟨w.heap.size, k * 2 + 1, none⟩ (.int .i64 (fA l k))) l (k + 1)) := HP.out.step hlt hb3
      clear hb3
      go_wp2
      go_roundw
      case rel => exact ⟨k + 1, by omega, by go_num, FIN.out⟩
      case measure => simp [intOf]; omega
    · have hkk : k = l.length := by omega
      subst hkk
      have FIN : Hid (IsFo wr (some ⟨w.heap.size, 0, none⟩) l) := .inr ⟨w.heap.size, 0, rfl, hlt0, fun i hi => by simpa using HP.out.done i hi⟩
      go_wp2
      go_ret
      exact ⟨rfl, FIN.out, HP.out.hb⟩
theorem lawEqFound (s : ByteArray) (t : Int) (w : World) :
    Calls Try.prog 54 #[.agg #[.string s, .int .i64 t], .agg #[.string s, .int .i64 t]] w fun e w' => e = .returned (.bool true) ∧ Below w.heap.size w w' := by
  go_enter Try.func54, Try.ntmps54
  go_wp2
  go_ret
  exact ⟨rfl, ((Below.refl _ _).alloc (Nat.le_refl _) _).alloc (by simp) _⟩
set_option maxRecDepth 100000 in
set_option maxHeartbeats 4000000 in
theorem lawEqFounds (a a' : Option Addr) (cap cap' : Nat) (l : List FO) (w : World) (h : IsFo w a l) (h' : IsFo w a' l) (hl : l.length ≤ 2000000) :
    Calls Try.prog 18 #[.slice a l.length cap, .slice a' l.length cap'] w fun e w' => e = .returned (.bool true) ∧ Below w.heap.size w w' := by
  have H1 : Hid (IsFo w a l) := h
  have H2 : Hid (IsFo w a' l) := h'
  clear h h'
  go_enter Try.func18, Try.ntmps18
  go_wp2
  go_loopw [5] (fun i wr => ∃ k : Nat, k ≤ l.length ∧ i = .int .i64 k ∧ Below w.heap.size w wr) (fun i _ => l.length - (intOf i).toNat)
  case atStart => exact ⟨0, by omega, rfl, Below.refl _ _⟩
  case round =>
    obtain ⟨k, hk, rfl, hb⟩ := hrel
    by_cases hlt : k < l.length
    · obtain ⟨b, o, rfl, hbs, hc⟩ := (H1.out.below hb).at (by omega)
      obtain ⟨b', o', rfl, hbs', hc'⟩ := (H2.out.below hb).at (by omega)
      have c0 := (hc k hlt).1
      have c1 := (hc k hlt).2
      have c2 := (hc' k hlt).1
      have c3 := (hc' k hlt).2
      have HB : Hid (Below w.heap.size w wr) := hb
      have hi1 : (k : Int) < (l.length : Int) := by omega
      have hi0 : (0 : Int) ≤ (k : Int) := by omega
      clear hc hc' hb
      go_wp2
      refine wp_region_cl (fun w' => Below wr.heap.size wr w') (by kernel_rfl) (by kernel_rfl) (Below.refl _ _).drew ?_
      repeat (first
        | go_big_quiet_skip
        | (go_big_quiet_want; go_big_quiet_op; go_big_quiet_on)
        | (go_big_quiet_want
           apply Exists.intro
           refine ⟨fun w7 hC7 => ?_, ?_⟩
           · (have b7 := hC7
              have y0 : w7.cell? ⟨b, o + k * 2, none⟩ = some (.string (fS l k)) := (hC7.cell (p := ⟨b, o + k * 2, none⟩) hbs).trans c0
              have y1 : w7.cell? ⟨b, o + k * 2 + 1, none⟩ = some (.int .i64 (fA l k)) := (hC7.cell (p := ⟨b, o + k * 2 + 1, none⟩) hbs).trans c1
              have y2 : w7.cell? ⟨b', o' + k * 2, none⟩ = some (.string (fS l k)) := (hC7.cell (p := ⟨b', o' + k * 2, none⟩) hbs').trans c2
              have y3 : w7.cell? ⟨b', o' + k * 2 + 1, none⟩ = some (.int .i64 (fA l k)) := (hC7.cell (p := ⟨b', o' + k * 2 + 1, none⟩) hbs').trans c3
              clear hC7
              go_simp
              first
                | done
                | rfl
                | exact ⟨rfl, rfl⟩
                | (with_reducible refine (lawEqFound (fS l k) (fA l k) w7).mono ?_
                   rintro e w8 ⟨rfl, hb8⟩
                   first | exact ⟨rfl, bstep b7 hb8⟩ | (go_simp; exact bstep b7 hb8)))
           (go_simp; go_big_quiet_on)))
      refine wpQuiet_nil ?_
      intro w7 b7
      have hb := bstep HB.out b7
      clear b7 c0 c1 c2 c3
      go_wp2
      go_roundw
      case rel => exact ⟨k + 1, by omega, by go_num, hb⟩
      case measure => simp [intOf]; omega
    · go_wp2
      go_ret
      exact ⟨rfl, hb⟩
end Go.Proofs.Ytecijmdkicgemaa
