/- Hours of work: the laws' own helpers over them; their days of the week, the program's. -/
import Derived.Test.YtlhaldhfoeiohaaVr
import Derived.Test.YtlhaldhfoeiohaaZg
import Derived.Test.YtlhaldhfoeiohaaRe
namespace Go.Proofs.Ytlhaldhfoeiohaa
open Go.RowKit
set_option linter.unusedVariables false
/-- Numbers ascend. -/
def AscI (l : List Int) : Prop := ∀ i, i + 1 < l.length → gi l i < gi l (i + 1)
def AllW (l : List Int) : Prop := ∀ i, i < l.length → 0 ≤ gi l i ∧ gi l i ≤ 6
theorem IsInts.setC {w : World} {g : Nat} {l : List Int} (h : IsInts w (some ⟨g, 0, none⟩) l) {p : Addr} (hp : p.block ≠ g) (v : Value) : IsInts (w.setCell p v) (some ⟨g, 0, none⟩) l := by
  rcases h with h | ⟨b, off, h1, h2, h3⟩
  · exact .inl h
  · simp only [Option.some.injEq, Addr.mk.injEq] at h1
    obtain ⟨rfl, rfl, _⟩ := h1
    refine .inr ⟨g, 0, rfl, by simpa using h2, fun i hi => ?_⟩
    rw [World.cell?_of_block (w := w) (Below.heap_setCell _ _ _ _ (Ne.symm hp))]
    exact h3 i hi
theorem lawSzI (a : Option Addr) (n cap : Nat) (left : Int) (w : World) (hn : n ≤ maxLen) (h0 : 0 ≤ left) (h1 : left ≤ 1048576) :
    Calls Try.prog 13 #[.slice a n cap, .int .i64 left] w fun e w' => e = .returned (.int .i64 (if left - (n : Int) < 0 then -1 else left - (n : Int))) ∧ w' = w := by
  unfold maxLen at hn
  have g := IntWalk.i64_in (left - (n : Int)) (by omega)
  by_cases h : left - (n : Int) < 0
  · go_enter Try.func13, Try.ntmps13
    go_wp2
    go_ret
    exact ⟨rfl, rfl⟩
  · go_enter Try.func13, Try.ntmps13
    go_wp2
    go_ret
    exact ⟨rfl, rfl⟩
theorem lawSzHours (z : ByteArray) (fr t : Int) (a : Option Addr) (cap : Nat) (l : List Int) (left : Int) (w : World) (hz : z.size ≤ maxLen) (hl : l.length ≤ maxLen) (h0 : 0 ≤ left) (h1 : left ≤ 1048576) :
    Calls Try.prog 5 #[.agg #[.string z, .int .i64 fr, .int .i64 t, .slice a l.length cap], .int .i64 left] w fun e w' => (∃ v : Int, e = .returned (.int .i64 v) ∧ (v < 0 ∨ 0 ≤ v ∧ z.size ≤ 1048576 ∧ l.length ≤ 1048576)) ∧ Below w.heap.size w w' := by
  have hzm := hz
  unfold maxLen at hzm
  have g := IntWalk.i64_in (left - (z.size : Int)) (by omega)
  have hb : Below w.heap.size w (w.alloc (.cells #[.string z, .int .i64 fr, .int .i64 t, .slice a l.length cap] 25)) := (Below.refl _ _).alloc (Nat.le_refl _) _
  by_cases h : left - (z.size : Int) < 0
  · go_enter Try.func5, Try.ntmps5
    go_wp2
    go_ret
    exact ⟨⟨_, rfl, .inl (by omega)⟩, hb⟩
  · have HS := fun w : World => lawSzI a l.length cap (left - (z.size : Int)) w hl (by omega) (by omega)
    by_cases h2 : left - (z.size : Int) - (l.length : Int) < 0
    · rw [if_pos h2] at HS
      go_enter Try.func5, Try.ntmps5
      go_wp2_with fail
      refine (HS _).mono ?_
      rintro e w1 ⟨rfl, rfl⟩
      clear HS
      go_wp2
      go_ret
      exact ⟨⟨_, rfl, .inl (by omega)⟩, hb⟩
    · rw [if_neg h2] at HS
      go_enter Try.func5, Try.ntmps5
      go_wp2_with fail
      refine (HS _).mono ?_
      rintro e w1 ⟨rfl, rfl⟩
      clear HS
      go_wp2
      go_ret
      exact ⟨⟨_, rfl, .inr ⟨by omega, by omega, by omega⟩⟩, hb⟩
set_option maxRecDepth 100000 in
set_option maxHeartbeats 8000000 in
theorem lawToHours (z : ByteArray) (fr t : Int) (a : Option Addr) (cap : Nat) (l : List Int) (w : World) (h : IsInts w a l) (hl : l.length ≤ 2000000) :
    Calls Try.prog 8 #[.agg #[.string z, .int .i64 fr, .int .i64 t, .slice a l.length cap]] w fun e w' => (∃ g, e = .returned (.agg #[.string z, .int .i64 fr, .int .i64 t, .slice (some ⟨g, 0, none⟩) l.length l.length]) ∧ IsInts w' (some ⟨g, 0, none⟩) l) ∧ Below w.heap.size w w' := by
  have HF : Hid (IsInts w a l) := h
  clear h
  go_enter Try.func8, Try.ntmps8
  go_wp2_with fail
  have hb0 := ((((Below.refl w.heap.size w).alloc (Nat.le_refl _) (.cells #[.string z, .int .i64 fr, .int .i64 t, .slice a l.length cap] 25)).alloc (by simp) (.cells #[.string ByteArray.empty, .int .i64 0, .int .i64 0, .slice none 0 0] 31)).alloc (by simp; omega) (.cells #[.string z, .int .i64 fr, .int .i64 t, .slice none 0 0] 31))
  refine (lawToInts a cap l _ (HF.out.below hb0) hl).mono ?_
  rintro e w1 ⟨rfl, ht1, hb1, _⟩
  have hbw := hb0.trans (hb1.mono (by simp; omega))
  obtain ⟨hc, hf⟩ := bcell hb1
  have hs := hb1.size
  simp at hs
  have hs1 : w.heap.size + 1 + 1 < w1.heap.size := by omega
  have hs2 : w.heap.size + 1 < w1.heap.size := by omega
  have c0 : w1.cell? ⟨w.heap.size + 1 + 1, 0, none⟩ = some (.string z) := by rw [hc _ _ (by simp)]; simp [World.cell?_alloc_at]
  have c1 : w1.cell? ⟨w.heap.size + 1 + 1, 1, none⟩ = some (.int .i64 fr) := by rw [hc _ _ (by simp)]; simp [World.cell?_alloc_at]
  have c2 : w1.cell? ⟨w.heap.size + 1 + 1, 2, none⟩ = some (.int .i64 t) := by rw [hc _ _ (by simp)]; simp [World.cell?_alloc_at]
  have c3 : w1.cell? ⟨w.heap.size + 1 + 1, 3, none⟩ = some (.slice none 0 0) := by rw [hc _ _ (by simp)]; simp [World.cell?_alloc_at]
  have d0 : w1.cell? ⟨w.heap.size + 1, 0, none⟩ = some (.string ByteArray.empty) := by rw [hc _ _ (by simp)]; simp [World.cell?_alloc_at, World.cell?_alloc_past]
  have d1 : w1.cell? ⟨w.heap.size + 1, 1, none⟩ = some (.int .i64 0) := by rw [hc _ _ (by simp)]; simp [World.cell?_alloc_at, World.cell?_alloc_past]
  have d2 : w1.cell? ⟨w.heap.size + 1, 2, none⟩ = some (.int .i64 0) := by rw [hc _ _ (by simp)]; simp [World.cell?_alloc_at, World.cell?_alloc_past]
  have d3 : w1.cell? ⟨w.heap.size + 1, 3, none⟩ = some (.slice none 0 0) := by rw [hc _ _ (by simp)]; simp [World.cell?_alloc_at, World.cell?_alloc_past]
  have f3 : w1.frozen? ⟨w.heap.size + 1 + 1, 3, none⟩ = false := by rw [hf _ _ (by simp)]; simp [go_sem]
  have g0 : w1.frozen? ⟨w.heap.size + 1, 0, none⟩ = false := by rw [hf _ _ (by simp)]; simp [go_sem]
  have g1 : w1.frozen? ⟨w.heap.size + 1, 1, none⟩ = false := by rw [hf _ _ (by simp)]; simp [go_sem]
  have g2 : w1.frozen? ⟨w.heap.size + 1, 2, none⟩ = false := by rw [hf _ _ (by simp)]; simp [go_sem]
  have g3 : w1.frozen? ⟨w.heap.size + 1, 3, none⟩ = false := by rw [hf _ _ (by simp)]; simp [go_sem]
  simp only [World.size_alloc] at ht1 ⊢
  clear hc hf hb1 hb0
  go_wp2
  refine bodyPost_ret (v := .agg #[.string z, .int .i64 fr, .int .i64 t, .slice (some ⟨w.heap.size + 1 + 1 + 1, 0, none⟩) l.length l.length]) (by simp [results, Try.results8, go_sem, *]) rfl ⟨⟨_, rfl, ?_⟩, ?_⟩
  · repeat (first | with_reducible exact ht1 | refine IsInts.setC ?_ (by simp) _)
  · repeat (first | with_reducible exact hbw | refine Below.setCell ?_ (by first | (simp; done) | (simp; omega)) _)
theorem lawEqHours (z : ByteArray) (fr t : Int) (a a' : Option Addr) (cap cap' : Nat) (l : List Int) (w : World) (h : IsInts w a l) (h' : IsInts w a' l) (hl : l.length ≤ 2000000) :
    Calls Try.prog 11 #[.agg #[.string z, .int .i64 fr, .int .i64 t, .slice a l.length cap], .agg #[.string z, .int .i64 fr, .int .i64 t, .slice a' l.length cap']] w fun e w' => e = .returned (.bool true) ∧ Below w.heap.size w w' := by
  have bz : Below w.heap.size w ((w.alloc (.cells #[.string z, .int .i64 fr, .int .i64 t, .slice a l.length cap] 31)).alloc (.cells #[.string z, .int .i64 fr, .int .i64 t, .slice a' l.length cap'] 31)) := ((Below.refl _ _).alloc (Nat.le_refl _) _).alloc (by simp) _
  have HB : Hid (Below w.heap.size w ((w.alloc (.cells #[.string z, .int .i64 fr, .int .i64 t, .slice a l.length cap] 31)).alloc (.cells #[.string z, .int .i64 fr, .int .i64 t, .slice a' l.length cap'] 31))) := bz
  have H1 := h.below bz
  have H2 := h'.below bz
  have HE : Hid (Calls Try.prog 23 #[.slice a l.length cap, .slice a' l.length cap'] ((w.alloc (.cells #[.string z, .int .i64 fr, .int .i64 t, .slice a l.length cap] 31)).alloc (.cells #[.string z, .int .i64 fr, .int .i64 t, .slice a' l.length cap'] 31)) fun e w' => e = .returned (.bool true) ∧ Below ((w.alloc (.cells #[.string z, .int .i64 fr, .int .i64 t, .slice a l.length cap] 31)).alloc (.cells #[.string z, .int .i64 fr, .int .i64 t, .slice a' l.length cap'] 31)).heap.size ((w.alloc (.cells #[.string z, .int .i64 fr, .int .i64 t, .slice a l.length cap] 31)).alloc (.cells #[.string z, .int .i64 fr, .int .i64 t, .slice a' l.length cap'] 31)) w') := lawEqInts _ _ _ _ _ _ H1 H2 (by omega)
  clear h h' H1 H2 bz
  go_enter Try.func11, Try.ntmps11
  go_wp2_with fail
  refine HE.out.mono ?_
  rintro e w1 ⟨rfl, b1⟩
  have B1 := bstep HB.out b1
  clear b1 HE
  go_wp2
  go_ret
  exact ⟨rfl, B1⟩
theorem implDay1 (x : Int) (w : World) : Calls Try.prog 34 #[.int .i64 x] w fun z w' => z = .returned (.int .i64 x) ∧ w' = w := by
  go_enter Try.func34, Try.ntmps34
  go_wp2
  go_ret
  exact ⟨rfl, rfl⟩
/-- Two numbers, side by side. -/
abbrev N2 (w : World) (b o o' : Nat) (x y : Int) (W : World) : Prop := W.cell? ⟨b, o, none⟩ = some (.int .i64 x) ∧ W.cell? ⟨b, o', none⟩ = some (.int .i64 y) ∧ Below w.heap.size w W
theorem N2.on {w W W' : World} {b o o' : Nat} {x y : Int} (h : N2 w b o o' x y W) (hb : Below W.heap.size W W') : N2 w b o o' x y W' := by
  obtain ⟨c0, c1, B⟩ := h
  have l1 := cell_lt c0
  exact ⟨by rw [hb.cell (p := ⟨b, o, none⟩) l1]; exact c0, by rw [hb.cell (p := ⟨b, o', none⟩) l1]; exact c1, bstep B hb⟩
set_option maxRecDepth 100000 in
set_option maxHeartbeats 8000000 in
theorem implAscI (a : Option Addr) (cap : Nat) (l : List Int) (w : World) (h : IsInts w a l) (hl : l.length ≤ 2000000) (r : Bool) (hr : r = true ↔ AscI l) :
    Calls Try.prog 33 #[.slice a l.length cap, .func (.func 34) #[] #[]] w fun z w' => z = .returned (.bool r) ∧ Below w.heap.size w w' := by
  have HZ : Hid (IsInts w a l) := h
  have HR : Hid (r = true ↔ AscI l) := hr
  clear h hr
  go_enter Try.func33, Try.ntmps33
  go_wp2
  go_loopw [5] (fun i wr => ∃ k : Nat, 1 ≤ k ∧ k ≤ l.length + 1 ∧ i = .int .i64 k ∧ (∀ j, j + 1 < k → gi l j < gi l (j + 1)) ∧ Below w.heap.size w wr) (fun i _ => l.length + 1 - (intOf i).toNat)
  case atStart => exact ⟨1, by omega, by omega, rfl, fun j h => by omega, Below.refl _ _⟩
  case round =>
    obtain ⟨k, hk0, hk, rfl, ha, hb⟩ := hrel
    have HA : Hid (∀ j, j + 1 < k → gi l j < gi l (j + 1)) := ha
    clear ha
    by_cases hlt : k < l.length
    · have G1 := HZ.out.below hb
      rcases G1 with G1 | ⟨b, o, rfl, hbs, hc⟩
      · rw [G1] at hlt; simp at hlt
      obtain ⟨j, rfl⟩ : ∃ j, k = j + 1 := ⟨k - 1, by omega⟩
      have K : N2 w b (o + (j + 1)) (o + j) (gi l (j + 1)) (gi l j) wr := ⟨hc (j + 1) hlt, hc j (by omega), hb⟩
      have WJ : Hid (IntKind.i64.wrap (j : Int) = (j : Int)) := IntWalk.i64_in _ (by omega)
      have j0 : (0 : Int) ≤ (j : Int) := by omega
      have j1 : (j : Int) < (l.length : Int) := by omega
      have hi1 : ((j + 1 : Nat) : Int) < (l.length : Int) := by omega
      clear hc hb
      by_cases hg : gi l j < gi l (j + 1)
      · have HQ : Hid (∀ i, i + 1 < j + 1 + 1 → gi l i < gi l (i + 1)) := fun i hi => by
          by_cases e : i = j
          · subst e; exact hg
          · exact HA.out i (by omega)
        have HG : Hid (decide (gi l (j + 1) ≤ gi l j) = false) := decide_eq_false (by omega)
        clear HZ HA hg
        generalize gi l (j + 1) = Z at K HG
        generalize gi l j = Y at K HG
        go_wp2
        refine wp_region_cl (fun w' => N2 w b (o + (j + 1)) (o + j) Z Y w') (by kernel_rfl) (by kernel_rfl) (N2.on K (Below.refl _ _).drew) ?_
        clear K
        repeat (first
          | rw [WJ.out]
          | go_big_quiet_skip
          | (go_big_quiet_want; go_big_quiet_op; go_big_quiet_on)
          | (go_big_quiet_want
             apply Exists.intro
             refine ⟨fun w7 hC7 => ?_, ?_⟩
             · (have hC8 := hC7
                obtain ⟨y0, u0, _⟩ := hC7
                go_simp
                first
                  | done
                  | rfl
                  | exact ⟨rfl, rfl⟩
                  | (with_reducible refine (implDay1 Z _).mono ?_
                     rintro e w8 ⟨rfl, rfl⟩
                     exact ⟨rfl, hC8⟩)
                  | (with_reducible refine (implDay1 Y _).mono ?_
                     rintro e w8 ⟨rfl, rfl⟩
                     exact ⟨rfl, hC8⟩))
             (go_simp; go_big_quiet_on)))
        refine wpQuiet_nil ?_
        intro w7 K7
        have B7 := K7.2.2
        clear K7
        rw [HG.out]
        go_wp2
        go_roundw
        case rel => exact ⟨j + 1 + 1, by omega, by omega, by go_num, HQ.out, B7⟩
        case measure => simp [intOf]; omega
      · have HV : Hid (r = false) := by
          unfold Hid
          cases hrr : r with
          | false => rfl
          | true => exact absurd (HR.out.1 hrr j hlt) hg
        have HG : Hid (decide (gi l (j + 1) ≤ gi l j) = true) := decide_eq_true (by omega)
        clear HZ HA hg
        generalize gi l (j + 1) = Z at K HG
        generalize gi l j = Y at K HG
        go_wp2
        refine wp_region_cl (fun w' => N2 w b (o + (j + 1)) (o + j) Z Y w') (by kernel_rfl) (by kernel_rfl) (N2.on K (Below.refl _ _).drew) ?_
        clear K
        repeat (first
          | rw [WJ.out]
          | go_big_quiet_skip
          | (go_big_quiet_want; go_big_quiet_op; go_big_quiet_on)
          | (go_big_quiet_want
             apply Exists.intro
             refine ⟨fun w7 hC7 => ?_, ?_⟩
             · (have hC8 := hC7
                obtain ⟨y0, u0, _⟩ := hC7
                go_simp
                first
                  | done
                  | rfl
                  | exact ⟨rfl, rfl⟩
                  | (with_reducible refine (implDay1 Z _).mono ?_
                     rintro e w8 ⟨rfl, rfl⟩
                     exact ⟨rfl, hC8⟩)
                  | (with_reducible refine (implDay1 Y _).mono ?_
                     rintro e w8 ⟨rfl, rfl⟩
                     exact ⟨rfl, hC8⟩))
             (go_simp; go_big_quiet_on)))
        refine wpQuiet_nil ?_
        intro w7 K7
        have B7 := K7.2.2
        clear K7
        rw [HG.out]
        go_wp2
        go_ret
        exact ⟨ret_b HV.out.symm, B7⟩
    · have HV : Hid (r = true) := HR.out.2 (fun i hi => HA.out i (by omega))
      have hi2 : ¬ (k : Int) < (l.length : Int) := by omega
      go_wp2
      go_ret
      exact ⟨ret_b HV.out.symm, hb⟩
theorem implWd (x : Int) (b : Bool) (h : inB x 0 6 = b) (w : World) : Calls Try.prog 37 #[.int .i64 x] w fun z w' => z = .returned (.bool b) ∧ w' = w := by
  subst h
  by_cases h1 : x ≥ 0
  · by_cases h2 : x < 7
    · have HV : Hid (inB x 0 6 = true) := (in_iff _ _ _).2 ⟨by omega, by omega⟩
      go_enter Try.func37, Try.ntmps37
      go_wp2
      go_ret
      exact ⟨ret_b HV.out.symm, rfl⟩
    · have HV : Hid (inB x 0 6 = false) := (in_not _ _ _).2 (by omega)
      go_enter Try.func37, Try.ntmps37
      go_wp2
      go_ret
      exact ⟨ret_b HV.out.symm, rfl⟩
  · have HV : Hid (inB x 0 6 = false) := (in_not _ _ _).2 (by omega)
    go_enter Try.func37, Try.ntmps37
    go_wp2
    go_ret
    exact ⟨ret_b HV.out.symm, rfl⟩
theorem implDay2 (x : Int) (b : Bool) (h : inB x 0 6 = b) (w : World) : Calls Try.prog 36 #[.int .i64 x] w fun z w' => z = .returned (.bool !b) ∧ w' = w := by
  go_enter Try.func36, Try.ntmps36
  go_wp2_with fail
  refine (implWd x b h w).mono ?_
  rintro z w7 ⟨rfl, rfl⟩
  go_wp2
  go_ret
  exact ⟨rfl, rfl⟩
set_option maxRecDepth 100000 in
set_option maxHeartbeats 8000000 in
theorem implIdxDay (a : Option Addr) (cap : Nat) (l : List Int) (w : World) (h : IsInts w a l) (hl : l.length ≤ 2000000) :
    Calls Try.prog 43 #[.slice a l.length cap, .func (.func 36) #[] #[]] w fun z w' => (∃ n : Int, z = .returned (.int .i64 n) ∧ (0 ≤ n ↔ ¬ AllW l)) ∧ Below w.heap.size w w' := by
  have HZ : Hid (IsInts w a l) := h
  clear h
  go_enter Try.func43, Try.ntmps43
  go_wp2
  go_loopw [5, 8] (fun _ i wr => ∃ k : Nat, k ≤ l.length ∧ i = .int .i64 k ∧ (∀ j, j < k → inB (gi l j) 0 6 = true) ∧ Below w.heap.size w wr) (fun _ i _ => l.length - (intOf i).toNat)
  case atStart => exact ⟨0, by omega, rfl, fun j h => by omega, Below.refl _ _⟩
  case round =>
    obtain ⟨k, hk, rfl, ha, hb⟩ := hrel
    have HA : Hid (∀ j, j < k → inB (gi l j) 0 6 = true) := ha
    clear ha
    by_cases hlt : k < l.length
    · have G1 := HZ.out.below hb
      rcases G1 with G1 | ⟨b, o, rfl, hbs, hc⟩
      · rw [G1] at hlt; simp at hlt
      have c0 := hc k hlt
      have HW : Hid (Below w.heap.size w wr) := hb
      have hi0 : (0 : Int) ≤ (k : Int) := by omega
      have hi1 : (k : Int) < (l.length : Int) := by omega
      clear hc hb
      cases hg : inB (gi l k) 0 6 with
      | true =>
        have HG : Hid (inB (gi l k) 0 6 = true) := hg
        have HQ : Hid (∀ j, j < k + 1 → inB (gi l j) 0 6 = true) := fun j hj => by
          by_cases e : j = k
          · subst e; exact hg
          · exact HA.out j (by omega)
        clear hg
        go_wp2_with fail
        with_reducible refine (implDay2 (gi l k) true HG.out wr).mono ?_
        rintro z w7 ⟨rfl, rfl⟩
        have B7 := HW.out
        clear c0
        go_wp2
        go_roundw
        case rel => exact ⟨k + 1, by omega, by go_num, HQ.out, B7⟩
        case measure => simp [intOf]; omega
      | false =>
        have HG : Hid (inB (gi l k) 0 6 = false) := hg
        have HN : Hid (¬ AllW l) := fun hh => by have := (in_not _ _ _).1 hg; have := hh k hlt; omega
        clear hg
        go_wp2_with fail
        with_reducible refine (implDay2 (gi l k) false HG.out wr).mono ?_
        rintro z w7 ⟨rfl, rfl⟩
        have B7 := HW.out
        clear c0
        go_wp2
        go_ret
        refine ⟨⟨(k : Int), rfl, ?_⟩, B7⟩
        have q := HN.out
        exact ⟨fun _ => q, fun _ => by omega⟩
    · have HQ : Hid (AllW l) := fun i hi => (in_iff _ _ _).1 (HA.out i (by omega))
      have hi2 : ¬ (k : Int) < (l.length : Int) := by omega
      go_wp2
      go_ret
      refine ⟨⟨-1, rfl, ?_⟩, hb⟩
      have q := HQ.out
      exact ⟨fun h => absurd h (by decide), fun h => absurd q h⟩
theorem implHasDay (a : Option Addr) (cap : Nat) (l : List Int) (w : World) (h : IsInts w a l) (hl : l.length ≤ 2000000) (r : Bool) (hv : r = true ↔ AllW l) :
    Calls Try.prog 35 #[.slice a l.length cap, .func (.func 36) #[] #[]] w fun z w' => z = .returned (.bool !r) ∧ Below w.heap.size w w' := by
  have HI := implIdxDay a cap l w h hl
  have HV : Hid (r = true ↔ AllW l) := hv
  clear h hv
  go_enter Try.func35, Try.ntmps35
  go_wp2_with fail
  refine HI.mono ?_
  rintro z w7 ⟨⟨n, rfl, hn⟩, b7⟩
  have HN : Hid (0 ≤ n ↔ ¬ AllW l) := hn
  clear hn HI
  by_cases h0 : 0 ≤ n
  · have HD : Hid ((!r) = true) := by
      unfold Hid
      cases hrr : r with
      | false => rfl
      | true => exact absurd (HV.out.1 hrr) (HN.out.1 h0)
    go_wp2
    go_ret
    exact ⟨ret_b HD.out.symm, b7⟩
  · have HD : Hid ((!r) = false) := by
      unfold Hid
      cases hrr : r with
      | true => rfl
      | false =>
        have : ¬ AllW l := fun q => by have := HV.out.2 q; rw [hrr] at this; cases this
        exact absurd (HN.out.2 this) h0
    go_wp2
    go_ret
    exact ⟨by first | exact ret_b HD.out.symm | exact ret_b (by rw [HD.out]; exact decide_eq_false (by omega)), b7⟩
theorem implWeekDays (a : Option Addr) (cap : Nat) (l : List Int) (w : World) (h : IsInts w a l) (hl : l.length ≤ 2000000) (r : Bool) (hr : r = true ↔ AscI l ∧ AllW l) :
    Calls Try.prog 21 #[.slice a l.length cap] w fun z w' => z = .returned (.bool r) ∧ Below w.heap.size w w' := by
  have HZ : Hid (IsInts w a l) := h
  have HR : Hid (r = true ↔ AscI l ∧ AllW l) := hr
  obtain ⟨p, hp⟩ : ∃ p : Bool, p = true ↔ AscI l := by classical exact ⟨decide _, decide_eq_true_iff⟩
  obtain ⟨q, hq⟩ : ∃ q : Bool, q = true ↔ AllW l := by classical exact ⟨decide _, decide_eq_true_iff⟩
  have HP : Hid (p = true ↔ AscI l) := hp
  have HQ : Hid (q = true ↔ AllW l) := hq
  clear h hr hp hq
  go_enter Try.func21, Try.ntmps21
  go_wp2_with fail
  refine (implAscI a cap l w HZ.out hl p HP.out).mono ?_
  rintro z w1 ⟨rfl, b1⟩
  have HZ1 : Hid (IsInts w1 a l) := HZ.out.below b1
  have HB1 : Hid (Below w.heap.size w w1) := b1
  clear b1
  cases p with
  | false =>
    have HV : Hid (r = false) := by
      unfold Hid
      cases hrr : r with
      | false => rfl
      | true => exact absurd (HP.out.2 (HR.out.1 hrr).1) (by simp)
    have Bf := HB1.out
    go_wp2
    go_ret
    exact ⟨ret_b HV.out.symm, Bf⟩
  | true =>
    have HA : Hid (AscI l) := HP.out.1 rfl
    clear HP
    go_wp2_with fail
    refine (implHasDay a cap l w1 HZ1.out hl q HQ.out).mono ?_
    rintro z w2 ⟨rfl, b2⟩
    have B2 := bstep HB1.out b2
    clear b2
    have HV : Hid (r = q) := by
      unfold Hid
      rw [Bool.eq_iff_iff, HR.out, HQ.out]
      exact ⟨fun h => h.2, fun h => ⟨HA.out, h⟩⟩
    go_wp2
    go_ret
    exact ⟨by rw [HV.out]; first | rfl | (cases q <;> rfl), B2⟩
end Go.Proofs.Ytlhaldhfoeiohaa
