/- Edges are passed: how many, since when, and the spans that are over. -/
import Derived.Test.YtkbgbccehijckaaSg
import Derived.Deep.RegionLaw
namespace Go.Proofs.Ytkbgbccehijckaa
open Go.RowKit
set_option linter.unusedVariables false
/-- A tally in memory. -/
structure TL (w0 : World) (q : Nat) (c b : Int) (v : Value) (out : List (Int × Int)) (W : World) : Prop where
  c0 : W.cell? ⟨q, 0, none⟩ = some (.int .i64 c)
  c1 : W.cell? ⟨q, 1, none⟩ = some (.int .i64 b)
  c2 : W.cell? ⟨q, 2, none⟩ = some v
  fr : ∀ i, W.frozen? ⟨q, i, none⟩ = false
  own : OP W (q + 1) 51 v out
  bel : Below q w0 W
theorem TL.on {w0 W W' : World} {q : Nat} {c b : Int} {v : Value} {out : List (Int × Int)} (h : TL w0 q c b v out W) (hb : Below W.heap.size W W') : TL w0 q c b v out W' := by
  have lt := cell_lt h.c0
  exact ⟨by rw [hb.cell (p := ⟨q, 0, none⟩) lt]; exact h.c0, by rw [hb.cell (p := ⟨q, 1, none⟩) lt]; exact h.c1, by rw [hb.cell (p := ⟨q, 2, none⟩) lt]; exact h.c2, fun i => by rw [hb.frozen (p := ⟨q, i, none⟩) lt]; exact h.fr i, h.own.on hb, h.bel.trans (hb.mono (Nat.le_of_lt lt))⟩
theorem TL.setC {w0 W : World} {q : Nat} {c b : Int} {v : Value} {out : List (Int × Int)} (h : TL w0 q c b v out W) (n : Int) : TL w0 q n b v out (W.setCell ⟨q, 0, none⟩ (.int .i64 n)) :=
  ⟨World.cell?_setCell_same _ _ _ h.c0, by rw [World.cell?_setCell_other _ _ _ _ (by simp)]; exact h.c1, by rw [World.cell?_setCell_other _ _ _ _ (by simp)]; exact h.c2, fun i => by rw [World.frozen?_setCell]; exact h.fr i, ownsRow_setCell_below h.own (by simp) _, h.bel.setCell (p := ⟨q, 0, none⟩) (Nat.le_refl _) _⟩
theorem TL.setB {w0 W : World} {q : Nat} {c b : Int} {v : Value} {out : List (Int × Int)} (h : TL w0 q c b v out W) (n : Int) : TL w0 q c n v out (W.setCell ⟨q, 1, none⟩ (.int .i64 n)) :=
  ⟨by rw [World.cell?_setCell_other _ _ _ _ (by simp)]; exact h.c0, World.cell?_setCell_same _ _ _ h.c1, by rw [World.cell?_setCell_other _ _ _ _ (by simp)]; exact h.c2, fun i => by rw [World.frozen?_setCell]; exact h.fr i, ownsRow_setCell_below h.own (by simp) _, h.bel.setCell (p := ⟨q, 1, none⟩) (Nat.le_refl _) _⟩
set_option maxRecDepth 100000 in
set_option maxHeartbeats 8000000 in
theorem passA (w0 W : World) (q : Nat) (c b x st : Int) (v : Value) (out : List (Int × Int)) (h : TL w0 q c b v out W) (hc : -1000000 ≤ c ∧ c ≤ 1000000) (hs : -1 ≤ st ∧ st ≤ 1) (h0 : 0 < c) (h1 : 0 < c + st) :
    Calls Try.prog 62 #[.pointer (some ⟨q, 0, none⟩), .agg #[.int .i64 x, .int .i64 st]] W fun e w' => e = .returned (.tuple #[]) ∧ TL w0 q (c + st) b v out w' := by
  have g1 := IntWalk.i64_in (c + st) (by omega)
  have hq : q < W.heap.size := cell_lt h.c0
  have hqn : q ≠ W.heap.size := by omega
  have K3 : TL w0 q (c + st) b v out (((W.setCell ⟨q, 0, none⟩ (.int .i64 (c + st))).alloc (.cells #[.int .i64 x, .int .i64 st] 74)).drew) := ((h.setC (c + st)).on ((Below.refl _ _).alloc (Nat.le_refl _) _)).on (Below.refl _ _).drew
  have E0 : (((W.setCell ⟨q, 0, none⟩ (.int .i64 (c + st))).alloc (.cells #[.int .i64 x, .int .i64 st] 74)).drew).cell? ⟨W.heap.size, 0, none⟩ = some (.int .i64 x) := by simp [go_sem]
  have E1 : (((W.setCell ⟨q, 0, none⟩ (.int .i64 (c + st))).alloc (.cells #[.int .i64 x, .int .i64 st] 74)).drew).cell? ⟨W.heap.size, 1, none⟩ = some (.int .i64 st) := by simp [go_sem]
  have a0 := h.c0
  have a1 := h.c1
  have a2 := h.c2
  have b0 := h.fr 0
  have HK : Hid (TL w0 q (c + st) b v out (((W.setCell ⟨q, 0, none⟩ (.int .i64 (c + st))).alloc (.cells #[.int .i64 x, .int .i64 st] 74)).drew)) := K3
  have HE0 : Hid ((((W.setCell ⟨q, 0, none⟩ (.int .i64 (c + st))).alloc (.cells #[.int .i64 x, .int .i64 st] 74)).drew).cell? ⟨W.heap.size, 0, none⟩ = some (.int .i64 x)) := E0
  have HE1 : Hid ((((W.setCell ⟨q, 0, none⟩ (.int .i64 (c + st))).alloc (.cells #[.int .i64 x, .int .i64 st] 74)).drew).cell? ⟨W.heap.size, 1, none⟩ = some (.int .i64 st)) := E1
  clear K3 E0 E1 h
  go_enter Try.func62, Try.ntmps62
  go_wp2
  go_region_law fail
  all_goals
    generalize ((W.setCell ⟨q, 0, none⟩ (.int .i64 (c + st))).alloc (.cells #[.int .i64 x, .int .i64 st] 74)).drew = W3 at HK HE0 HE1 ⊢
    clear a0 a1 a2 b0 hqn
    have K := HK.out
    have E0 := HE0.out
    have E1 := HE1.out
    have a0 := K.c0
    have a1 := K.c1
    have f1 := K.fr 1
    clear HK HE0 HE1
    have K6 : QS W3 W.heap.size q 1 (.int .i64 x) (.int .i64 st) (.int .i64 b) W3 := ⟨E0, E1, a1, Below.refl _ _⟩
    go_wp2
    refine wp_region_cl (fun w' => QS W3 W.heap.size q 1 (.int .i64 x) (.int .i64 st) (.int .i64 b) w') (by kernel_rfl) (by kernel_rfl) (QS.on K6 (Below.refl _ _).drew) ?_
    clear K6 a0 a1 E0 E1 f1
    repeat (first
      | go_big_quiet_skip
      | (go_big_quiet_want; go_big_quiet_op; go_big_quiet_on)
      | (go_big_quiet_want
         apply Exists.intro
         refine ⟨fun w7 hC7 => ?_, ?_⟩
         · (have hC8 := hC7
            obtain ⟨y0, y1, y2, _⟩ := hC7
            go_simp
            first
              | done
              | rfl
              | exact ⟨rfl, rfl⟩)
         (go_simp; go_big_quiet_on)))
    refine wpQuiet_nil ?_
    intro w7 K7
    obtain ⟨y0, y1, y2, B7⟩ := K7
    replace K := K.on B7
    clear B7
    go_wp2
    refine bodyPost_end (v := .tuple #[]) (by simp [results, Try.results62, go_sem]) rfl ⟨rfl, K⟩
set_option maxRecDepth 100000 in
set_option maxHeartbeats 8000000 in
theorem passD (w0 W : World) (q : Nat) (c b x st : Int) (v : Value) (out : List (Int × Int)) (h : TL w0 q c b v out W) (hc : -1000000 ≤ c ∧ c ≤ 1000000) (hs : -1 ≤ st ∧ st ≤ 1) (h0 : ¬ 0 < c) (h1 : ¬ 0 < c + st) :
    Calls Try.prog 62 #[.pointer (some ⟨q, 0, none⟩), .agg #[.int .i64 x, .int .i64 st]] W fun e w' => e = .returned (.tuple #[]) ∧ TL w0 q (c + st) b v out w' := by
  have g1 := IntWalk.i64_in (c + st) (by omega)
  have hq : q < W.heap.size := cell_lt h.c0
  have hqn : q ≠ W.heap.size := by omega
  have K3 : TL w0 q (c + st) b v out (((W.setCell ⟨q, 0, none⟩ (.int .i64 (c + st))).alloc (.cells #[.int .i64 x, .int .i64 st] 74)).drew) := ((h.setC (c + st)).on ((Below.refl _ _).alloc (Nat.le_refl _) _)).on (Below.refl _ _).drew
  have E0 : (((W.setCell ⟨q, 0, none⟩ (.int .i64 (c + st))).alloc (.cells #[.int .i64 x, .int .i64 st] 74)).drew).cell? ⟨W.heap.size, 0, none⟩ = some (.int .i64 x) := by simp [go_sem]
  have E1 : (((W.setCell ⟨q, 0, none⟩ (.int .i64 (c + st))).alloc (.cells #[.int .i64 x, .int .i64 st] 74)).drew).cell? ⟨W.heap.size, 1, none⟩ = some (.int .i64 st) := by simp [go_sem]
  have a0 := h.c0
  have a1 := h.c1
  have a2 := h.c2
  have b0 := h.fr 0
  have HK : Hid (TL w0 q (c + st) b v out (((W.setCell ⟨q, 0, none⟩ (.int .i64 (c + st))).alloc (.cells #[.int .i64 x, .int .i64 st] 74)).drew)) := K3
  have HE0 : Hid ((((W.setCell ⟨q, 0, none⟩ (.int .i64 (c + st))).alloc (.cells #[.int .i64 x, .int .i64 st] 74)).drew).cell? ⟨W.heap.size, 0, none⟩ = some (.int .i64 x)) := E0
  have HE1 : Hid ((((W.setCell ⟨q, 0, none⟩ (.int .i64 (c + st))).alloc (.cells #[.int .i64 x, .int .i64 st] 74)).drew).cell? ⟨W.heap.size, 1, none⟩ = some (.int .i64 st)) := E1
  clear K3 E0 E1 h
  go_enter Try.func62, Try.ntmps62
  go_wp2
  go_region_law fail
  all_goals
    generalize ((W.setCell ⟨q, 0, none⟩ (.int .i64 (c + st))).alloc (.cells #[.int .i64 x, .int .i64 st] 74)).drew = W3 at HK HE0 HE1 ⊢
    clear a0 a1 a2 b0 hqn
    have K := HK.out
    have E0 := HE0.out
    have E1 := HE1.out
    have a0 := K.c0
    have a1 := K.c1
    have f1 := K.fr 1
    clear HK HE0 HE1
    have K6 : QS W3 W.heap.size q 1 (.int .i64 x) (.int .i64 st) (.int .i64 b) W3 := ⟨E0, E1, a1, Below.refl _ _⟩
    go_wp2
    refine wp_region_cl (fun w' => QS W3 W.heap.size q 1 (.int .i64 x) (.int .i64 st) (.int .i64 b) w') (by kernel_rfl) (by kernel_rfl) (QS.on K6 (Below.refl _ _).drew) ?_
    clear K6 a0 a1 E0 E1 f1
    repeat (first
      | go_big_quiet_skip
      | (go_big_quiet_want; go_big_quiet_op; go_big_quiet_on)
      | (go_big_quiet_want
         apply Exists.intro
         refine ⟨fun w7 hC7 => ?_, ?_⟩
         · (have hC8 := hC7
            obtain ⟨y0, y1, y2, _⟩ := hC7
            go_simp
            first
              | done
              | rfl
              | exact ⟨rfl, rfl⟩)
         (go_simp; go_big_quiet_on)))
    refine wpQuiet_nil ?_
    intro w7 K7
    obtain ⟨y0, y1, y2, B7⟩ := K7
    replace K := K.on B7
    clear B7
    go_wp2
    refine bodyPost_end (v := .tuple #[]) (by simp [results, Try.results62, go_sem]) rfl ⟨rfl, K⟩
set_option maxRecDepth 100000 in
set_option maxHeartbeats 8000000 in
theorem passE0 (w0 W : World) (q : Nat) (c b x st : Int) (v : Value) (out : List (Int × Int)) (h : TL w0 q c b v out W) (hc : -1000000 ≤ c ∧ c ≤ 1000000) (hs : -1 ≤ st ∧ st ≤ 1) (h0 : 0 < c) (h1 : ¬ 0 < c + st) (h2 : ¬ b < x) :
    Calls Try.prog 62 #[.pointer (some ⟨q, 0, none⟩), .agg #[.int .i64 x, .int .i64 st]] W fun e w' => e = .returned (.tuple #[]) ∧ TL w0 q (c + st) b v out w' := by
  have g1 := IntWalk.i64_in (c + st) (by omega)
  have hq : q < W.heap.size := cell_lt h.c0
  have hqn : q ≠ W.heap.size := by omega
  have K3 : TL w0 q (c + st) b v out (((W.setCell ⟨q, 0, none⟩ (.int .i64 (c + st))).alloc (.cells #[.int .i64 x, .int .i64 st] 74)).drew) := ((h.setC (c + st)).on ((Below.refl _ _).alloc (Nat.le_refl _) _)).on (Below.refl _ _).drew
  have E0 : (((W.setCell ⟨q, 0, none⟩ (.int .i64 (c + st))).alloc (.cells #[.int .i64 x, .int .i64 st] 74)).drew).cell? ⟨W.heap.size, 0, none⟩ = some (.int .i64 x) := by simp [go_sem]
  have E1 : (((W.setCell ⟨q, 0, none⟩ (.int .i64 (c + st))).alloc (.cells #[.int .i64 x, .int .i64 st] 74)).drew).cell? ⟨W.heap.size, 1, none⟩ = some (.int .i64 st) := by simp [go_sem]
  have a0 := h.c0
  have a1 := h.c1
  have a2 := h.c2
  have b0 := h.fr 0
  have HK : Hid (TL w0 q (c + st) b v out (((W.setCell ⟨q, 0, none⟩ (.int .i64 (c + st))).alloc (.cells #[.int .i64 x, .int .i64 st] 74)).drew)) := K3
  have HE0 : Hid ((((W.setCell ⟨q, 0, none⟩ (.int .i64 (c + st))).alloc (.cells #[.int .i64 x, .int .i64 st] 74)).drew).cell? ⟨W.heap.size, 0, none⟩ = some (.int .i64 x)) := E0
  have HE1 : Hid ((((W.setCell ⟨q, 0, none⟩ (.int .i64 (c + st))).alloc (.cells #[.int .i64 x, .int .i64 st] 74)).drew).cell? ⟨W.heap.size, 1, none⟩ = some (.int .i64 st)) := E1
  clear K3 E0 E1 h
  go_enter Try.func62, Try.ntmps62
  go_wp2
  go_region_law fail
  all_goals
    generalize ((W.setCell ⟨q, 0, none⟩ (.int .i64 (c + st))).alloc (.cells #[.int .i64 x, .int .i64 st] 74)).drew = W3 at HK HE0 HE1 ⊢
    clear a0 a1 a2 b0 hqn
    have K := HK.out
    have E0 := HE0.out
    have E1 := HE1.out
    have a0 := K.c0
    have a1 := K.c1
    have f1 := K.fr 1
    clear HK HE0 HE1
    have K6 : QS W3 W.heap.size q 1 (.int .i64 x) (.int .i64 st) (.int .i64 b) W3 := ⟨E0, E1, a1, Below.refl _ _⟩
    go_wp2
    refine wp_region_cl (fun w' => QS W3 W.heap.size q 1 (.int .i64 x) (.int .i64 st) (.int .i64 b) w') (by kernel_rfl) (by kernel_rfl) (QS.on K6 (Below.refl _ _).drew) ?_
    clear K6 a0 a1 E0 E1 f1
    repeat (first
      | go_big_quiet_skip
      | (go_big_quiet_want; go_big_quiet_op; go_big_quiet_on)
      | (go_big_quiet_want
         apply Exists.intro
         refine ⟨fun w7 hC7 => ?_, ?_⟩
         · (have hC8 := hC7
            obtain ⟨y0, y1, y2, _⟩ := hC7
            go_simp
            first
              | done
              | rfl
              | exact ⟨rfl, rfl⟩)
         (go_simp; go_big_quiet_on)))
    refine wpQuiet_nil ?_
    intro w7 K7
    obtain ⟨y0, y1, y2, B7⟩ := K7
    replace K := K.on B7
    clear B7
    go_wp2
    refine bodyPost_end (v := .tuple #[]) (by simp [results, Try.results62, go_sem]) rfl ⟨rfl, K⟩
end Go.Proofs.Ytkbgbccehijckaa
