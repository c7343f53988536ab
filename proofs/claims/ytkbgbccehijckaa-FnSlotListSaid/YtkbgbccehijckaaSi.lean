/- Edges are passed: the cases in which something begins, or ends. -/
import Derived.Test.YtkbgbccehijckaaSh
namespace Go.Proofs.Ytkbgbccehijckaa
open Go.RowKit
set_option linter.unusedVariables false
/-- What stands behind an append, ahead of the store. -/
theorem TL.grown {w0 W w4 : World} {q : Nat} {c b : Int} {v : Value} {out : List (Int × Int)} {o : Obj} (h : TL w0 q c b v out W) (hgrow : (W.alloc o).grownBy w4 v.ownBlock) :
    (∀ i, w4.cell? ⟨q, i, none⟩ = W.cell? ⟨q, i, none⟩) ∧ (∀ i, w4.frozen? ⟨q, i, none⟩ = false) ∧ Below q w0 w4 := by
  have lt := cell_lt h.c0
  have ba : Below W.heap.size W (W.alloc o) := (Below.refl _ _).alloc (Nat.le_refl _) o
  have hne : some q ≠ v.ownBlock := fun e => by have := (World.ownsRow.lt h.own q e.symm).1; omega
  refine ⟨fun i => ?_, fun i => ?_, ?_⟩
  · rw [hgrow.cell_far ⟨q, i, none⟩ (by simp; omega) hne]; exact ba.cell (p := ⟨q, i, none⟩) lt
  · rw [hgrow.frozen_far ⟨q, i, none⟩ (by simp; omega) hne, ba.frozen (p := ⟨q, i, none⟩) lt]; exact h.fr i
  · exact (h.bel.alloc (by omega) o).grown hgrow (by simp; omega) (fun k hk => by have := (World.ownsRow.lt h.own k hk).1; omega)
theorem TL.app {w0 W w4 : World} {q g cap : Nat} {c b x y : Int} {v : Value} {out : List (Int × Int)} {o : Obj} {n : Nat} (h : TL w0 q c b v out W) (hn : n = out.length + 1)
    (hown : w4.ownsRow (q + 1) 51 2 (.slice (some ⟨g, 0, none⟩) n cap) (out.length + 1) (pcs out ++ [.int .i64 x, .int .i64 y])) (hgrow : (W.alloc o).grownBy w4 v.ownBlock) :
    TL w0 q c b (.slice (some ⟨g, 0, none⟩) n cap) (out ++ [(x, y)]) (w4.setCell ⟨q, 2, none⟩ (.slice (some ⟨g, 0, none⟩) n cap)) := by
  obtain ⟨hc, hf, hb⟩ := h.grown hgrow
  have own' : OP w4 (q + 1) 51 (.slice (some ⟨g, 0, none⟩) n cap) (out ++ [(x, y)]) := by unfold OP; rw [pcs_snoc, List.length_append]; exact hown
  exact ⟨by rw [World.cell?_setCell_other _ _ _ _ (by simp), hc]; exact h.c0, by rw [World.cell?_setCell_other _ _ _ _ (by simp), hc]; exact h.c1, World.cell?_setCell_same _ _ _ ((hc 2).trans h.c2), fun i => by rw [World.frozen?_setCell]; exact hf i, ownsRow_setCell_below own' (by simp) _, hb.setCell (p := ⟨q, 2, none⟩) (Nat.le_refl _) _⟩
theorem spanInfo : (Try.prog.info? 51).map (fun i => (i.zero, i.size, i.bytes)) = some (some (.agg #[.int .i64 0, .int .i64 0]), 2, 16) := by kernel_rfl
set_option maxRecDepth 100000 in
set_option maxHeartbeats 8000000 in
theorem passB (w0 W : World) (q : Nat) (c b x st : Int) (v : Value) (out : List (Int × Int)) (h : TL w0 q c b v out W) (hc : -1000000 ≤ c ∧ c ≤ 1000000) (hs : -1 ≤ st ∧ st ≤ 1) (h0 : ¬ 0 < c) (h1 : 0 < c + st) :
    Calls Try.prog 62 #[.pointer (some ⟨q, 0, none⟩), .agg #[.int .i64 x, .int .i64 st]] W fun e w' => e = .returned (.tuple #[]) ∧ TL w0 q (c + st) x v out w' := by
  have g1 := IntWalk.i64_in (c + st) (by omega)
  have hq : q < W.heap.size := cell_lt h.c0
  have hqn : q ≠ W.heap.size := by omega
  have K3 : TL w0 q (c + st) b v out (((W.setCell ⟨q, 0, none⟩ (.int .i64 (c + st))).alloc (.cells #[.int .i64 x, .int .i64 st] 74)).drew) := ((h.setC (c + st)).on ((Below.refl _ _).alloc (Nat.le_refl _) _)).on (Below.refl _ _).drew
  have E0 : (((W.setCell ⟨q, 0, none⟩ (.int .i64 (c + st))).alloc (.cells #[.int .i64 x, .int .i64 st] 74)).drew).cell? ⟨W.heap.size, 0, none⟩ = some (.int .i64 x) := by simp [go_sem]
  have E1 : (((W.setCell ⟨q, 0, none⟩ (.int .i64 (c + st))).alloc (.cells #[.int .i64 x, .int .i64 st] 74)).drew).cell? ⟨W.heap.size, 1, none⟩ = some (.int .i64 st) := by simp [go_sem]
  have a0 := h.c0
  have a1 := h.c1
  have a2 := h.c2
  have b0 := h.fr 0
  have HK : Hid (TL w0 q (c + st) b v out (((W.setCell ⟨q, 0, none⟩ (.int .i64 (c + st))).alloc (.cells #[.int .i64 x, .int .i64 st] 74)).drew)) := K3
  have HE0 : Hid ((((W.setCell ⟨q, 0, none⟩ (.int .i64 (c + st))).alloc (.cells #[.int .i64 x, .int .i64 st] 74)).drew).cell? ⟨W.heap.size, 0, none⟩ = some (.int .i64 x)) := E0
  have HE1 : Hid ((((W.setCell ⟨q, 0, none⟩ (.int .i64 (c + st))).alloc (.cells #[.int .i64 x, .int .i64 st] 74)).drew).cell? ⟨W.heap.size, 1, none⟩ = some (.int .i64 st)) := E1
  clear K3 E0 E1 h
  go_enter Try.func62, Try.ntmps62
  go_wp2
  go_region_law fail
  all_goals
    generalize ((W.setCell ⟨q, 0, none⟩ (.int .i64 (c + st))).alloc (.cells #[.int .i64 x, .int .i64 st] 74)).drew = W3 at HK HE0 HE1 ⊢
    clear a0 a1 a2 b0 hqn
    have K := HK.out
    have E0 := HE0.out
    have E1 := HE1.out
    have a0 := K.c0
    have a1 := K.c1
    have f1 := K.fr 1
    clear HK HE0 HE1
    have hne : W.heap.size ≠ q := by omega
    have K6 : QS (W3.setCell ⟨q, 1, none⟩ (.int .i64 x)) W.heap.size q 1 (.int .i64 x) (.int .i64 st) (.int .i64 x) (W3.setCell ⟨q, 1, none⟩ (.int .i64 x)) := ⟨by rw [World.cell?_setCell_other _ _ _ _ (by simp)]; exact E0, by rw [World.cell?_setCell_other _ _ _ _ (by simp)]; exact E1, World.cell?_setCell_same _ _ _ a1, Below.refl _ _⟩
    have KB := K.setB x
    go_wp2
    refine wp_region_cl (fun w' => QS (W3.setCell ⟨q, 1, none⟩ (.int .i64 x)) W.heap.size q 1 (.int .i64 x) (.int .i64 st) (.int .i64 x) w') (by kernel_rfl) (by kernel_rfl) (QS.on K6 (Below.refl _ _).drew) ?_
    clear K6 a0 a1 E0 E1 f1 K
    repeat (first
      | go_big_quiet_skip
      | (go_big_quiet_want; go_big_quiet_op; go_big_quiet_on)
      | (go_big_quiet_want
         apply Exists.intro
         refine ⟨fun w7 hC7 => ?_, ?_⟩
         · (have hC8 := hC7
            obtain ⟨y0, y1, y2, _⟩ := hC7
            go_simp
            first
              | done
              | rfl
              | exact ⟨rfl, rfl⟩)
         (go_simp; go_big_quiet_on)))
    refine wpQuiet_nil ?_
    intro w7 K7
    obtain ⟨y0, y1, y2, B7⟩ := K7
    replace KB := KB.on B7
    clear B7
    go_wp2
    refine bodyPost_end (v := .tuple #[]) (by simp [results, Try.results62, go_sem]) rfl ⟨rfl, KB⟩
set_option maxRecDepth 100000 in
set_option maxHeartbeats 8000000 in
theorem passC (w0 W : World) (q : Nat) (c b x st : Int) (v : Value) (out : List (Int × Int)) (h : TL w0 q c b v out W) (hc : -1000000 ≤ c ∧ c ≤ 1000000) (hs : -1 ≤ st ∧ st ≤ 1) (h0 : 0 < c) (h1 : ¬ 0 < c + st) (h2 : b < x) (hl : out.length ≤ 1000000) :
    Calls Try.prog 62 #[.pointer (some ⟨q, 0, none⟩), .agg #[.int .i64 x, .int .i64 st]] W fun e w' => e = .returned (.tuple #[]) ∧ ∃ v', TL w0 q (c + st) b v' (out ++ [(b, x)]) w' := by
  obtain ⟨i0, hi, hz0, hz1, hz2⟩ := info_parts spanInfo
  have g1 := IntWalk.i64_in (c + st) (by omega)
  have hq : q < W.heap.size := cell_lt h.c0
  have hqn : q ≠ W.heap.size := by omega
  have K3 : TL w0 q (c + st) b v out (((W.setCell ⟨q, 0, none⟩ (.int .i64 (c + st))).alloc (.cells #[.int .i64 x, .int .i64 st] 74)).drew) := ((h.setC (c + st)).on ((Below.refl _ _).alloc (Nat.le_refl _) _)).on (Below.refl _ _).drew
  have E0 : (((W.setCell ⟨q, 0, none⟩ (.int .i64 (c + st))).alloc (.cells #[.int .i64 x, .int .i64 st] 74)).drew).cell? ⟨W.heap.size, 0, none⟩ = some (.int .i64 x) := by simp [go_sem]
  have E1 : (((W.setCell ⟨q, 0, none⟩ (.int .i64 (c + st))).alloc (.cells #[.int .i64 x, .int .i64 st] 74)).drew).cell? ⟨W.heap.size, 1, none⟩ = some (.int .i64 st) := by simp [go_sem]
  have a0 := h.c0
  have a1 := h.c1
  have a2 := h.c2
  have b0 := h.fr 0
  have HK : Hid (TL w0 q (c + st) b v out (((W.setCell ⟨q, 0, none⟩ (.int .i64 (c + st))).alloc (.cells #[.int .i64 x, .int .i64 st] 74)).drew)) := K3
  have HE0 : Hid ((((W.setCell ⟨q, 0, none⟩ (.int .i64 (c + st))).alloc (.cells #[.int .i64 x, .int .i64 st] 74)).drew).cell? ⟨W.heap.size, 0, none⟩ = some (.int .i64 x)) := E0
  have HE1 : Hid ((((W.setCell ⟨q, 0, none⟩ (.int .i64 (c + st))).alloc (.cells #[.int .i64 x, .int .i64 st] 74)).drew).cell? ⟨W.heap.size, 1, none⟩ = some (.int .i64 st)) := E1
  clear K3 E0 E1 h
  go_enter Try.func62, Try.ntmps62
  go_wp2
  go_region_law fail
  all_goals
    generalize ((W.setCell ⟨q, 0, none⟩ (.int .i64 (c + st))).alloc (.cells #[.int .i64 x, .int .i64 st] 74)).drew = W3 at HK HE0 HE1 ⊢
    clear a0 a1 a2 b0 hqn
    have K := HK.out
    have E0 := HE0.out
    have E1 := HE1.out
    have a0 := K.c0
    have a1 := K.c1
    have f1 := K.fr 1
    clear HK HE0 HE1
    have K6 : QS W3 W.heap.size q 1 (.int .i64 x) (.int .i64 st) (.int .i64 b) W3 := ⟨E0, E1, a1, Below.refl _ _⟩
    go_wp2
    refine wp_region_cl (fun w' => QS W3 W.heap.size q 1 (.int .i64 x) (.int .i64 st) (.int .i64 b) w') (by kernel_rfl) (by kernel_rfl) (QS.on K6 (Below.refl _ _).drew) ?_
    clear K6 a0 a1 E0 E1 f1
    repeat (first
      | go_big_quiet_skip
      | (go_big_quiet_want; go_big_quiet_op; go_big_quiet_on)
      | (go_big_quiet_want
         apply Exists.intro
         refine ⟨fun w7 hC7 => ?_, ?_⟩
         · (have hC8 := hC7
            obtain ⟨y0, y1, y2, _⟩ := hC7
            go_simp
            first
              | done
              | rfl
              | exact ⟨rfl, rfl⟩)
         (go_simp; go_big_quiet_on)))
    refine wpQuiet_nil ?_
    intro w7 K7
    obtain ⟨y0, y1, y2, B7⟩ := K7
    replace K := K.on B7
    clear B7
    have KD := K.on (Below.refl _ w7).drew
    have a0 := K.c0
    have a1 := K.c1
    have a2 := K.c2
    have f2 := K.fr 2
    have hq7 : q < w7.heap.size := cell_lt K.c0
    have HKD : Hid (TL w0 q (c + st) b v out w7.drew) := KD
    have hwn : W.heap.size ≠ w7.heap.size := by have := cell_lt y0; omega
    clear KD K
    go_wp2
    go_region_law
      (first
        | (refine step_append_lies _ rfl _ _ 24 rfl (q + 1) 51 i0 (.agg #[.int .i64 0, .int .i64 0]) 2 16 Try.underlying24 hi hz0 hz1 hz2 rfl (by decide) _ _ _ rfl (World.ownsRow.alloc HKD.out.own _) ⟨_, 0, none⟩ 1 1 [.int .i64 _, .int .i64 _] rfl rfl (World.news_of_block (heap_alloc_new w7.drew _)) (by simp [Value.oneCell']) (by decide) (by unfold maxLen; omega) (by omega) (by simp [go_sem]; omega) _ rfl ?_; intro g cap w8 hown hgrow hat hlt8; have G8 := TL.grown HKD.out hgrow; have z8 := G8.1 2; have z9 := G8.2.1 2; rw [show w7.drew.cell? ⟨q, 2, none⟩ = w7.cell? ⟨q, 2, none⟩ from rfl, a2] at z8; have K8 := TL.app HKD.out rfl hown hgrow; clear hown hgrow hat G8))
    all_goals (go_wp2; refine bodyPost_end (v := .tuple #[]) (by simp [results, Try.results62, go_sem]) rfl ⟨rfl, _, K8⟩)
end Go.Proofs.Ytkbgbccehijckaa
