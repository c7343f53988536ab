/- Rules of the program: days of the week, and the whole. -/
import Derived.Test.YtlfglhpepoepcaaDoorRv
import Derived.Test.YtlfglhpepoepcaaDoorCls
namespace Go.Proofs.YtlfglhpepoepcaaDoor
open Go.RowKit
set_option linter.unusedVariables false
theorem dst_bad1 {l : List (Int × Int)} {m : Int} {i : Nat} (h : inB (tSh l i) 0 6 = false) : dstB l m i = false := by unfold dstB; rw [h, Bool.false_and]
theorem dst_bad2 {l : List (Int × Int)} {m : Int} {i : Nat} (h : ¬ (-m ≤ tAt l i ∧ tAt l i ≤ m)) : dstB l m i = false := by unfold dstB; rw [(in_not _ _ _).2 h, Bool.false_and, Bool.and_false]
theorem dst_bad3 {l : List (Int × Int)} {m : Int} {j : Nat} (h : ahB (tAt l j) (tSh l j) (tAt l (j + 1)) (tSh l (j + 1)) = false) : dstB l m (j + 1) = false := by
  unfold dstB
  rw [decide_eq_false (by simp only [Nat.add_sub_cancel, h]; simp), Bool.and_false, Bool.and_false]
theorem dst_yes {l : List (Int × Int)} {m : Int} {j : Nat} (h0 : inB (tSh l (j + 1)) 0 6 = true) (h1 : -m ≤ tAt l (j + 1) ∧ tAt l (j + 1) ≤ m) (h : ahB (tAt l j) (tSh l j) (tAt l (j + 1)) (tSh l (j + 1)) = true) : dstB l m (j + 1) = true := by
  unfold dstB
  rw [h0, (in_iff _ _ _).2 h1, decide_eq_true (by simp only [Nat.add_sub_cancel, h]; simp)]; rfl
theorem dst_yes0 {l : List (Int × Int)} {m : Int} (h0 : inB (tSh l 0) 0 6 = true) (h1 : -m ≤ tAt l 0 ∧ tAt l 0 ≤ m) : dstB l m 0 = true := by
  unfold dstB
  rw [h0, (in_iff _ _ _).2 h1, decide_eq_true (fun h => absurd h (by omega))]; rfl
/-- The nine cells of a rule. -/
def C9 (w : World) (b : Nat) (vs : Array Value) : Prop := ∀ i v, vs[i]? = some v → w.cell? ⟨b, i, none⟩ = some v
theorem C9.on {w w' : World} {b : Nat} {vs : Array Value} (h : C9 w b vs) (hz : b < w.heap.size) (hb : Below w.heap.size w w') : C9 w' b vs := fun i v hv => by
  rw [hb.cell (p := ⟨b, i, none⟩) hz]; exact h i v hv
theorem C9.new (w : World) (vs : Array Value) (T : TypeId) : C9 (w.alloc (.cells vs T)) w.heap.size vs := fun i v hv => by
  rw [World.cell?_alloc_new]; exact hv
abbrev QD (w1 : World) (R B b o : Nat) (sl x y x' y' : Value) (W : World) : Prop := W.cell? ⟨R, 4, none⟩ = some sl ∧ W.cell? ⟨b, o, none⟩ = some x ∧ W.cell? ⟨b, o + 1, none⟩ = some y ∧ W.cell? ⟨B, 0, none⟩ = some x' ∧ W.cell? ⟨B, 1, none⟩ = some y' ∧ Below w1.heap.size w1 W
theorem QD.on {w1 W W' : World} {R B b o : Nat} {sl x y x' y' : Value} (h : QD w1 R B b o sl x y x' y' W) (hb : Below W.heap.size W W') : QD w1 R B b o sl x y x' y' W' := by
  obtain ⟨c0, c1, c2, c3, c4, B⟩ := h
  exact ⟨by rw [hb.cell (cell_lt c0)]; exact c0, by rw [hb.cell (cell_lt c1)]; exact c1, by rw [hb.cell (cell_lt c2)]; exact c2, by rw [hb.cell (cell_lt c3)]; exact c3, by rw [hb.cell (cell_lt c4)]; exact c4, bstep B hb⟩
set_option maxRecDepth 100000 in
set_option maxHeartbeats 8000000 in
theorem implDays (f ev ct un : Int) (a0 : Option Addr) (c0 : Nat) (ds : List (Int × Int)) (a1 : Option Addr) (c1 : Nat) (da : List Int) (a2 : Option Addr) (c2 : Nat) (mo : List Int) (a3 : Option Addr) (c3 : Nat) (pl : List Int) (wk : Int) (w : World) (h : IsTurns w a0 ds) (hl : ds.length ≤ 2000000) (m : Int) (hm : numM f mo.length = m) : Calls Tryd.prog 66 #[.agg #[.int .i64 f, .int .i64 ev, .int .i64 ct, .int .i64 un, .slice a0 ds.length c0, .slice a1 da.length c1, .slice a2 mo.length c2, .slice a3 pl.length c3, .int .i64 wk]] w fun z w' => z = .returned (.bool (dsB ds m)) ∧ Below w.heap.size w w' := by
  have hb0 := (Below.refl w.heap.size w).alloc (Nat.le_refl _) (.cells #[.int .i64 f, .int .i64 ev, .int .i64 ct, .int .i64 un, .slice a0 ds.length c0, .slice a1 da.length c1, .slice a2 mo.length c2, .slice a3 pl.length c3, .int .i64 wk] 26)
  by_cases h8 : ds.length ≤ 8
  · have HT : Hid (IsTurns w a0 ds) := h
    obtain ⟨m0, m1⟩ : 0 ≤ m ∧ m ≤ 53 := hm ▸ numM_in f mo.length
    have HM : Hid (numM f mo.length = m) := hm
    clear hm
    have C := C9.new w #[.int .i64 f, .int .i64 ev, .int .i64 ct, .int .i64 un, .slice a0 ds.length c0, .slice a1 da.length c1, .slice a2 mo.length c2, .slice a3 pl.length c3, .int .i64 wk] 26
    have HZ : Hid ((w.alloc (.cells #[.int .i64 f, .int .i64 ev, .int .i64 ct, .int .i64 un, .slice a0 ds.length c0, .slice a1 da.length c1, .slice a2 mo.length c2, .slice a3 pl.length c3, .int .i64 wk] 26)).heap.size = w.heap.size + 1) := by simp [Hid]
    clear h
    go_enter Tryd.func66, Tryd.ntmps66
    go_wp2_with fail
    generalize w.alloc (.cells #[.int .i64 f, .int .i64 ev, .int .i64 ct, .int .i64 un, .slice a0 ds.length c0, .slice a1 da.length c1, .slice a2 mo.length c2, .slice a3 pl.length c3, .int .i64 wk] 26) = W0 at hb0 C HZ ⊢
    refine (implNumMost f ev ct un a0 c0 ds a1 c1 da a2 c2 mo a3 c3 pl wk _).mono ?_
    rintro z w1 ⟨rfl, hb1⟩
    have B1 := bstep hb0 hb1
    have D := C.on (by rw [HZ.out]; omega) hb1
    have sz1 : w.heap.size < w1.heap.size := by have := hb1.size; rw [HZ.out] at this; omega
    clear C HZ hb0 hb1
    have d4 := D 4 (.slice a0 ds.length c0) rfl
    have HD : Hid (C9 w1 w.heap.size #[.int .i64 f, .int .i64 ev, .int .i64 ct, .int .i64 un, .slice a0 ds.length c0, .slice a1 da.length c1, .slice a2 mo.length c2, .slice a3 pl.length c3, .int .i64 wk]) := D
    clear D
    rw [HM.out]
    go_wp2
    go_loopw [4, 5, 15] (fun _ _ i wr => ∃ k : Nat, k ≤ ds.length ∧ i = .int .i64 k ∧ (∀ j, j < k → dstB ds m j = true) ∧ Below w1.heap.size w1 wr) (fun _ _ i _ => ds.length - (intOf i).toNat)
    case atStart => exact ⟨0, by omega, rfl, fun j h => by omega, Below.refl _ _⟩
    case round =>
      obtain ⟨k, hk, rfl, ha, hb⟩ := hrel
      have HA : Hid (∀ j, j < k → dstB ds m j = true) := ha
      clear ha
      have B2 := bstep B1 hb
      have e4 : wr.cell? ⟨w.heap.size, 4, none⟩ = some (.slice a0 ds.length c0) := by rw [hb.cell (p := ⟨w.heap.size, 4, none⟩) sz1]; exact d4
      have szr : w.heap.size < wr.heap.size := Nat.lt_of_lt_of_le sz1 hb.size
      have HB2 : Hid (Below w1.heap.size w1 wr) := hb
      clear d4 hb
      by_cases hlt : k < ds.length
      · have T := HT.out.below (B := 0) B2
        rcases T with T | ⟨b, off, rfl, hbs, hc⟩
        · rw [T] at hlt; simp at hlt
        obtain ⟨q0, q1⟩ := hc k hlt
        have hi0 : (0 : Int) ≤ (k : Int) := by omega
        have hi1 : (k : Int) < (ds.length : Int) := by omega
        have hbA : Below w.heap.size w (wr.alloc (.cells #[.int .i64 (tAt ds k), .int .i64 (tSh ds k)] 38)) := B2.alloc B2.size _
        have hbB : Below w1.heap.size w1 (wr.alloc (.cells #[.int .i64 (tAt ds k), .int .i64 (tSh ds k)] 38)) := HB2.out.alloc HB2.out.size _
        cases hd : inB (tSh ds k) 0 6 with
        | false =>
          have HB : Hid (dsB ds m = false) := ds_bad hlt (dst_bad1 hd)
          clear hc
          go_wp2_with (go_at_call 83; refine (implWeekDayR _ _ false hd).mono ?_; rintro e w' ⟨rfl, rfl⟩)
          first | go_quiet (fail) | skip
          go_wp2
          go_ret
          exact ⟨ret_b HB.out.symm, by first | exact hbA | exact Below.drewN' hbA _⟩
        | true =>
          by_cases n0 : tAt ds k < -m
          · have HB : Hid (dsB ds m = false) := ds_bad hlt (dst_bad2 (by omega))
            clear hc
            go_wp2_with (go_at_call 83; refine (implWeekDayR _ _ true hd).mono ?_; rintro e w' ⟨rfl, rfl⟩)
            first | go_quiet (fail) | skip
            go_wp2
            go_ret
            exact ⟨ret_b HB.out.symm, by first | exact hbA | exact Below.drewN' hbA _⟩
          · by_cases n1 : m < tAt ds k
            · have HB : Hid (dsB ds m = false) := ds_bad hlt (dst_bad2 (by omega))
              clear hc
              go_wp2_with (go_at_call 83; refine (implWeekDayR _ _ true hd).mono ?_; rintro e w' ⟨rfl, rfl⟩)
              first | go_quiet (fail) | skip
              go_wp2
              go_ret
              exact ⟨ret_b HB.out.symm, by first | exact hbA | exact Below.drewN' hbA _⟩
            · by_cases hk0 : 0 < k
              · obtain ⟨j, rfl⟩ : ∃ j, k = j + 1 := ⟨k - 1, by omega⟩
                obtain ⟨p0, p1⟩ := hc j (by omega)
                have q2 := IntWalk.i64_in ((j : Int) + 1 - 1) (by omega)
                clear hc
                have hj0 : (0 : Int) ≤ (j : Int) := by omega
                have hj1 : (j : Int) < (ds.length : Int) := by omega
                have q6 : ((j : Int) + 1) - 1 = (j : Int) := by omega
                have q3 := IntWalk.i64_in (j : Int) (by omega)
                cases hh : ahB (tAt ds j) (tSh ds j) (tAt ds (j + 1)) (tSh ds (j + 1)) with
                | false =>
                  have HB : Hid (dsB ds m = false) := ds_bad hlt (dst_bad3 hh)
                  have K6 : QD w1 w.heap.size wr.heap.size b (off + j * 2) (.slice (some ⟨b, off, none⟩) ds.length c0) (.int .i64 (tAt ds j)) (.int .i64 (tSh ds j)) (.int .i64 (tAt ds (j + 1))) (.int .i64 (tSh ds (j + 1))) (wr.alloc (.cells #[.int .i64 (tAt ds (j + 1)), .int .i64 (tSh ds (j + 1))] 38)) := ⟨by rw [World.cell?_alloc_old _ _ _ (Nat.ne_of_lt szr)]; exact e4, by rw [World.cell?_alloc_old _ _ _ (Nat.ne_of_lt hbs)]; exact p0, by rw [World.cell?_alloc_old _ _ _ (Nat.ne_of_lt hbs)]; exact p1, by simp, by simp, hbB⟩
                  go_wp2_with (go_at_call 83; refine (implWeekDayR _ _ true hd).mono ?_; rintro e w' ⟨rfl, rfl⟩)
                  generalize wr.alloc (.cells #[.int .i64 (tAt ds (j + 1)), .int .i64 (tSh ds (j + 1))] 38) = W3 at K6 ⊢
                  refine wp_region_cl (fun w' => QD w1 w.heap.size wr.heap.size b (off + j * 2) (.slice (some ⟨b, off, none⟩) ds.length c0) (.int .i64 (tAt ds j)) (.int .i64 (tSh ds j)) (.int .i64 (tAt ds (j + 1))) (.int .i64 (tSh ds (j + 1))) w') (by kernel_rfl) (by kernel_rfl) (QD.on K6 (Below.refl _ _).drew) ?_
                  clear K6 p0 p1 q0 q1 e4 hbA hbB
                  repeat (first
                    | go_big_quiet_skip
                    | (go_big_quiet_want; go_big_quiet_op; go_big_quiet_on)
                    | (go_big_quiet_want
                       apply Exists.intro
                       refine ⟨fun w7 hC7 => ?_, ?_⟩
                       · (have hC8 := hC7
                          obtain ⟨y0, y1, y2, y3, y4, _⟩ := hC7
                          go_simp
                          first
                            | done
                            | rfl
                            | exact ⟨rfl, rfl⟩
                            | (refine (implByAhead _ _ _ _ _ false hh).mono ?_
                               rintro e w8 ⟨rfl, hb8⟩
                               have k8 := QD.on hC8 hb8
                               exact ⟨rfl, k8⟩))
                       (go_simp; go_big_quiet_on)))
                  refine wpQuiet_nil ?_
                  intro w7 K7
                  obtain ⟨_, _, _, _, _, B7⟩ := K7
                  have B8 := bstep B1 B7
                  go_wp2
                  go_ret
                  exact ⟨ret_b HB.out.symm, B8⟩
                | true =>
                  have HG : Hid (∀ i, i < j + 1 + 1 → dstB ds m i = true) := dst_snoc HA.out (dst_yes hd ⟨by omega, by omega⟩ hh)
                  have K6 : QD w1 w.heap.size wr.heap.size b (off + j * 2) (.slice (some ⟨b, off, none⟩) ds.length c0) (.int .i64 (tAt ds j)) (.int .i64 (tSh ds j)) (.int .i64 (tAt ds (j + 1))) (.int .i64 (tSh ds (j + 1))) (wr.alloc (.cells #[.int .i64 (tAt ds (j + 1)), .int .i64 (tSh ds (j + 1))] 38)) := ⟨by rw [World.cell?_alloc_old _ _ _ (Nat.ne_of_lt szr)]; exact e4, by rw [World.cell?_alloc_old _ _ _ (Nat.ne_of_lt hbs)]; exact p0, by rw [World.cell?_alloc_old _ _ _ (Nat.ne_of_lt hbs)]; exact p1, by simp, by simp, hbB⟩
                  go_wp2_with (go_at_call 83; refine (implWeekDayR _ _ true hd).mono ?_; rintro e w' ⟨rfl, rfl⟩)
                  generalize wr.alloc (.cells #[.int .i64 (tAt ds (j + 1)), .int .i64 (tSh ds (j + 1))] 38) = W3 at K6 ⊢
                  refine wp_region_cl (fun w' => QD w1 w.heap.size wr.heap.size b (off + j * 2) (.slice (some ⟨b, off, none⟩) ds.length c0) (.int .i64 (tAt ds j)) (.int .i64 (tSh ds j)) (.int .i64 (tAt ds (j + 1))) (.int .i64 (tSh ds (j + 1))) w') (by kernel_rfl) (by kernel_rfl) (QD.on K6 (Below.refl _ _).drew) ?_
                  clear K6 p0 p1 q0 q1 e4 hbA hbB
                  repeat (first
                    | go_big_quiet_skip
                    | (go_big_quiet_want; go_big_quiet_op; go_big_quiet_on)
                    | (go_big_quiet_want
                       apply Exists.intro
                       refine ⟨fun w7 hC7 => ?_, ?_⟩
                       · (have hC8 := hC7
                          obtain ⟨y0, y1, y2, y3, y4, _⟩ := hC7
                          go_simp
                          first
                            | done
                            | rfl
                            | exact ⟨rfl, rfl⟩
                            | (refine (implByAhead _ _ _ _ _ true hh).mono ?_
                               rintro e w8 ⟨rfl, hb8⟩
                               have k8 := QD.on hC8 hb8
                               exact ⟨rfl, k8⟩))
                       (go_simp; go_big_quiet_on)))
                  refine wpQuiet_nil ?_
                  intro w7 K7
                  obtain ⟨_, _, _, _, _, B7⟩ := K7
                  have B8 := bstep B1 B7
                  go_wp2
                  go_roundw
                  case rel => exact ⟨j + 1 + 1, by omega, by go_num, HG.out, B7⟩
                  case measure => simp [intOf]; omega
              · have hk00 : k = 0 := by omega
                subst hk00
                have HG : Hid (∀ i, i < 0 + 1 → dstB ds m i = true) := dst_snoc HA.out (dst_yes0 hd ⟨by omega, by omega⟩)
                have p0 := q0
                have p1 := q1
                clear hc
                have z0 : ¬ (0 : Int) < ((0 : Nat) : Int) := by omega
                simp only [Nat.zero_mul, Nat.add_zero] at p0 p1 q0 q1
                have K6 : QD w1 w.heap.size wr.heap.size b off (.slice (some ⟨b, off, none⟩) ds.length c0) (.int .i64 (tAt ds 0)) (.int .i64 (tSh ds 0)) (.int .i64 (tAt ds 0)) (.int .i64 (tSh ds 0)) (wr.alloc (.cells #[.int .i64 (tAt ds 0), .int .i64 (tSh ds 0)] 38)) := ⟨by rw [World.cell?_alloc_old _ _ _ (Nat.ne_of_lt szr)]; exact e4, by rw [World.cell?_alloc_old _ _ _ (Nat.ne_of_lt hbs)]; exact p0, by rw [World.cell?_alloc_old _ _ _ (Nat.ne_of_lt hbs)]; exact p1, by simp, by simp, hbB⟩
                go_wp2_with (go_at_call 83; refine (implWeekDayR _ _ true hd).mono ?_; rintro e w' ⟨rfl, rfl⟩)
                generalize wr.alloc (.cells #[.int .i64 (tAt ds 0), .int .i64 (tSh ds 0)] 38) = W3 at K6 ⊢
                refine wp_region_cl (fun w' => QD w1 w.heap.size wr.heap.size b off (.slice (some ⟨b, off, none⟩) ds.length c0) (.int .i64 (tAt ds 0)) (.int .i64 (tSh ds 0)) (.int .i64 (tAt ds 0)) (.int .i64 (tSh ds 0)) w') (by kernel_rfl) (by kernel_rfl) (QD.on K6 (Below.refl _ _).drew) ?_
                clear K6 p0 p1 q0 q1 e4 hbA hbB
                repeat (first
                  | go_big_quiet_skip
                  | (go_big_quiet_want; go_big_quiet_op; go_big_quiet_on)
                  | (go_big_quiet_want
                     apply Exists.intro
                     refine ⟨fun w7 hC7 => ?_, ?_⟩
                     · (have hC8 := hC7
                        obtain ⟨y0, y1, y2, y3, y4, _⟩ := hC7
                        go_simp
                        first
                          | done
                          | rfl
                          | exact ⟨rfl, rfl⟩)
                     (go_simp; go_big_quiet_on)))
                refine wpQuiet_nil ?_
                intro w7 K7
                obtain ⟨_, _, _, _, _, B7⟩ := K7
                have B8 := bstep B1 B7
                go_wp2
                go_roundw
                case rel => exact ⟨0 + 1, by omega, by go_num, HG.out, B7⟩
                case measure => simp [intOf]; omega
      · have HR : Hid (dsB ds m = true) := by
          unfold Hid; rw [ds_all fun i hi => HA.out i (by omega)]; exact decide_eq_true (by omega)
        go_wp2
        go_ret
        exact ⟨ret_b HR.out.symm, B2⟩
  · have HR : Hid (dsB ds m = false) := ds_len h8
    clear h hm
    go_enter Tryd.func66, Tryd.ntmps66
    go_wp2
    go_ret
    exact ⟨ret_b HR.out.symm, hb0⟩
end Go.Proofs.YtlfglhpepoepcaaDoor
