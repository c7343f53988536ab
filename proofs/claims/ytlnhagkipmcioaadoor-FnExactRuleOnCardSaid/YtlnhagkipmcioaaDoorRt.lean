/- Rules of the specification: the whole. -/
import Derived.Test.YtlnhagkipmcioaaDoorRs
import Derived.Test.YtlnhagkipmcioaaDoorRx
namespace Go.Proofs.YtlnhagkipmcioaaDoor
open Go.RowKit
set_option linter.unusedVariables false
abbrev QE (w1 : World) (R b o o' : Nat) (sl x y x' y' : Value) (W : World) : Prop := W.cell? ⟨R, 4, none⟩ = some sl ∧ W.cell? ⟨b, o, none⟩ = some x ∧ W.cell? ⟨b, o + 1, none⟩ = some y ∧ W.cell? ⟨b, o', none⟩ = some x' ∧ W.cell? ⟨b, o' + 1, none⟩ = some y' ∧ Below w1.heap.size w1 W
theorem QE.on {w1 W W' : World} {R b o o' : Nat} {sl x y x' y' : Value} (h : QE w1 R b o o' sl x y x' y' W) (hb : Below W.heap.size W W') : QE w1 R b o o' sl x y x' y' W' := by
  obtain ⟨c0, c1, c2, c3, c4, B⟩ := h
  exact ⟨by rw [hb.cell (cell_lt c0)]; exact c0, by rw [hb.cell (cell_lt c1)]; exact c1, by rw [hb.cell (cell_lt c2)]; exact c2, by rw [hb.cell (cell_lt c3)]; exact c3, by rw [hb.cell (cell_lt c4)]; exact c4, bstep B hb⟩
theorem lv_yes {f : Int} {n0 n1 n2 n3 : Nat} (h1 : ¬ (f = 2 ∧ 0 < n1)) (h2 : ¬ (0 < n3 ∧ n0 = 0 ∧ n1 = 0 ∧ n2 = 0)) : (decide (¬ (f = 2 ∧ 0 < n1)) && decide (¬ (0 < n3 ∧ n0 = 0 ∧ n1 = 0 ∧ n2 = 0))) = true := by
  rw [Bool.and_eq_true]; exact ⟨decide_eq_true h1, decide_eq_true h2⟩
theorem lv_no1 {f : Int} {n0 n1 n2 n3 : Nat} (h : f = 2 ∧ 0 < n1) : (decide (¬ (f = 2 ∧ 0 < n1)) && decide (¬ (0 < n3 ∧ n0 = 0 ∧ n1 = 0 ∧ n2 = 0))) = false := by
  have e : decide (¬ (f = 2 ∧ 0 < n1)) = false := decide_eq_false (fun k => k h)
  rw [e, Bool.false_and]
theorem lv_no2 {f : Int} {n0 n1 n2 n3 : Nat} (h : 0 < n3 ∧ n0 = 0 ∧ n1 = 0 ∧ n2 = 0) : (decide (¬ (f = 2 ∧ 0 < n1)) && decide (¬ (0 < n3 ∧ n0 = 0 ∧ n1 = 0 ∧ n2 = 0))) = false := by
  have e : decide (¬ (0 < n3 ∧ n0 = 0 ∧ n1 = 0 ∧ n2 = 0)) = false := decide_eq_false (fun k => k h)
  rw [e, Bool.and_false]
set_option maxRecDepth 100000 in
set_option maxHeartbeats 64000000 in
theorem specRuleOkN (f ev ct un : Int) (a0 : Option Addr) (n0 c0 : Nat) (ds : List (Int × Int)) (a1 : Option Addr) (n1 c1 : Nat) (da : List Int) (a2 : Option Addr) (n2 c2 : Nat) (mo : List Int) (a3 : Option Addr) (n3 c3 : Nat) (pl : List Int) (wk : Int) (w : World) (h0 : IsTurns w a0 ds) (h1 : IsInts w a1 da) (h2 : IsInts w a2 mo) (h3 : IsInts w a3 pl) (l0 : ds.length ≤ 2000000) (l1 : da.length ≤ 2000000) (l2 : mo.length ≤ 2000000) (l3 : pl.length ≤ 2000000) (e0 : ds.length = n0) (e1 : da.length = n1) (e2 : mo.length = n2) (e3 : pl.length = n3) (m : Int) (hm : numM f n2 = m) (r1 r2 r3 : Bool) (hn1 : nuB da (-31) 31 = r1) (hn2 : nuB mo 1 12 = r2) (hn3 : nuB pl (-366) 366 = r3) (bf be bc bu bw : Bool) (hf : inB f 1 4 = bf) (he : inB ev 1 100 = be) (hc : inB ct 0 500 = bc) (hu : inB un 0 3652058 = bu) (hw : inB wk 0 6 = bw) : Calls Tryd.prog 20 #[.agg #[.int .i64 f, .int .i64 ev, .int .i64 ct, .int .i64 un, .slice a0 n0 c0, .slice a1 n1 c1, .slice a2 n2 c2, .slice a3 n3 c3, .int .i64 wk]] w fun z w' => z = .returned (.bool (ruB f ev ct un ds da mo pl wk)) ∧ Below w.heap.size w w' := by
  have K : QR w w.heap.size (.int .i64 f) (.int .i64 ev) (.int .i64 ct) (.int .i64 un) (.slice a0 n0 c0) (.slice a1 n1 c1) (.slice a2 n2 c2) (.slice a3 n3 c3) (.int .i64 wk) a0 ds a1 da a2 mo a3 pl (w.alloc (.cells #[.int .i64 f, .int .i64 ev, .int .i64 ct, .int .i64 un, .slice a0 n0 c0, .slice a1 n1 c1, .slice a2 n2 c2, .slice a3 n3 c3, .int .i64 wk] 30)) := QR.new _ h0 h1 h2 h3
  clear h0 h1 h2 h3
  have E0 : Hid (ds.length = n0) := e0
  have E1 : Hid (da.length = n1) := e1
  have E2 : Hid (mo.length = n2) := e2
  have E3 : Hid (pl.length = n3) := e3
  obtain ⟨m0, m1⟩ : 0 ≤ m ∧ m ≤ 53 := hm ▸ numM_in f n2
  have DBAD : Hid (dsA ds m = false → ruB f ev ct un ds da mo pl wk = false) := fun h => by
    unfold ruB dsB; rw [e2, hm, h]; simp
  have BAD : Hid (ofB f ev ct un wk = false → ruB f ev ct un ds da mo pl wk = false) := fun h => by unfold ruB; rw [h]; simp
  have GEN0 : Hid (dsA ds m = true → ofB f ev ct un wk = true → ruB f ev ct un ds da mo pl wk = (decide (n0 ≤ 8) && (decide (¬ (f = 2 ∧ 0 < n1)) && (decide (¬ (0 < n3 ∧ n0 = 0 ∧ n1 = 0 ∧ n2 = 0)) && (r1 && (r2 && r3)))))) := fun h g => by
    unfold ruB dsB liB; rw [e0, e1, e2, e3, hm, h, g, hn1, hn2, hn3]; simp
  have HM : Hid (numM f n2 = m) := hm
  have l1' : n1 ≤ 2000000 := by omega
  have l2' : n2 ≤ 2000000 := by omega
  have l3' : n3 ≤ 2000000 := by omega
  have l0' : n0 ≤ 2000000 := by omega
  clear hm e0 e1 e2 e3
  have X := K
  obtain ⟨x0, x1, x2, x3, x4, x5, x6, x7, x8, _⟩ := X
  go_enter Tryd.func20, Tryd.ntmps20
  go_wp2_with fail
  refine (specMost _ _ _ _ _ _ _ _ _ _ _ _ _ _ _ _ _ _ m HM.out).mono ?_
  rintro e w1 ⟨rfl, b1⟩
  replace K := QR.on K b1
  clear b1 x0 x1 x2 x3 x4 x5 x6 x7 x8
  go_wp2
  go_loopw [4] (fun i wr => ∃ k : Nat, k ≤ n0 ∧ i = .int .i64 k ∧ (∀ j, j < k → dstB ds m j = true) ∧ QR w w.heap.size (.int .i64 f) (.int .i64 ev) (.int .i64 ct) (.int .i64 un) (.slice a0 n0 c0) (.slice a1 n1 c1) (.slice a2 n2 c2) (.slice a3 n3 c3) (.int .i64 wk) a0 ds a1 da a2 mo a3 pl wr) (fun i _ => n0 - (intOf i).toNat)
  case atStart => exact ⟨0, by omega, rfl, fun j h => by omega, K⟩
  case round =>
    clear K
    obtain ⟨k, hk, rfl, ha, K⟩ := hrel
    have HA : Hid (∀ j, j < k → dstB ds m j = true) := ha
    clear ha
    have X := K
    obtain ⟨x0, x1, x2, x3, x4, x5, x6, x7, x8, _⟩ := X
    by_cases hlt : k < n0
    · have hlt' : k < ds.length := by rw [E0.out]; exact hlt
      have T := K.t
      rcases T with T | ⟨b, off, rfl, hbs, hcc⟩
      · rw [T] at hlt'; simp at hlt'
      obtain ⟨q0, q1⟩ := hcc k hlt'
      have hi0 : (0 : Int) ≤ (k : Int) := by omega
      have hi1 : (k : Int) < (n0 : Int) := by omega
      have qm := IntWalk.i64_in (-m) (by omega)
      have p0 := q0
      have p1 := q1
      clear hf he hc hu hw hn1 hn2 hn3
      cases hd : inB (tSh ds k) 0 6 with
      | false =>
        have HB : Hid (ruB f ev ct un ds da mo pl wk = false) := DBAD.out (dsA_bad hlt' (dst_bad1 hd))
        clear hcc
        generalize tAt ds k = X1 at *
        generalize tSh ds k = Y1 at *
        have K6 : QE wr w.heap.size b (off + k * 2) (off + k * 2) (.slice (some ⟨b, off, none⟩) n0 c0) (.int .i64 X1) (.int .i64 Y1) (.int .i64 X1) (.int .i64 Y1) wr := ⟨K.2.2.2.2.1, p0, p1, q0, q1, Below.refl _ _⟩
        go_wp2
        refine wp_region_cl (fun w' => QE wr w.heap.size b (off + k * 2) (off + k * 2) (.slice (some ⟨b, off, none⟩) n0 c0) (.int .i64 X1) (.int .i64 Y1) (.int .i64 X1) (.int .i64 Y1) w') (by kernel_rfl) (by kernel_rfl) (QE.on K6 (Below.refl _ _).drew) ?_
        clear K6 p0 p1 q0 q1 x0 x1 x2 x3 x4 x5 x6 x7 x8
        repeat (first
          | go_big_quiet_skip
          | (go_big_quiet_want; go_big_quiet_op; go_big_quiet_on)
          | (go_big_quiet_want
             apply Exists.intro
             refine ⟨fun w7 hC7 => ?_, ?_⟩
             · (have hC8 := hC7
                obtain ⟨y0, y1, y2, y3, y4, _⟩ := hC7
                go_simp
                first
                  | done
                  | rfl
                  | exact ⟨rfl, rfl⟩
                  | (refine (specIn _ _ _ _).mono ?_
                     rintro e w8 ⟨rfl, rfl⟩
                     first | rw [hd] | rw [hn]
                     exact ⟨rfl, hC8⟩))
             (go_simp; go_big_quiet_on)))
        refine wpQuiet_nil ?_
        intro w7 K7
        obtain ⟨_, _, _, _, _, B7⟩ := K7
        replace K := QR.on K B7
        clear B7
        go_wp2
        go_ret
        exact ⟨ret_b HB.out.symm, K.b⟩
      | true =>
        cases hn : inB (tAt ds k) (-m) m with
        | false =>
          have HB : Hid (ruB f ev ct un ds da mo pl wk = false) := DBAD.out (dsA_bad hlt' (dst_bad2 ((in_not _ _ _).1 hn)))
          clear hcc
          generalize tAt ds k = X1 at *
          generalize tSh ds k = Y1 at *
          have K6 : QE wr w.heap.size b (off + k * 2) (off + k * 2) (.slice (some ⟨b, off, none⟩) n0 c0) (.int .i64 X1) (.int .i64 Y1) (.int .i64 X1) (.int .i64 Y1) wr := ⟨K.2.2.2.2.1, p0, p1, q0, q1, Below.refl _ _⟩
          go_wp2
          refine wp_region_cl (fun w' => QE wr w.heap.size b (off + k * 2) (off + k * 2) (.slice (some ⟨b, off, none⟩) n0 c0) (.int .i64 X1) (.int .i64 Y1) (.int .i64 X1) (.int .i64 Y1) w') (by kernel_rfl) (by kernel_rfl) (QE.on K6 (Below.refl _ _).drew) ?_
          clear K6 p0 p1 q0 q1 x0 x1 x2 x3 x4 x5 x6 x7 x8
          repeat (first
            | go_big_quiet_skip
            | (go_big_quiet_want; go_big_quiet_op; go_big_quiet_on)
            | (go_big_quiet_want
               apply Exists.intro
               refine ⟨fun w7 hC7 => ?_, ?_⟩
               · (have hC8 := hC7
                  obtain ⟨y0, y1, y2, y3, y4, _⟩ := hC7
                  go_simp
                  first
                    | done
                    | rfl
                    | exact ⟨rfl, rfl⟩
                    | (refine (specIn _ _ _ _).mono ?_
                       rintro e w8 ⟨rfl, rfl⟩
                       first | rw [hd] | rw [hn]
                       exact ⟨rfl, hC8⟩))
               (go_simp; go_big_quiet_on)))
          refine wpQuiet_nil ?_
          intro w7 K7
          obtain ⟨_, _, _, _, _, B7⟩ := K7
          replace K := QR.on K B7
          clear B7
          go_wp2
          go_ret
          exact ⟨ret_b HB.out.symm, K.b⟩
        | true =>
          have hn' := (in_iff _ _ _).1 hn
          clear p0 p1
          by_cases hk0 : 0 < k
          · obtain ⟨j, rfl⟩ : ∃ j, k = j + 1 := ⟨k - 1, by omega⟩
            obtain ⟨p0, p1⟩ := hcc j (by omega)
            have q2 := IntWalk.i64_in ((j : Int) + 1 - 1) (by omega)
            have hj0 : (0 : Int) ≤ (j : Int) := by omega
            have hj1 : (j : Int) < (n0 : Int) := by omega
            have q6 : ((j : Int) + 1) - 1 = (j : Int) := by omega
            have q3 := IntWalk.i64_in (j : Int) (by omega)
            clear hcc
            cases hh : ahB (tAt ds j) (tSh ds j) (tAt ds (j + 1)) (tSh ds (j + 1)) with
            | false =>
              have HB : Hid (ruB f ev ct un ds da mo pl wk = false) := DBAD.out (dsA_bad hlt' (dst_bad3 hh))
              generalize tAt ds (j + 1) = X1 at *
              generalize tSh ds (j + 1) = Y1 at *
              generalize tAt ds j = X0 at *
              generalize tSh ds j = Y0 at *
              have K6 : QE wr w.heap.size b (off + j * 2) (off + (j + 1) * 2) (.slice (some ⟨b, off, none⟩) n0 c0) (.int .i64 X0) (.int .i64 Y0) (.int .i64 X1) (.int .i64 Y1) wr := ⟨K.2.2.2.2.1, p0, p1, q0, q1, Below.refl _ _⟩
              go_wp2
              refine wp_region_cl (fun w' => QE wr w.heap.size b (off + j * 2) (off + (j + 1) * 2) (.slice (some ⟨b, off, none⟩) n0 c0) (.int .i64 X0) (.int .i64 Y0) (.int .i64 X1) (.int .i64 Y1) w') (by kernel_rfl) (by kernel_rfl) (QE.on K6 (Below.refl _ _).drew) ?_
              clear K6 p0 p1 q0 q1 x0 x1 x2 x3 x4 x5 x6 x7 x8
              repeat (first
                | go_big_quiet_skip
                | (go_big_quiet_want; go_big_quiet_op; go_big_quiet_on)
                | (go_big_quiet_want
                   apply Exists.intro
                   refine ⟨fun w7 hC7 => ?_, ?_⟩
                   · (have hC8 := hC7
                      obtain ⟨y0, y1, y2, y3, y4, _⟩ := hC7
                      go_simp
                      first
                        | done
                        | rfl
                        | exact ⟨rfl, rfl⟩
                        | (refine (specIn _ _ _ _).mono ?_
                           rintro e w8 ⟨rfl, rfl⟩
                           first | rw [hd] | rw [hn]
                           exact ⟨rfl, hC8⟩)
                        | (refine (specAhead _ _ _ _ _ _ hh).mono ?_
                           rintro e w8 ⟨rfl, hb8⟩
                           exact ⟨rfl, QE.on hC8 hb8⟩))
                   (go_simp; go_big_quiet_on)))
              refine wpQuiet_nil ?_
              intro w7 K7
              obtain ⟨_, _, _, _, _, B7⟩ := K7
              replace K := QR.on K B7
              clear B7
              go_wp2
              go_ret
              exact ⟨ret_b HB.out.symm, K.b⟩
            | true =>
              have HG : Hid (∀ i, i < j + 1 + 1 → dstB ds m i = true) := dst_snoc HA.out (dst_yes hd hn' hh)
              generalize tAt ds (j + 1) = X1 at *
              generalize tSh ds (j + 1) = Y1 at *
              generalize tAt ds j = X0 at *
              generalize tSh ds j = Y0 at *
              have K6 : QE wr w.heap.size b (off + j * 2) (off + (j + 1) * 2) (.slice (some ⟨b, off, none⟩) n0 c0) (.int .i64 X0) (.int .i64 Y0) (.int .i64 X1) (.int .i64 Y1) wr := ⟨K.2.2.2.2.1, p0, p1, q0, q1, Below.refl _ _⟩
              go_wp2
              refine wp_region_cl (fun w' => QE wr w.heap.size b (off + j * 2) (off + (j + 1) * 2) (.slice (some ⟨b, off, none⟩) n0 c0) (.int .i64 X0) (.int .i64 Y0) (.int .i64 X1) (.int .i64 Y1) w') (by kernel_rfl) (by kernel_rfl) (QE.on K6 (Below.refl _ _).drew) ?_
              clear K6 p0 p1 q0 q1 x0 x1 x2 x3 x4 x5 x6 x7 x8
              repeat (first
                | go_big_quiet_skip
                | (go_big_quiet_want; go_big_quiet_op; go_big_quiet_on)
                | (go_big_quiet_want
                   apply Exists.intro
                   refine ⟨fun w7 hC7 => ?_, ?_⟩
                   · (have hC8 := hC7
                      obtain ⟨y0, y1, y2, y3, y4, _⟩ := hC7
                      go_simp
                      first
                        | done
                        | rfl
                        | exact ⟨rfl, rfl⟩
                        | (refine (specIn _ _ _ _).mono ?_
                           rintro e w8 ⟨rfl, rfl⟩
                           first | rw [hd] | rw [hn]
                           exact ⟨rfl, hC8⟩)
                        | (refine (specAhead _ _ _ _ _ _ hh).mono ?_
                           rintro e w8 ⟨rfl, hb8⟩
                           exact ⟨rfl, QE.on hC8 hb8⟩))
                   (go_simp; go_big_quiet_on)))
              refine wpQuiet_nil ?_
              intro w7 K7
              obtain ⟨_, _, _, _, _, B7⟩ := K7
              replace K := QR.on K B7
              clear B7
              go_wp2
              go_roundw
              case rel => exact ⟨j + 1 + 1, by omega, by go_num, HG.out, K⟩
              case measure => simp [intOf]; omega
          · have hk00 : k = 0 := by omega
            subst hk00
            have HG : Hid (∀ i, i < 0 + 1 → dstB ds m i = true) := dst_snoc HA.out (dst_yes0 hd hn')
            clear hcc
            have z0 : ¬ (0 : Int) < ((0 : Nat) : Int) := by omega
            simp only [Nat.zero_mul, Nat.add_zero] at q0 q1
            have p0 := q0
            have p1 := q1
            generalize tAt ds 0 = X1 at *
            generalize tSh ds 0 = Y1 at *
            have K6 : QE wr w.heap.size b off off (.slice (some ⟨b, off, none⟩) n0 c0) (.int .i64 X1) (.int .i64 Y1) (.int .i64 X1) (.int .i64 Y1) wr := ⟨K.2.2.2.2.1, p0, p1, q0, q1, Below.refl _ _⟩
            go_wp2
            refine wp_region_cl (fun w' => QE wr w.heap.size b off off (.slice (some ⟨b, off, none⟩) n0 c0) (.int .i64 X1) (.int .i64 Y1) (.int .i64 X1) (.int .i64 Y1) w') (by kernel_rfl) (by kernel_rfl) (QE.on K6 (Below.refl _ _).drew) ?_
            clear K6 p0 p1 q0 q1 x0 x1 x2 x3 x4 x5 x6 x7 x8
            repeat (first
              | go_big_quiet_skip
              | (go_big_quiet_want; go_big_quiet_op; go_big_quiet_on)
              | (go_big_quiet_want
                 apply Exists.intro
                 refine ⟨fun w7 hC7 => ?_, ?_⟩
                 · (have hC8 := hC7
                    obtain ⟨y0, y1, y2, y3, y4, _⟩ := hC7
                    go_simp
                    first
                      | done
                      | rfl
                      | exact ⟨rfl, rfl⟩
                      | (refine (specIn _ _ _ _).mono ?_
                         rintro e w8 ⟨rfl, rfl⟩
                         first | rw [hd] | rw [hn]
                         exact ⟨rfl, hC8⟩))
                 (go_simp; go_big_quiet_on)))
            refine wpQuiet_nil ?_
            intro w7 K7
            obtain ⟨_, _, _, _, _, B7⟩ := K7
            replace K := QR.on K B7
            clear B7
            go_wp2
            go_roundw
            case rel => exact ⟨0 + 1, by omega, by go_num, HG.out, K⟩
            case measure => simp [intOf]; omega
    · have GEN : Hid (ofB f ev ct un wk = true → ruB f ev ct un ds da mo pl wk = (decide (n0 ≤ 8) && (decide (¬ (f = 2 ∧ 0 < n1)) && (decide (¬ (0 < n3 ∧ n0 = 0 ∧ n1 = 0 ∧ n2 = 0)) && (r1 && (r2 && r3)))))) := GEN0.out ((dsA_iff _ _).2 fun i hi => HA.out i (by have := E0.out; omega))
      clear DBAD GEN0
      have hi1 : ¬ (k : Int) < (n0 : Int) := by omega
      cases bf with
      | false =>
        have HB : Hid (ruB f ev ct un ds da mo pl wk = false) := BAD.out (by simp [ofB, hf, he, hc, hu, hw])
        go_wp2_with (go_at_call 21; refine (specIn _ _ _ _).mono ?_; rintro e w' ⟨rfl, rfl⟩; first | rw [hf] | rw [he] | rw [hc] | rw [hu] | rw [hw])
        go_ret
        exact ⟨ret_b HB.out.symm, K.b⟩
      | true =>
        cases be with
        | false =>
          have HB : Hid (ruB f ev ct un ds da mo pl wk = false) := BAD.out (by simp [ofB, hf, he, hc, hu, hw])
          go_wp2_with (go_at_call 21; refine (specIn _ _ _ _).mono ?_; rintro e w' ⟨rfl, rfl⟩; first | rw [hf] | rw [he] | rw [hc] | rw [hu] | rw [hw])
          go_ret
          exact ⟨ret_b HB.out.symm, K.b⟩
        | true =>
          cases bc with
          | false =>
            have HB : Hid (ruB f ev ct un ds da mo pl wk = false) := BAD.out (by simp [ofB, hf, he, hc, hu, hw])
            go_wp2_with (go_at_call 21; refine (specIn _ _ _ _).mono ?_; rintro e w' ⟨rfl, rfl⟩; first | rw [hf] | rw [he] | rw [hc] | rw [hu] | rw [hw])
            go_ret
            exact ⟨ret_b HB.out.symm, K.b⟩
          | true =>
            cases bu with
            | false =>
              have HB : Hid (ruB f ev ct un ds da mo pl wk = false) := BAD.out (by simp [ofB, hf, he, hc, hu, hw])
              go_wp2_with (go_at_call 21; refine (specIn _ _ _ _).mono ?_; rintro e w' ⟨rfl, rfl⟩; first | rw [hf] | rw [he] | rw [hc] | rw [hu] | rw [hw])
              go_ret
              exact ⟨ret_b HB.out.symm, K.b⟩
            | true =>
              have c' := (in_iff _ _ _).1 hc
              have u' := (in_iff _ _ _).1 hu
              by_cases cu : 0 < ct ∧ 0 < un
              · obtain ⟨cu0, cu1⟩ := cu
                have HB : Hid (ruB f ev ct un ds da mo pl wk = false) := BAD.out (by
                  have : ¬ (ct = 0 ∨ un = 0) := by omega
                  simp [ofB, hf, he, hc, hu, hw, this])
                go_wp2_with (go_at_call 21; refine (specIn _ _ _ _).mono ?_; rintro e w' ⟨rfl, rfl⟩; first | rw [hf] | rw [he] | rw [hc] | rw [hu] | rw [hw])
                go_ret
                exact ⟨ret_b HB.out.symm, K.b⟩
              · have cz : ct = 0 ∨ un = 0 := by omega
                have CZ : Hid (ofB f ev ct un wk = bw) := by unfold Hid ofB; rw [hf, he, hc, hu, hw]; simp [cz]
                have cases2 : (0 < ct) = False ∨ ((0 < ct) = True ∧ (0 < un) = False) := by
                  rcases cz with z | z
                  · exact .inl (by simp; omega)
                  · by_cases q : 0 < ct
                    · exact .inr ⟨by simp [q], by simp; omega⟩
                    · exact .inl (by simp; omega)
                clear cu cz
                rcases cases2 with z1 | ⟨z1, z2⟩
                · skip
                  cases bw with
                  | false =>
                    have HB : Hid (ruB f ev ct un ds da mo pl wk = false) := BAD.out CZ.out
                    go_wp2_with (go_at_call 21; refine (specIn _ _ _ _).mono ?_; rintro e w' ⟨rfl, rfl⟩; first | rw [hf] | rw [he] | rw [hc] | rw [hu] | rw [hw])
                    go_ret
                    exact ⟨ret_b HB.out.symm, K.b⟩
                  | true =>
                    go_wp2_with (go_at_call 21; refine (specIn _ _ _ _).mono ?_; rintro e w' ⟨rfl, rfl⟩; first | rw [hf] | rw [he] | rw [hc] | rw [hu] | rw [hw])
                    have RU := GEN.out CZ.out
                    cases r1 with
                    | false =>
                      have HB : Hid (ruB f ev ct un ds da mo pl wk = false) := RU.trans (by simp)
                      refine (specInts _ _ _ da _ _ _ (QR.i1 K) l1 E1.out _ hn1).mono ?_
                      rintro e w1 ⟨rfl, b1⟩
                      replace K := QR.on K b1
                      clear b1 x0 x1 x2 x3 x4 x5 x6 x7 x8
                      have X := K
                      obtain ⟨x0, x1, x2, x3, x4, x5, x6, x7, x8, _⟩ := X
                      go_wp2
                      go_ret
                      exact ⟨ret_b HB.out.symm, K.b⟩
                    | true =>
                      refine (specInts _ _ _ da _ _ _ (QR.i1 K) l1 E1.out _ hn1).mono ?_
                      rintro e w1 ⟨rfl, b1⟩
                      replace K := QR.on K b1
                      clear b1 x0 x1 x2 x3 x4 x5 x6 x7 x8
                      have X := K
                      obtain ⟨x0, x1, x2, x3, x4, x5, x6, x7, x8, _⟩ := X
                      go_wp2_with fail
                      cases r2 with
                      | false =>
                        have HB : Hid (ruB f ev ct un ds da mo pl wk = false) := RU.trans (by simp)
                        refine (specInts _ _ _ mo _ _ _ (QR.i2 K) l2 E2.out _ hn2).mono ?_
                        rintro e w1 ⟨rfl, b1⟩
                        replace K := QR.on K b1
                        clear b1 x0 x1 x2 x3 x4 x5 x6 x7 x8
                        have X := K
                        obtain ⟨x0, x1, x2, x3, x4, x5, x6, x7, x8, _⟩ := X
                        go_wp2
                        go_ret
                        exact ⟨ret_b HB.out.symm, K.b⟩
                      | true =>
                        refine (specInts _ _ _ mo _ _ _ (QR.i2 K) l2 E2.out _ hn2).mono ?_
                        rintro e w1 ⟨rfl, b1⟩
                        replace K := QR.on K b1
                        clear b1 x0 x1 x2 x3 x4 x5 x6 x7 x8
                        have X := K
                        obtain ⟨x0, x1, x2, x3, x4, x5, x6, x7, x8, _⟩ := X
                        go_wp2_with fail
                        cases r3 with
                        | false =>
                          have HB : Hid (ruB f ev ct un ds da mo pl wk = false) := RU.trans (by simp)
                          refine (specInts _ _ _ pl _ _ _ (QR.i3 K) l3 E3.out _ hn3).mono ?_
                          rintro e w1 ⟨rfl, b1⟩
                          replace K := QR.on K b1
                          clear b1 x0 x1 x2 x3 x4 x5 x6 x7 x8
                          have X := K
                          obtain ⟨x0, x1, x2, x3, x4, x5, x6, x7, x8, _⟩ := X
                          go_wp2
                          go_ret
                          exact ⟨ret_b HB.out.symm, K.b⟩
                        | true =>
                          refine (specInts _ _ _ pl _ _ _ (QR.i3 K) l3 E3.out _ hn3).mono ?_
                          rintro e w1 ⟨rfl, b1⟩
                          replace K := QR.on K b1
                          clear b1 x0 x1 x2 x3 x4 x5 x6 x7 x8
                          have X := K
                          obtain ⟨x0, x1, x2, x3, x4, x5, x6, x7, x8, _⟩ := X
                          by_cases h8 : n0 ≤ 8
                          · have LV : Hid (ruB f ev ct un ds da mo pl wk = (decide (¬ (f = 2 ∧ 0 < n1)) && decide (¬ (0 < n3 ∧ n0 = 0 ∧ n1 = 0 ∧ n2 = 0)))) := RU.trans (by rw [decide_eq_true h8]; simp)
                            have h8' : ¬ (8 : Int) < (n0 : Int) := by omega
                            clear RU GEN BAD
                            by_cases g1 : f = 2
                            · subst g1
                              by_cases g0 : n1 = 0
                              · subst g0
                                by_cases p0 : n3 = 0
                                · subst p0
                                  have HV : Hid (ruB 2 ev ct un ds da mo pl wk = true) := LV.out.trans (lv_yes (by omega) (by omega))
                                  go_wp2
                                  go_ret
                                  exact ⟨ret_b HV.out.symm, K.b⟩
                                · have z3 : ((n3 : Int) == 0) = false := by simpa using p0
                                  by_cases s0 : 0 < n0 + 0 + n2
                                  · have HV : Hid (ruB 2 ev ct un ds da mo pl wk = true) := LV.out.trans (lv_yes (by omega) (by omega))
                                    have s1 : (0 : Int) < (n0 : Int) + (0 : Int) + (n2 : Int) := by omega
                                    go_wp2
                                    go_ret
                                    exact ⟨ret_b (HV.out.trans (by first | rfl | exact (decide_eq_true (by omega)).symm | exact (decide_eq_false (by omega)).symm | (simp; omega))).symm, K.b⟩
                                  · have HV : Hid (ruB 2 ev ct un ds da mo pl wk = false) := LV.out.trans (lv_no2 (by omega))
                                    have s1 : ¬ (0 : Int) < (n0 : Int) + (0 : Int) + (n2 : Int) := by omega
                                    go_wp2
                                    go_ret
                                    exact ⟨ret_b (HV.out.trans (by first | rfl | exact (decide_eq_true (by omega)).symm | exact (decide_eq_false (by omega)).symm | (simp; omega))).symm, K.b⟩
                              · have z1 : ((n1 : Int) == 0) = false := by simpa using g0
                                have HV : Hid (ruB 2 ev ct un ds da mo pl wk = false) := LV.out.trans (lv_no1 ⟨rfl, by omega⟩)
                                go_wp2
                                go_ret
                                exact ⟨ret_b HV.out.symm, K.b⟩
                            · have b2 : (f == 2) = false := by simpa using g1
                              by_cases p0 : n3 = 0
                              · subst p0
                                have HV : Hid (ruB f ev ct un ds da mo pl wk = true) := LV.out.trans (lv_yes (by omega) (by omega))
                                go_wp2
                                go_ret
                                exact ⟨ret_b HV.out.symm, K.b⟩
                              · have z3 : ((n3 : Int) == 0) = false := by simpa using p0
                                by_cases s0 : 0 < n0 + n1 + n2
                                · have HV : Hid (ruB f ev ct un ds da mo pl wk = true) := LV.out.trans (lv_yes (by omega) (by omega))
                                  have s1 : (0 : Int) < (n0 : Int) + (n1 : Int) + (n2 : Int) := by omega
                                  go_wp2
                                  go_ret
                                  exact ⟨ret_b (HV.out.trans (by first | rfl | exact (decide_eq_true (by omega)).symm | exact (decide_eq_false (by omega)).symm | (simp; omega))).symm, K.b⟩
                                · have HV : Hid (ruB f ev ct un ds da mo pl wk = false) := LV.out.trans (lv_no2 (by omega))
                                  have s1 : ¬ (0 : Int) < (n0 : Int) + (n1 : Int) + (n2 : Int) := by omega
                                  go_wp2
                                  go_ret
                                  exact ⟨ret_b (HV.out.trans (by first | rfl | exact (decide_eq_true (by omega)).symm | exact (decide_eq_false (by omega)).symm | (simp; omega))).symm, K.b⟩
                          · have h8' : (8 : Int) < (n0 : Int) := by omega
                            have HB : Hid (ruB f ev ct un ds da mo pl wk = false) := RU.trans (by rw [decide_eq_false h8]; simp)
                            go_wp2
                            go_ret
                            exact ⟨ret_b HB.out.symm, K.b⟩
                · skip
                  cases bw with
                  | false =>
                    have HB : Hid (ruB f ev ct un ds da mo pl wk = false) := BAD.out CZ.out
                    go_wp2_with (go_at_call 21; refine (specIn _ _ _ _).mono ?_; rintro e w' ⟨rfl, rfl⟩; first | rw [hf] | rw [he] | rw [hc] | rw [hu] | rw [hw])
                    go_ret
                    exact ⟨ret_b HB.out.symm, K.b⟩
                  | true =>
                    go_wp2_with (go_at_call 21; refine (specIn _ _ _ _).mono ?_; rintro e w' ⟨rfl, rfl⟩; first | rw [hf] | rw [he] | rw [hc] | rw [hu] | rw [hw])
                    have RU := GEN.out CZ.out
                    cases r1 with
                    | false =>
                      have HB : Hid (ruB f ev ct un ds da mo pl wk = false) := RU.trans (by simp)
                      refine (specInts _ _ _ da _ _ _ (QR.i1 K) l1 E1.out _ hn1).mono ?_
                      rintro e w1 ⟨rfl, b1⟩
                      replace K := QR.on K b1
                      clear b1 x0 x1 x2 x3 x4 x5 x6 x7 x8
                      have X := K
                      obtain ⟨x0, x1, x2, x3, x4, x5, x6, x7, x8, _⟩ := X
                      go_wp2
                      go_ret
                      exact ⟨ret_b HB.out.symm, K.b⟩
                    | true =>
                      refine (specInts _ _ _ da _ _ _ (QR.i1 K) l1 E1.out _ hn1).mono ?_
                      rintro e w1 ⟨rfl, b1⟩
                      replace K := QR.on K b1
                      clear b1 x0 x1 x2 x3 x4 x5 x6 x7 x8
                      have X := K
                      obtain ⟨x0, x1, x2, x3, x4, x5, x6, x7, x8, _⟩ := X
                      go_wp2_with fail
                      cases r2 with
                      | false =>
                        have HB : Hid (ruB f ev ct un ds da mo pl wk = false) := RU.trans (by simp)
                        refine (specInts _ _ _ mo _ _ _ (QR.i2 K) l2 E2.out _ hn2).mono ?_
                        rintro e w1 ⟨rfl, b1⟩
                        replace K := QR.on K b1
                        clear b1 x0 x1 x2 x3 x4 x5 x6 x7 x8
                        have X := K
                        obtain ⟨x0, x1, x2, x3, x4, x5, x6, x7, x8, _⟩ := X
                        go_wp2
                        go_ret
                        exact ⟨ret_b HB.out.symm, K.b⟩
                      | true =>
                        refine (specInts _ _ _ mo _ _ _ (QR.i2 K) l2 E2.out _ hn2).mono ?_
                        rintro e w1 ⟨rfl, b1⟩
                        replace K := QR.on K b1
                        clear b1 x0 x1 x2 x3 x4 x5 x6 x7 x8
                        have X := K
                        obtain ⟨x0, x1, x2, x3, x4, x5, x6, x7, x8, _⟩ := X
                        go_wp2_with fail
                        cases r3 with
                        | false =>
                          have HB : Hid (ruB f ev ct un ds da mo pl wk = false) := RU.trans (by simp)
                          refine (specInts _ _ _ pl _ _ _ (QR.i3 K) l3 E3.out _ hn3).mono ?_
                          rintro e w1 ⟨rfl, b1⟩
                          replace K := QR.on K b1
                          clear b1 x0 x1 x2 x3 x4 x5 x6 x7 x8
                          have X := K
                          obtain ⟨x0, x1, x2, x3, x4, x5, x6, x7, x8, _⟩ := X
                          go_wp2
                          go_ret
                          exact ⟨ret_b HB.out.symm, K.b⟩
                        | true =>
                          refine (specInts _ _ _ pl _ _ _ (QR.i3 K) l3 E3.out _ hn3).mono ?_
                          rintro e w1 ⟨rfl, b1⟩
                          replace K := QR.on K b1
                          clear b1 x0 x1 x2 x3 x4 x5 x6 x7 x8
                          have X := K
                          obtain ⟨x0, x1, x2, x3, x4, x5, x6, x7, x8, _⟩ := X
                          by_cases h8 : n0 ≤ 8
                          · have LV : Hid (ruB f ev ct un ds da mo pl wk = (decide (¬ (f = 2 ∧ 0 < n1)) && decide (¬ (0 < n3 ∧ n0 = 0 ∧ n1 = 0 ∧ n2 = 0)))) := RU.trans (by rw [decide_eq_true h8]; simp)
                            have h8' : ¬ (8 : Int) < (n0 : Int) := by omega
                            clear RU GEN BAD
                            by_cases g1 : f = 2
                            · subst g1
                              by_cases g0 : n1 = 0
                              · subst g0
                                by_cases p0 : n3 = 0
                                · subst p0
                                  have HV : Hid (ruB 2 ev ct un ds da mo pl wk = true) := LV.out.trans (lv_yes (by omega) (by omega))
                                  go_wp2
                                  go_ret
                                  exact ⟨ret_b HV.out.symm, K.b⟩
                                · have z3 : ((n3 : Int) == 0) = false := by simpa using p0
                                  by_cases s0 : 0 < n0 + 0 + n2
                                  · have HV : Hid (ruB 2 ev ct un ds da mo pl wk = true) := LV.out.trans (lv_yes (by omega) (by omega))
                                    have s1 : (0 : Int) < (n0 : Int) + (0 : Int) + (n2 : Int) := by omega
                                    go_wp2
                                    go_ret
                                    exact ⟨ret_b (HV.out.trans (by first | rfl | exact (decide_eq_true (by omega)).symm | exact (decide_eq_false (by omega)).symm | (simp; omega))).symm, K.b⟩
                                  · have HV : Hid (ruB 2 ev ct un ds da mo pl wk = false) := LV.out.trans (lv_no2 (by omega))
                                    have s1 : ¬ (0 : Int) < (n0 : Int) + (0 : Int) + (n2 : Int) := by omega
                                    go_wp2
                                    go_ret
                                    exact ⟨ret_b (HV.out.trans (by first | rfl | exact (decide_eq_true (by omega)).symm | exact (decide_eq_false (by omega)).symm | (simp; omega))).symm, K.b⟩
                              · have z1 : ((n1 : Int) == 0) = false := by simpa using g0
                                have HV : Hid (ruB 2 ev ct un ds da mo pl wk = false) := LV.out.trans (lv_no1 ⟨rfl, by omega⟩)
                                go_wp2
                                go_ret
                                exact ⟨ret_b HV.out.symm, K.b⟩
                            · have b2 : (f == 2) = false := by simpa using g1
                              by_cases p0 : n3 = 0
                              · subst p0
                                have HV : Hid (ruB f ev ct un ds da mo pl wk = true) := LV.out.trans (lv_yes (by omega) (by omega))
                                go_wp2
                                go_ret
                                exact ⟨ret_b HV.out.symm, K.b⟩
                              · have z3 : ((n3 : Int) == 0) = false := by simpa using p0
                                by_cases s0 : 0 < n0 + n1 + n2
                                · have HV : Hid (ruB f ev ct un ds da mo pl wk = true) := LV.out.trans (lv_yes (by omega) (by omega))
                                  have s1 : (0 : Int) < (n0 : Int) + (n1 : Int) + (n2 : Int) := by omega
                                  go_wp2
                                  go_ret
                                  exact ⟨ret_b (HV.out.trans (by first | rfl | exact (decide_eq_true (by omega)).symm | exact (decide_eq_false (by omega)).symm | (simp; omega))).symm, K.b⟩
                                · have HV : Hid (ruB f ev ct un ds da mo pl wk = false) := LV.out.trans (lv_no2 (by omega))
                                  have s1 : ¬ (0 : Int) < (n0 : Int) + (n1 : Int) + (n2 : Int) := by omega
                                  go_wp2
                                  go_ret
                                  exact ⟨ret_b (HV.out.trans (by first | rfl | exact (decide_eq_true (by omega)).symm | exact (decide_eq_false (by omega)).symm | (simp; omega))).symm, K.b⟩
                          · have h8' : (8 : Int) < (n0 : Int) := by omega
                            have HB : Hid (ruB f ev ct un ds da mo pl wk = false) := RU.trans (by rw [decide_eq_false h8]; simp)
                            go_wp2
                            go_ret
                            exact ⟨ret_b HB.out.symm, K.b⟩
theorem specRuleOk (f ev ct un : Int) (a0 : Option Addr) (c0 : Nat) (ds : List (Int × Int)) (a1 : Option Addr) (c1 : Nat) (da : List Int) (a2 : Option Addr) (c2 : Nat) (mo : List Int) (a3 : Option Addr) (c3 : Nat) (pl : List Int) (wk : Int) (w : World) (h0 : IsTurns w a0 ds) (h1 : IsInts w a1 da) (h2 : IsInts w a2 mo) (h3 : IsInts w a3 pl) (l0 : ds.length ≤ 2000000) (l1 : da.length ≤ 2000000) (l2 : mo.length ≤ 2000000) (l3 : pl.length ≤ 2000000) : Calls Tryd.prog 20 #[.agg #[.int .i64 f, .int .i64 ev, .int .i64 ct, .int .i64 un, .slice a0 ds.length c0, .slice a1 da.length c1, .slice a2 mo.length c2, .slice a3 pl.length c3, .int .i64 wk]] w fun z w' => z = .returned (.bool (ruB f ev ct un ds da mo pl wk)) ∧ Below w.heap.size w w' :=
  specRuleOkN f ev ct un a0 ds.length c0 ds a1 da.length c1 da a2 mo.length c2 mo a3 pl.length c3 pl wk w h0 h1 h2 h3 l0 l1 l2 l3 rfl rfl rfl rfl _ rfl _ _ _ rfl rfl rfl _ _ _ _ _ rfl rfl rfl rfl rfl
end Go.Proofs.YtlnhagkipmcioaaDoor
