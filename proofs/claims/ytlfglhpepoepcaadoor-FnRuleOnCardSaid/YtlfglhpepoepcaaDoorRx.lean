/- Rules of the program: their lists, and the whole. -/
import Derived.Test.YtlfglhpepoepcaaDoorRw
namespace Go.Proofs.YtlfglhpepoepcaaDoor
open Go.RowKit
set_option linter.unusedVariables false
/-- A rule in memory, with its lists. -/
abbrev QR (w : World) (R : Nat) (v0 v1 v2 v3 v4 v5 v6 v7 v8 : Value) (a0 : Option Addr) (ds : List (Int × Int)) (a1 : Option Addr) (da : List Int) (a2 : Option Addr) (mo : List Int) (a3 : Option Addr) (pl : List Int) (W : World) : Prop :=
  W.cell? ⟨R, 0, none⟩ = some v0 ∧ W.cell? ⟨R, 1, none⟩ = some v1 ∧ W.cell? ⟨R, 2, none⟩ = some v2 ∧ W.cell? ⟨R, 3, none⟩ = some v3 ∧ W.cell? ⟨R, 4, none⟩ = some v4 ∧ W.cell? ⟨R, 5, none⟩ = some v5 ∧ W.cell? ⟨R, 6, none⟩ = some v6 ∧ W.cell? ⟨R, 7, none⟩ = some v7 ∧ W.cell? ⟨R, 8, none⟩ = some v8 ∧ IsTurns W a0 ds ∧ IsInts W a1 da ∧ IsInts W a2 mo ∧ IsInts W a3 pl ∧ Below w.heap.size w W
section
variable {w W W' : World} {R : Nat} {v0 v1 v2 v3 v4 v5 v6 v7 v8 : Value} {a0 : Option Addr} {ds : List (Int × Int)} {a1 : Option Addr} {da : List Int} {a2 : Option Addr} {mo : List Int} {a3 : Option Addr} {pl : List Int}
theorem QR.on (h : QR w R v0 v1 v2 v3 v4 v5 v6 v7 v8 a0 ds a1 da a2 mo a3 pl W) (hb : Below W.heap.size W W') : QR w R v0 v1 v2 v3 v4 v5 v6 v7 v8 a0 ds a1 da a2 mo a3 pl W' := by
  obtain ⟨d0, d1, d2, d3, d4, d5, d6, d7, d8, T, I1, I2, I3, B⟩ := h
  have lt := cell_lt d0
  refine ⟨?_, ?_, ?_, ?_, ?_, ?_, ?_, ?_, ?_, T.below (B := 0) hb, I1.below hb, I2.below hb, I3.below hb, bstep B hb⟩ <;> (rw [hb.cell lt]; assumption)
theorem QR.new (T : TypeId) (h0 : IsTurns w a0 ds) (h1 : IsInts w a1 da) (h2 : IsInts w a2 mo) (h3 : IsInts w a3 pl) : QR w w.heap.size v0 v1 v2 v3 v4 v5 v6 v7 v8 a0 ds a1 da a2 mo a3 pl (w.alloc (.cells #[v0, v1, v2, v3, v4, v5, v6, v7, v8] T)) := by
  have hb : Below w.heap.size w (w.alloc (.cells #[v0, v1, v2, v3, v4, v5, v6, v7, v8] T)) := (Below.refl _ _).alloc (Nat.le_refl _) _
  exact ⟨by simp, by simp, by simp, by simp, by simp, by simp, by simp, by simp, by simp, h0.below (B := 0) hb, h1.below hb, h2.below hb, h3.below hb, hb⟩
theorem QR.t (h : QR w R v0 v1 v2 v3 v4 v5 v6 v7 v8 a0 ds a1 da a2 mo a3 pl W) : IsTurns W a0 ds := h.2.2.2.2.2.2.2.2.2.1
theorem QR.i1 (h : QR w R v0 v1 v2 v3 v4 v5 v6 v7 v8 a0 ds a1 da a2 mo a3 pl W) : IsInts W a1 da := h.2.2.2.2.2.2.2.2.2.2.1
theorem QR.i2 (h : QR w R v0 v1 v2 v3 v4 v5 v6 v7 v8 a0 ds a1 da a2 mo a3 pl W) : IsInts W a2 mo := h.2.2.2.2.2.2.2.2.2.2.2.1
theorem QR.i3 (h : QR w R v0 v1 v2 v3 v4 v5 v6 v7 v8 a0 ds a1 da a2 mo a3 pl W) : IsInts W a3 pl := h.2.2.2.2.2.2.2.2.2.2.2.2.1
theorem QR.b (h : QR w R v0 v1 v2 v3 v4 v5 v6 v7 v8 a0 ds a1 da a2 mo a3 pl W) : Below w.heap.size w W := h.2.2.2.2.2.2.2.2.2.2.2.2.2
end
theorem implNumbersR (a : Option Addr) (cap : Nat) (l : List Int) (lo hi : Int) (w : World) (h : IsInts w a l) (hl : l.length ≤ 2000000) (r : Bool) (hr : nuB l lo hi = r) :
    Calls Tryd.prog 86 #[.slice a l.length cap, .int .i64 lo, .int .i64 hi] w fun e w' => e = .returned (.bool r) ∧ Below w.heap.size w w' := by
  subst hr; exact implNumbers a cap l lo hi w h hl
theorem implNumbersN (a : Option Addr) (cap n : Nat) (l : List Int) (lo hi : Int) (w : World) (h : IsInts w a l) (hl : l.length ≤ 2000000) (hn : l.length = n) (r : Bool) (hr : nuB l lo hi = r) :
    Calls Tryd.prog 86 #[.slice a n cap, .int .i64 lo, .int .i64 hi] w fun e w' => e = .returned (.bool r) ∧ Below w.heap.size w w' := by
  subst hn; exact implNumbersR a cap l lo hi w h hl r hr
theorem implDaysN (f ev ct un : Int) (a0 : Option Addr) (n0 c0 : Nat) (ds : List (Int × Int)) (a1 : Option Addr) (n1 c1 : Nat) (da : List Int) (a2 : Option Addr) (n2 c2 : Nat) (mo : List Int) (a3 : Option Addr) (n3 c3 : Nat) (pl : List Int) (wk : Int) (w : World) (h : IsTurns w a0 ds) (hl : ds.length ≤ 2000000) (e0 : ds.length = n0) (e1 : da.length = n1) (e2 : mo.length = n2) (e3 : pl.length = n3) (r : Bool) (hr : dsB ds (numM f n2) = r) :
    Calls Tryd.prog 66 #[.agg #[.int .i64 f, .int .i64 ev, .int .i64 ct, .int .i64 un, .slice a0 n0 c0, .slice a1 n1 c1, .slice a2 n2 c2, .slice a3 n3 c3, .int .i64 wk]] w fun e w' => e = .returned (.bool r) ∧ Below w.heap.size w w' := by
  subst hr; subst e0; subst e1; subst e2; subst e3; exact implDays f ev ct un a0 c0 ds a1 c1 da a2 c2 mo a3 c3 pl wk w h hl _ rfl
theorem implOftenN (f ev ct un : Int) (a0 : Option Addr) (n0 c0 : Nat) (a1 : Option Addr) (n1 c1 : Nat) (a2 : Option Addr) (n2 c2 : Nat) (a3 : Option Addr) (n3 c3 : Nat) (wk : Int) (w : World) (r : Bool) (hr : ofB f ev ct un wk = r) :
    Calls Tryd.prog 65 #[.agg #[.int .i64 f, .int .i64 ev, .int .i64 ct, .int .i64 un, .slice a0 n0 c0, .slice a1 n1 c1, .slice a2 n2 c2, .slice a3 n3 c3, .int .i64 wk]] w fun e w' => e = .returned (.bool r) ∧ Below w.heap.size w w' := by
  have := implOften f ev ct un a0 c0 (List.replicate n0 (0, 0)) a1 c1 (List.replicate n1 0) a2 c2 (List.replicate n2 0) a3 c3 (List.replicate n3 0) wk w
  simp only [List.length_replicate] at this
  subst hr; exact this
set_option maxRecDepth 100000 in
set_option maxHeartbeats 16000000 in
theorem implLists (f ev ct un : Int) (a0 : Option Addr) (n0 c0 : Nat) (ds : List (Int × Int)) (a1 : Option Addr) (n1 c1 : Nat) (da : List Int) (a2 : Option Addr) (n2 c2 : Nat) (mo : List Int) (a3 : Option Addr) (n3 c3 : Nat) (pl : List Int) (wk : Int) (w : World) (h0 : IsTurns w a0 ds) (h1 : IsInts w a1 da) (h2 : IsInts w a2 mo) (h3 : IsInts w a3 pl) (l0 : ds.length ≤ 2000000) (l1 : da.length ≤ 2000000) (l2 : mo.length ≤ 2000000) (l3 : pl.length ≤ 2000000) (e0 : ds.length = n0) (e1 : da.length = n1) (e2 : mo.length = n2) (e3 : pl.length = n3) (r1 r2 r3 : Bool) (hn1 : nuB da (-31) 31 = r1) (hn2 : nuB mo 1 12 = r2) (hn3 : nuB pl (-366) 366 = r3) : Calls Tryd.prog 67 #[.agg #[.int .i64 f, .int .i64 ev, .int .i64 ct, .int .i64 un, .slice a0 n0 c0, .slice a1 n1 c1, .slice a2 n2 c2, .slice a3 n3 c3, .int .i64 wk]] w fun z w' => z = .returned (.bool (liB f n0 da mo pl)) ∧ Below w.heap.size w w' := by
  have hb0 := (Below.refl w.heap.size w).alloc (Nat.le_refl _) (.cells #[.int .i64 f, .int .i64 ev, .int .i64 ct, .int .i64 un, .slice a0 n0 c0, .slice a1 n1 c1, .slice a2 n2 c2, .slice a3 n3 c3, .int .i64 wk] 26)
  have K : QR w w.heap.size (.int .i64 f) (.int .i64 ev) (.int .i64 ct) (.int .i64 un) (.slice a0 n0 c0) (.slice a1 n1 c1) (.slice a2 n2 c2) (.slice a3 n3 c3) (.int .i64 wk) a0 ds a1 da a2 mo a3 pl (w.alloc (.cells #[.int .i64 f, .int .i64 ev, .int .i64 ct, .int .i64 un, .slice a0 n0 c0, .slice a1 n1 c1, .slice a2 n2 c2, .slice a3 n3 c3, .int .i64 wk] 26)) := QR.new _ h0 h1 h2 h3
  clear h0 h1 h2 h3
  have GEN : Hid (¬ (f = 2 ∧ 0 < n1) → ¬ (0 < n3 ∧ n0 = 0 ∧ n1 = 0 ∧ n2 = 0) → liB f n0 da mo pl = (r1 && (r2 && r3))) := fun x y => by
    unfold liB; rw [e1, e2, e3, decide_eq_true x, decide_eq_true y, hn1, hn2, hn3, Bool.true_and, Bool.true_and]
  have E1 : Hid (da.length = n1) := e1
  have E2 : Hid (mo.length = n2) := e2
  have E3 : Hid (pl.length = n3) := e3
  have BD : Hid ((f = 2 ∧ 0 < n1) ∨ (0 < n3 ∧ n0 = 0 ∧ n1 = 0 ∧ n2 = 0) → liB f n0 da mo pl = false) := fun x => by
    unfold liB; rw [e1, e2, e3]
    rcases x with x | x
    · rw [decide_eq_false (p := ¬ (f = 2 ∧ 0 < n1)) (fun h => h x), Bool.false_and]
    · rw [decide_eq_false (p := ¬ (0 < n3 ∧ n0 = 0 ∧ n1 = 0 ∧ n2 = 0)) (fun h => h x), Bool.false_and, Bool.and_false]
  have l1' : n1 ≤ 2000000 := by omega
  have l2' : n2 ≤ 2000000 := by omega
  have l3' : n3 ≤ 2000000 := by omega
  have l0' : n0 ≤ 2000000 := by omega
  clear e0 e1 e2 e3
  by_cases g2 : 0 < n3 ∧ n0 = 0 ∧ n1 = 0 ∧ n2 = 0
  · have HB : Hid (liB f n0 da mo pl = false) := BD.out (.inr g2)
    obtain ⟨x0, x1, x2, x3⟩ := g2
    subst x1; subst x2; subst x3
    clear GEN BD K E1 E2 E3
    have b2 : (f == 2) = false ∨ (f == 2) = true := by cases (f == 2) <;> simp
    rcases b2 with b2 | b2
    · go_enter Tryd.func67, Tryd.ntmps67
      go_wp2
      go_ret
      exact ⟨ret_b HB.out.symm, hb0⟩
    · go_enter Tryd.func67, Tryd.ntmps67
      go_wp2
      go_ret
      exact ⟨ret_b HB.out.symm, hb0⟩
  · by_cases g1 : f = 2
    · subst g1
      by_cases g0 : n1 = 0
      · subst g0
        clear BD hb0
        by_cases p0 : n3 = 0
        · subst p0
          have HB := GEN.out (by omega) (by omega)
          replace HB : Hid (liB _ _ da mo pl = (r1 && (r2 && r3))) := HB
          clear GEN
          go_enter Tryd.func67, Tryd.ntmps67
          go_wp2_with fail
          cases r1 with
          | false =>
            refine (implNumbersN _ _ _ da _ _ _ (QR.i1 K) l1 E1.out _ hn1).mono ?_
            rintro e w1 ⟨rfl, b1⟩
            replace K := QR.on K b1
            clear b1
            have X := K
            obtain ⟨x0, x1, x2, x3, x4, x5, x6, x7, x8, _⟩ := X
            go_wp2
            go_ret
            exact ⟨ret_b (HB.out.trans (by simp)).symm, K.b⟩
          | true =>
            refine (implNumbersN _ _ _ da _ _ _ (QR.i1 K) l1 E1.out _ hn1).mono ?_
            rintro e w1 ⟨rfl, b1⟩
            replace K := QR.on K b1
            clear b1
            have X := K
            obtain ⟨x0, x1, x2, x3, x4, x5, x6, x7, x8, _⟩ := X
            go_wp2_with fail
            cases r2 with
            | false =>
              refine (implNumbersN _ _ _ mo _ _ _ (QR.i2 K) l2 E2.out _ hn2).mono ?_
              rintro e w1 ⟨rfl, b1⟩
              replace K := QR.on K b1
              clear b1
              clear x0 x1 x2 x3 x4 x5 x6 x7 x8
              have X := K
              obtain ⟨x0, x1, x2, x3, x4, x5, x6, x7, x8, _⟩ := X
              go_wp2
              go_ret
              exact ⟨ret_b (HB.out.trans (by simp)).symm, K.b⟩
            | true =>
              refine (implNumbersN _ _ _ mo _ _ _ (QR.i2 K) l2 E2.out _ hn2).mono ?_
              rintro e w1 ⟨rfl, b1⟩
              replace K := QR.on K b1
              clear b1
              clear x0 x1 x2 x3 x4 x5 x6 x7 x8
              have X := K
              obtain ⟨x0, x1, x2, x3, x4, x5, x6, x7, x8, _⟩ := X
              go_wp2_with fail
              refine (implNumbersN _ _ _ pl _ _ _ (QR.i3 K) l3 E3.out _ hn3).mono ?_
              rintro e w1 ⟨rfl, b1⟩
              replace K := QR.on K b1
              clear b1
              clear x0 x1 x2 x3 x4 x5 x6 x7 x8
              have X := K
              obtain ⟨x0, x1, x2, x3, x4, x5, x6, x7, x8, _⟩ := X
              go_wp2
              go_ret
              exact ⟨ret_b (HB.out.trans (by simp)).symm, K.b⟩
        · have p1 : (0 : Int) < (n3 : Int) := by omega
          by_cases q0 : n0 = 0
          · subst q0
            have q2 : n2 ≠ 0 := by omega
            have z2 : ((n2 : Int) == 0) = false := by simpa using q2
            have HB := GEN.out (by omega) (by omega)
            replace HB : Hid (liB _ _ da mo pl = (r1 && (r2 && r3))) := HB
            clear GEN
            clear q2
            go_enter Tryd.func67, Tryd.ntmps67
            go_wp2_with fail
            cases r1 with
            | false =>
              refine (implNumbersN _ _ _ da _ _ _ (QR.i1 K) l1 E1.out _ hn1).mono ?_
              rintro e w1 ⟨rfl, b1⟩
              replace K := QR.on K b1
              clear b1
              have X := K
              obtain ⟨x0, x1, x2, x3, x4, x5, x6, x7, x8, _⟩ := X
              go_wp2
              go_ret
              exact ⟨ret_b (HB.out.trans (by simp)).symm, K.b⟩
            | true =>
              refine (implNumbersN _ _ _ da _ _ _ (QR.i1 K) l1 E1.out _ hn1).mono ?_
              rintro e w1 ⟨rfl, b1⟩
              replace K := QR.on K b1
              clear b1
              have X := K
              obtain ⟨x0, x1, x2, x3, x4, x5, x6, x7, x8, _⟩ := X
              go_wp2_with fail
              cases r2 with
              | false =>
                refine (implNumbersN _ _ _ mo _ _ _ (QR.i2 K) l2 E2.out _ hn2).mono ?_
                rintro e w1 ⟨rfl, b1⟩
                replace K := QR.on K b1
                clear b1
                clear x0 x1 x2 x3 x4 x5 x6 x7 x8
                have X := K
                obtain ⟨x0, x1, x2, x3, x4, x5, x6, x7, x8, _⟩ := X
                go_wp2
                go_ret
                exact ⟨ret_b (HB.out.trans (by simp)).symm, K.b⟩
              | true =>
                refine (implNumbersN _ _ _ mo _ _ _ (QR.i2 K) l2 E2.out _ hn2).mono ?_
                rintro e w1 ⟨rfl, b1⟩
                replace K := QR.on K b1
                clear b1
                clear x0 x1 x2 x3 x4 x5 x6 x7 x8
                have X := K
                obtain ⟨x0, x1, x2, x3, x4, x5, x6, x7, x8, _⟩ := X
                go_wp2_with fail
                refine (implNumbersN _ _ _ pl _ _ _ (QR.i3 K) l3 E3.out _ hn3).mono ?_
                rintro e w1 ⟨rfl, b1⟩
                replace K := QR.on K b1
                clear b1
                clear x0 x1 x2 x3 x4 x5 x6 x7 x8
                have X := K
                obtain ⟨x0, x1, x2, x3, x4, x5, x6, x7, x8, _⟩ := X
                go_wp2
                go_ret
                exact ⟨ret_b (HB.out.trans (by simp)).symm, K.b⟩
          · have z0 : ((n0 : Int) == 0) = false := by simpa using q0
            have HB := GEN.out (by omega) (by omega)
            replace HB : Hid (liB _ _ da mo pl = (r1 && (r2 && r3))) := HB
            clear GEN
            go_enter Tryd.func67, Tryd.ntmps67
            go_wp2_with fail
            cases r1 with
            | false =>
              refine (implNumbersN _ _ _ da _ _ _ (QR.i1 K) l1 E1.out _ hn1).mono ?_
              rintro e w1 ⟨rfl, b1⟩
              replace K := QR.on K b1
              clear b1
              have X := K
              obtain ⟨x0, x1, x2, x3, x4, x5, x6, x7, x8, _⟩ := X
              go_wp2
              go_ret
              exact ⟨ret_b (HB.out.trans (by simp)).symm, K.b⟩
            | true =>
              refine (implNumbersN _ _ _ da _ _ _ (QR.i1 K) l1 E1.out _ hn1).mono ?_
              rintro e w1 ⟨rfl, b1⟩
              replace K := QR.on K b1
              clear b1
              have X := K
              obtain ⟨x0, x1, x2, x3, x4, x5, x6, x7, x8, _⟩ := X
              go_wp2_with fail
              cases r2 with
              | false =>
                refine (implNumbersN _ _ _ mo _ _ _ (QR.i2 K) l2 E2.out _ hn2).mono ?_
                rintro e w1 ⟨rfl, b1⟩
                replace K := QR.on K b1
                clear b1
                clear x0 x1 x2 x3 x4 x5 x6 x7 x8
                have X := K
                obtain ⟨x0, x1, x2, x3, x4, x5, x6, x7, x8, _⟩ := X
                go_wp2
                go_ret
                exact ⟨ret_b (HB.out.trans (by simp)).symm, K.b⟩
              | true =>
                refine (implNumbersN _ _ _ mo _ _ _ (QR.i2 K) l2 E2.out _ hn2).mono ?_
                rintro e w1 ⟨rfl, b1⟩
                replace K := QR.on K b1
                clear b1
                clear x0 x1 x2 x3 x4 x5 x6 x7 x8
                have X := K
                obtain ⟨x0, x1, x2, x3, x4, x5, x6, x7, x8, _⟩ := X
                go_wp2_with fail
                refine (implNumbersN _ _ _ pl _ _ _ (QR.i3 K) l3 E3.out _ hn3).mono ?_
                rintro e w1 ⟨rfl, b1⟩
                replace K := QR.on K b1
                clear b1
                clear x0 x1 x2 x3 x4 x5 x6 x7 x8
                have X := K
                obtain ⟨x0, x1, x2, x3, x4, x5, x6, x7, x8, _⟩ := X
                go_wp2
                go_ret
                exact ⟨ret_b (HB.out.trans (by simp)).symm, K.b⟩
      · have HB : Hid (liB 2 n0 da mo pl = false) := BD.out (.inl ⟨rfl, by omega⟩)
        have p1 : (0 : Int) < (n1 : Int) := by omega
        clear GEN BD K E1 E2 E3
        go_enter Tryd.func67, Tryd.ntmps67
        go_wp2
        go_ret
        exact ⟨ret_b HB.out.symm, hb0⟩
    · have b2 : (f == 2) = false := by simpa using g1
      clear BD hb0
      by_cases p0 : n3 = 0
      · subst p0
        have HB := GEN.out (by omega) (by omega)
        replace HB : Hid (liB _ _ da mo pl = (r1 && (r2 && r3))) := HB
        clear GEN
        go_enter Tryd.func67, Tryd.ntmps67
        go_wp2_with fail
        cases r1 with
        | false =>
          refine (implNumbersN _ _ _ da _ _ _ (QR.i1 K) l1 E1.out _ hn1).mono ?_
          rintro e w1 ⟨rfl, b1⟩
          replace K := QR.on K b1
          clear b1
          have X := K
          obtain ⟨x0, x1, x2, x3, x4, x5, x6, x7, x8, _⟩ := X
          go_wp2
          go_ret
          exact ⟨ret_b (HB.out.trans (by simp)).symm, K.b⟩
        | true =>
          refine (implNumbersN _ _ _ da _ _ _ (QR.i1 K) l1 E1.out _ hn1).mono ?_
          rintro e w1 ⟨rfl, b1⟩
          replace K := QR.on K b1
          clear b1
          have X := K
          obtain ⟨x0, x1, x2, x3, x4, x5, x6, x7, x8, _⟩ := X
          go_wp2_with fail
          cases r2 with
          | false =>
            refine (implNumbersN _ _ _ mo _ _ _ (QR.i2 K) l2 E2.out _ hn2).mono ?_
            rintro e w1 ⟨rfl, b1⟩
            replace K := QR.on K b1
            clear b1
            clear x0 x1 x2 x3 x4 x5 x6 x7 x8
            have X := K
            obtain ⟨x0, x1, x2, x3, x4, x5, x6, x7, x8, _⟩ := X
            go_wp2
            go_ret
            exact ⟨ret_b (HB.out.trans (by simp)).symm, K.b⟩
          | true =>
            refine (implNumbersN _ _ _ mo _ _ _ (QR.i2 K) l2 E2.out _ hn2).mono ?_
            rintro e w1 ⟨rfl, b1⟩
            replace K := QR.on K b1
            clear b1
            clear x0 x1 x2 x3 x4 x5 x6 x7 x8
            have X := K
            obtain ⟨x0, x1, x2, x3, x4, x5, x6, x7, x8, _⟩ := X
            go_wp2_with fail
            refine (implNumbersN _ _ _ pl _ _ _ (QR.i3 K) l3 E3.out _ hn3).mono ?_
            rintro e w1 ⟨rfl, b1⟩
            replace K := QR.on K b1
            clear b1
            clear x0 x1 x2 x3 x4 x5 x6 x7 x8
            have X := K
            obtain ⟨x0, x1, x2, x3, x4, x5, x6, x7, x8, _⟩ := X
            go_wp2
            go_ret
            exact ⟨ret_b (HB.out.trans (by simp)).symm, K.b⟩
      · have p1 : (0 : Int) < (n3 : Int) := by omega
        by_cases q0 : n0 = 0
        · subst q0
          by_cases q1 : n1 = 0
          · subst q1
            have q2 : n2 ≠ 0 := by omega
            have z2 : ((n2 : Int) == 0) = false := by simpa using q2
            have HB := GEN.out (by omega) (by omega)
            replace HB : Hid (liB _ _ da mo pl = (r1 && (r2 && r3))) := HB
            clear GEN
            clear q2
            go_enter Tryd.func67, Tryd.ntmps67
            go_wp2_with fail
            cases r1 with
            | false =>
              refine (implNumbersN _ _ _ da _ _ _ (QR.i1 K) l1 E1.out _ hn1).mono ?_
              rintro e w1 ⟨rfl, b1⟩
              replace K := QR.on K b1
              clear b1
              have X := K
              obtain ⟨x0, x1, x2, x3, x4, x5, x6, x7, x8, _⟩ := X
              go_wp2
              go_ret
              exact ⟨ret_b (HB.out.trans (by simp)).symm, K.b⟩
            | true =>
              refine (implNumbersN _ _ _ da _ _ _ (QR.i1 K) l1 E1.out _ hn1).mono ?_
              rintro e w1 ⟨rfl, b1⟩
              replace K := QR.on K b1
              clear b1
              have X := K
              obtain ⟨x0, x1, x2, x3, x4, x5, x6, x7, x8, _⟩ := X
              go_wp2_with fail
              cases r2 with
              | false =>
                refine (implNumbersN _ _ _ mo _ _ _ (QR.i2 K) l2 E2.out _ hn2).mono ?_
                rintro e w1 ⟨rfl, b1⟩
                replace K := QR.on K b1
                clear b1
                clear x0 x1 x2 x3 x4 x5 x6 x7 x8
                have X := K
                obtain ⟨x0, x1, x2, x3, x4, x5, x6, x7, x8, _⟩ := X
                go_wp2
                go_ret
                exact ⟨ret_b (HB.out.trans (by simp)).symm, K.b⟩
              | true =>
                refine (implNumbersN _ _ _ mo _ _ _ (QR.i2 K) l2 E2.out _ hn2).mono ?_
                rintro e w1 ⟨rfl, b1⟩
                replace K := QR.on K b1
                clear b1
                clear x0 x1 x2 x3 x4 x5 x6 x7 x8
                have X := K
                obtain ⟨x0, x1, x2, x3, x4, x5, x6, x7, x8, _⟩ := X
                go_wp2_with fail
                refine (implNumbersN _ _ _ pl _ _ _ (QR.i3 K) l3 E3.out _ hn3).mono ?_
                rintro e w1 ⟨rfl, b1⟩
                replace K := QR.on K b1
                clear b1
                clear x0 x1 x2 x3 x4 x5 x6 x7 x8
                have X := K
                obtain ⟨x0, x1, x2, x3, x4, x5, x6, x7, x8, _⟩ := X
                go_wp2
                go_ret
                exact ⟨ret_b (HB.out.trans (by simp)).symm, K.b⟩
          · have z1 : ((n1 : Int) == 0) = false := by simpa using q1
            have HB := GEN.out (by omega) (by omega)
            replace HB : Hid (liB _ _ da mo pl = (r1 && (r2 && r3))) := HB
            clear GEN
            go_enter Tryd.func67, Tryd.ntmps67
            go_wp2_with fail
            cases r1 with
            | false =>
              refine (implNumbersN _ _ _ da _ _ _ (QR.i1 K) l1 E1.out _ hn1).mono ?_
              rintro e w1 ⟨rfl, b1⟩
              replace K := QR.on K b1
              clear b1
              have X := K
              obtain ⟨x0, x1, x2, x3, x4, x5, x6, x7, x8, _⟩ := X
              go_wp2
              go_ret
              exact ⟨ret_b (HB.out.trans (by simp)).symm, K.b⟩
            | true =>
              refine (implNumbersN _ _ _ da _ _ _ (QR.i1 K) l1 E1.out _ hn1).mono ?_
              rintro e w1 ⟨rfl, b1⟩
              replace K := QR.on K b1
              clear b1
              have X := K
              obtain ⟨x0, x1, x2, x3, x4, x5, x6, x7, x8, _⟩ := X
              go_wp2_with fail
              cases r2 with
              | false =>
                refine (implNumbersN _ _ _ mo _ _ _ (QR.i2 K) l2 E2.out _ hn2).mono ?_
                rintro e w1 ⟨rfl, b1⟩
                replace K := QR.on K b1
                clear b1
                clear x0 x1 x2 x3 x4 x5 x6 x7 x8
                have X := K
                obtain ⟨x0, x1, x2, x3, x4, x5, x6, x7, x8, _⟩ := X
                go_wp2
                go_ret
                exact ⟨ret_b (HB.out.trans (by simp)).symm, K.b⟩
              | true =>
                refine (implNumbersN _ _ _ mo _ _ _ (QR.i2 K) l2 E2.out _ hn2).mono ?_
                rintro e w1 ⟨rfl, b1⟩
                replace K := QR.on K b1
                clear b1
                clear x0 x1 x2 x3 x4 x5 x6 x7 x8
                have X := K
                obtain ⟨x0, x1, x2, x3, x4, x5, x6, x7, x8, _⟩ := X
                go_wp2_with fail
                refine (implNumbersN _ _ _ pl _ _ _ (QR.i3 K) l3 E3.out _ hn3).mono ?_
                rintro e w1 ⟨rfl, b1⟩
                replace K := QR.on K b1
                clear b1
                clear x0 x1 x2 x3 x4 x5 x6 x7 x8
                have X := K
                obtain ⟨x0, x1, x2, x3, x4, x5, x6, x7, x8, _⟩ := X
                go_wp2
                go_ret
                exact ⟨ret_b (HB.out.trans (by simp)).symm, K.b⟩
        · have z0 : ((n0 : Int) == 0) = false := by simpa using q0
          have HB := GEN.out (by omega) (by omega)
          replace HB : Hid (liB _ _ da mo pl = (r1 && (r2 && r3))) := HB
          clear GEN
          go_enter Tryd.func67, Tryd.ntmps67
          go_wp2_with fail
          cases r1 with
          | false =>
            refine (implNumbersN _ _ _ da _ _ _ (QR.i1 K) l1 E1.out _ hn1).mono ?_
            rintro e w1 ⟨rfl, b1⟩
            replace K := QR.on K b1
            clear b1
            have X := K
            obtain ⟨x0, x1, x2, x3, x4, x5, x6, x7, x8, _⟩ := X
            go_wp2
            go_ret
            exact ⟨ret_b (HB.out.trans (by simp)).symm, K.b⟩
          | true =>
            refine (implNumbersN _ _ _ da _ _ _ (QR.i1 K) l1 E1.out _ hn1).mono ?_
            rintro e w1 ⟨rfl, b1⟩
            replace K := QR.on K b1
            clear b1
            have X := K
            obtain ⟨x0, x1, x2, x3, x4, x5, x6, x7, x8, _⟩ := X
            go_wp2_with fail
            cases r2 with
            | false =>
              refine (implNumbersN _ _ _ mo _ _ _ (QR.i2 K) l2 E2.out _ hn2).mono ?_
              rintro e w1 ⟨rfl, b1⟩
              replace K := QR.on K b1
              clear b1
              clear x0 x1 x2 x3 x4 x5 x6 x7 x8
              have X := K
              obtain ⟨x0, x1, x2, x3, x4, x5, x6, x7, x8, _⟩ := X
              go_wp2
              go_ret
              exact ⟨ret_b (HB.out.trans (by simp)).symm, K.b⟩
            | true =>
              refine (implNumbersN _ _ _ mo _ _ _ (QR.i2 K) l2 E2.out _ hn2).mono ?_
              rintro e w1 ⟨rfl, b1⟩
              replace K := QR.on K b1
              clear b1
              clear x0 x1 x2 x3 x4 x5 x6 x7 x8
              have X := K
              obtain ⟨x0, x1, x2, x3, x4, x5, x6, x7, x8, _⟩ := X
              go_wp2_with fail
              refine (implNumbersN _ _ _ pl _ _ _ (QR.i3 K) l3 E3.out _ hn3).mono ?_
              rintro e w1 ⟨rfl, b1⟩
              replace K := QR.on K b1
              clear b1
              clear x0 x1 x2 x3 x4 x5 x6 x7 x8
              have X := K
              obtain ⟨x0, x1, x2, x3, x4, x5, x6, x7, x8, _⟩ := X
              go_wp2
              go_ret
              exact ⟨ret_b (HB.out.trans (by simp)).symm, K.b⟩
end Go.Proofs.YtlfglhpepoepcaaDoor
