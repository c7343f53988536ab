/- FnExactRuleOn: the law's own walk. -/
import Derived.Test.YtjflbbbocpnbkaaDoorRh
import Derived.Test.YtjflbbbocpnbkaaDoorLe
namespace Go.Proofs.YtjflbbbocpnbkaaDoor
open Go.RowKit
set_option linter.unusedVariables false
/-- What stands while the copy is held against the rule. -/
abbrev RK (w : World) (b b' : Nat) (v0 v1 v2 v3 v4 v5 v6 v7 v8 u4 u5 u6 u7 : Value) (a0 : Option Addr) (ds : List (Int × Int)) (a1 : Option Addr) (da : List Int) (a2 : Option Addr) (mo : List Int) (a3 : Option Addr) (pl : List Int) (A0 A1 A2 A3 : Option Addr) (W : World) : Prop :=
  W.cell? ⟨b, 0, none⟩ = some v0 ∧ W.cell? ⟨b, 1, none⟩ = some v1 ∧ W.cell? ⟨b, 2, none⟩ = some v2 ∧ W.cell? ⟨b, 3, none⟩ = some v3 ∧ W.cell? ⟨b, 4, none⟩ = some v4 ∧ W.cell? ⟨b, 5, none⟩ = some v5 ∧ W.cell? ⟨b, 6, none⟩ = some v6 ∧ W.cell? ⟨b, 7, none⟩ = some v7 ∧ W.cell? ⟨b, 8, none⟩ = some v8 ∧ W.cell? ⟨b', 0, none⟩ = some v0 ∧ W.cell? ⟨b', 1, none⟩ = some v1 ∧ W.cell? ⟨b', 2, none⟩ = some v2 ∧ W.cell? ⟨b', 3, none⟩ = some v3 ∧ W.cell? ⟨b', 4, none⟩ = some u4 ∧ W.cell? ⟨b', 5, none⟩ = some u5 ∧ W.cell? ⟨b', 6, none⟩ = some u6 ∧ W.cell? ⟨b', 7, none⟩ = some u7 ∧ W.cell? ⟨b', 8, none⟩ = some v8 ∧ IsTurns W a0 ds ∧ IsInts W a1 da ∧ IsInts W a2 mo ∧ IsInts W a3 pl ∧ IsTurns W A0 ds ∧ IsInts W A1 da ∧ IsInts W A2 mo ∧ IsInts W A3 pl ∧ Below w.heap.size w W
theorem RK.mk {w W : World} {b b' : Nat} {v0 v1 v2 v3 v4 v5 v6 v7 v8 u4 u5 u6 u7 : Value} {a0 : Option Addr} {ds : List (Int × Int)} {a1 : Option Addr} {da : List Int} {a2 : Option Addr} {mo : List Int} {a3 : Option Addr} {pl : List Int} {A0 A1 A2 A3 : Option Addr} {w1 : World}
    (h : QR w b v0 v1 v2 v3 v4 v5 v6 v7 v8 a0 ds a1 da a2 mo a3 pl W) (k : QR w1 b' v0 v1 v2 v3 u4 u5 u6 u7 v8 A0 ds A1 da A2 mo A3 pl W) : RK w b b' v0 v1 v2 v3 v4 v5 v6 v7 v8 u4 u5 u6 u7 a0 ds a1 da a2 mo a3 pl A0 A1 A2 A3 W := by
  obtain ⟨x0, x1, x2, x3, x4, x5, x6, x7, x8, T, I1, I2, I3, B⟩ := h
  obtain ⟨y0, y1, y2, y3, y4, y5, y6, y7, y8, T', J1, J2, J3, _⟩ := k
  exact ⟨x0, x1, x2, x3, x4, x5, x6, x7, x8, y0, y1, y2, y3, y4, y5, y6, y7, y8, T, I1, I2, I3, T', J1, J2, J3, B⟩
theorem RK.q1 {w W : World} {b b' : Nat} {v0 v1 v2 v3 v4 v5 v6 v7 v8 u4 u5 u6 u7 : Value} {a0 : Option Addr} {ds : List (Int × Int)} {a1 : Option Addr} {da : List Int} {a2 : Option Addr} {mo : List Int} {a3 : Option Addr} {pl : List Int} {A0 A1 A2 A3 : Option Addr}
    (h : RK w b b' v0 v1 v2 v3 v4 v5 v6 v7 v8 u4 u5 u6 u7 a0 ds a1 da a2 mo a3 pl A0 A1 A2 A3 W) : QR w b v0 v1 v2 v3 v4 v5 v6 v7 v8 a0 ds a1 da a2 mo a3 pl W ∧ QR w b' v0 v1 v2 v3 u4 u5 u6 u7 v8 A0 ds A1 da A2 mo A3 pl W := by
  obtain ⟨x0, x1, x2, x3, x4, x5, x6, x7, x8, y0, y1, y2, y3, y4, y5, y6, y7, y8, T, I1, I2, I3, T', J1, J2, J3, B⟩ := h
  exact ⟨⟨x0, x1, x2, x3, x4, x5, x6, x7, x8, T, I1, I2, I3, B⟩, ⟨y0, y1, y2, y3, y4, y5, y6, y7, y8, T', J1, J2, J3, B⟩⟩
theorem RK.on {w W W' : World} {b b' : Nat} {v0 v1 v2 v3 v4 v5 v6 v7 v8 u4 u5 u6 u7 : Value} {a0 : Option Addr} {ds : List (Int × Int)} {a1 : Option Addr} {da : List Int} {a2 : Option Addr} {mo : List Int} {a3 : Option Addr} {pl : List Int} {A0 A1 A2 A3 : Option Addr}
    (h : RK w b b' v0 v1 v2 v3 v4 v5 v6 v7 v8 u4 u5 u6 u7 a0 ds a1 da a2 mo a3 pl A0 A1 A2 A3 W) (hb : Below W.heap.size W W') : RK w b b' v0 v1 v2 v3 v4 v5 v6 v7 v8 u4 u5 u6 u7 a0 ds a1 da a2 mo a3 pl A0 A1 A2 A3 W' := by
  obtain ⟨p, q⟩ := RK.q1 h
  exact RK.mk (p.on hb) (q.on hb)
set_option maxRecDepth 100000 in
set_option maxHeartbeats 16000000 in
theorem lawExRuleOn (f ev ct un : Int) (a0 : Option Addr) (c0 : Nat) (ds : List (Int × Int)) (a1 : Option Addr) (c1 : Nat) (da : List Int) (a2 : Option Addr) (c2 : Nat) (mo : List Int) (a3 : Option Addr) (c3 : Nat) (pl : List Int) (wk sd dd : Int) (w : World) (ht : Tab w) (h0 : IsTurns w a0 ds) (h1 : IsInts w a1 da) (h2 : IsInts w a2 mo) (h3 : IsInts w a3 pl) (m0 : ds.length ≤ maxLen) (m1 : da.length ≤ maxLen) (m2 : mo.length ≤ maxLen) (m3 : pl.length ≤ maxLen) :
    Calls Tryd.prog 4 #[.agg #[.int .i64 f, .int .i64 ev, .int .i64 ct, .int .i64 un, .slice a0 ds.length c0, .slice a1 da.length c1, .slice a2 mo.length c2, .slice a3 pl.length c3, .int .i64 wk], .int .i64 sd, .int .i64 dd] w fun z w' => z = .returned (.bool true) ∧ Below w.heap.size w w' := by
  have K : QR w w.heap.size (.int .i64 f) (.int .i64 ev) (.int .i64 ct) (.int .i64 un) (.slice a0 ds.length c0) (.slice a1 da.length c1) (.slice a2 mo.length c2) (.slice a3 pl.length c3) (.int .i64 wk) a0 ds a1 da a2 mo a3 pl (w.alloc (.cells #[.int .i64 f, .int .i64 ev, .int .i64 ct, .int .i64 un, .slice a0 ds.length c0, .slice a1 da.length c1, .slice a2 mo.length c2, .slice a3 pl.length c3, .int .i64 wk] 25)) := QR.new _ h0 h1 h2 h3
  clear h0 h1 h2 h3
  have HT : Hid (Tab w) := ht
  clear ht
  go_enter Tryd.func4, Tryd.ntmps4
  go_wp2_with fail
  generalize w.alloc (.cells #[.int .i64 f, .int .i64 ev, .int .i64 ct, .int .i64 un, .slice a0 ds.length c0, .slice a1 da.length c1, .slice a2 mo.length c2, .slice a3 pl.length c3, .int .i64 wk] 25) = W0 at K ⊢
  refine (lawSzRule _ _ _ _ _ _ _ _ _ _ _ _ _ _ _ _ _ _ m0 m1 m2 m3).mono ?_
  rintro e w1 ⟨rfl, b1⟩
  replace K := QR.on K b1
  clear b1
  by_cases hz : ds.length + da.length + mo.length + pl.length ≤ 1048576
  · have hv : szr ds.length da.length mo.length pl.length = 1048576 - (ds.length : Int) - (da.length : Int) - (mo.length : Int) - (pl.length : Int) := if_pos hz
    rw [hv]
    clear hv
    have l0 : ds.length ≤ 2000000 := by omega
    have l1 : da.length ≤ 2000000 := by omega
    have l2 : mo.length ≤ 2000000 := by omega
    have l3 : pl.length ≤ 2000000 := by omega
    have X := K
    obtain ⟨x0, x1, x2, x3, x4, x5, x6, x7, x8, _⟩ := X
    go_wp2_with fail
    refine (lawToRule f ev ct un a0 c0 ds a1 c1 da a2 c2 mo a3 c3 pl wk _ K.t K.i1 K.i2 K.i3 l0 l1 l2 l3).mono ?_
    rintro e w2 ⟨q0, q1, q2, q3, rfl, t0, t1, t2, t3, b2⟩
    replace K := QR.on K b2
    clear b2 x0 x1 x2 x3 x4 x5 x6 x7 x8
    have hsp := specRuleOn ⟨f, ev, ct, un, ds, da, mo, pl, wk⟩ ⟨some ⟨q0, 0, none⟩, ds.length, some ⟨q1, 0, none⟩, da.length, some ⟨q2, 0, none⟩, mo.length, some ⟨q3, 0, none⟩, pl.length⟩ sd dd w2 ⟨l0, l1, l2, l3, ⟨t0, t1, t2, t3⟩, HT.out.on K.b⟩
    go_wp2_with fail
    refine hsp.mono ?_
    clear hsp
    rintro e w3 ⟨rfl, b3⟩
    replace K := QR.on K b3
    clear b3 t0 t1 t2 t3
    have X := K
    obtain ⟨x0, x1, x2, x3, x4, x5, x6, x7, x8, _⟩ := X
    go_wp2_with fail
    refine (lawToRule f ev ct un a0 c0 ds a1 c1 da a2 c2 mo a3 c3 pl wk _ K.t K.i1 K.i2 K.i3 l0 l1 l2 l3).mono ?_
    rintro e w4 ⟨g0, g1, g2, g3, rfl, t0, t1, t2, t3, b4⟩
    replace K := QR.on K b4
    clear b4 x0 x1 x2 x3 x4 x5 x6 x7 x8
    have b5 : Below w4.heap.size w4 (w4.alloc (.cells #[.int .i64 f, .int .i64 ev, .int .i64 ct, .int .i64 un, .slice (some ⟨g0, 0, none⟩) ds.length ds.length, .slice (some ⟨g1, 0, none⟩) da.length da.length, .slice (some ⟨g2, 0, none⟩) mo.length mo.length, .slice (some ⟨g3, 0, none⟩) pl.length pl.length, .int .i64 wk] 30)) := (Below.refl _ _).alloc (Nat.le_refl _) _
    replace K := QR.on K b5
    have L : QR w4 w4.heap.size (.int .i64 f) (.int .i64 ev) (.int .i64 ct) (.int .i64 un) (.slice (some ⟨g0, 0, none⟩) ds.length ds.length) (.slice (some ⟨g1, 0, none⟩) da.length da.length) (.slice (some ⟨g2, 0, none⟩) mo.length mo.length) (.slice (some ⟨g3, 0, none⟩) pl.length pl.length) (.int .i64 wk) (some ⟨g0, 0, none⟩) ds (some ⟨g1, 0, none⟩) da (some ⟨g2, 0, none⟩) mo (some ⟨g3, 0, none⟩) pl (w4.alloc (.cells #[.int .i64 f, .int .i64 ev, .int .i64 ct, .int .i64 un, .slice (some ⟨g0, 0, none⟩) ds.length ds.length, .slice (some ⟨g1, 0, none⟩) da.length da.length, .slice (some ⟨g2, 0, none⟩) mo.length mo.length, .slice (some ⟨g3, 0, none⟩) pl.length pl.length, .int .i64 wk] 30)) := QR.new _ t0 t1 t2 t3
    clear b5 t0 t1 t2 t3
    go_wp2_with fail
    generalize w4.alloc (.cells #[.int .i64 f, .int .i64 ev, .int .i64 ct, .int .i64 un, .slice (some ⟨g0, 0, none⟩) ds.length ds.length, .slice (some ⟨g1, 0, none⟩) da.length da.length, .slice (some ⟨g2, 0, none⟩) mo.length mo.length, .slice (some ⟨g3, 0, none⟩) pl.length pl.length, .int .i64 wk] 30) = W5 at K L ⊢
    refine (implRuleOn ⟨f, ev, ct, un, ds, da, mo, pl, wk⟩ ⟨some ⟨g0, 0, none⟩, ds.length, some ⟨g1, 0, none⟩, da.length, some ⟨g2, 0, none⟩, mo.length, some ⟨g3, 0, none⟩, pl.length⟩ sd dd _ ⟨l0, l1, l2, l3, ⟨L.t, L.i1, L.i2, L.i3⟩, HT.out.on K.b⟩).mono ?_
    rintro e w6 ⟨rfl, b6⟩
    have M := RK.mk (QR.on K b6) (QR.on L b6)
    clear b6 K L
    go_wp2
    go_region_held3 (fun w' => w'.cell? ⟨w.heap.size, 0, none⟩ = some (.int .i64 f) ∧ w'.cell? ⟨w.heap.size, 1, none⟩ = some (.int .i64 ev) ∧ w'.cell? ⟨w.heap.size, 2, none⟩ = some (.int .i64 ct) ∧ w'.cell? ⟨w.heap.size, 3, none⟩ = some (.int .i64 un) ∧ w'.cell? ⟨w.heap.size, 4, none⟩ = some (.slice a0 ds.length c0) ∧ w'.cell? ⟨w.heap.size, 5, none⟩ = some (.slice a1 da.length c1) ∧ w'.cell? ⟨w.heap.size, 6, none⟩ = some (.slice a2 mo.length c2) ∧ w'.cell? ⟨w.heap.size, 7, none⟩ = some (.slice a3 pl.length c3) ∧ w'.cell? ⟨w.heap.size, 8, none⟩ = some (.int .i64 wk) ∧ w'.cell? ⟨w4.heap.size, 0, none⟩ = some (.int .i64 f) ∧ w'.cell? ⟨w4.heap.size, 1, none⟩ = some (.int .i64 ev) ∧ w'.cell? ⟨w4.heap.size, 2, none⟩ = some (.int .i64 ct) ∧ w'.cell? ⟨w4.heap.size, 3, none⟩ = some (.int .i64 un) ∧ w'.cell? ⟨w4.heap.size, 4, none⟩ = some (.slice (some ⟨g0, 0, none⟩) ds.length ds.length) ∧ w'.cell? ⟨w4.heap.size, 5, none⟩ = some (.slice (some ⟨g1, 0, none⟩) da.length da.length) ∧ w'.cell? ⟨w4.heap.size, 6, none⟩ = some (.slice (some ⟨g2, 0, none⟩) mo.length mo.length) ∧ w'.cell? ⟨w4.heap.size, 7, none⟩ = some (.slice (some ⟨g3, 0, none⟩) pl.length pl.length) ∧ w'.cell? ⟨w4.heap.size, 8, none⟩ = some (.int .i64 wk) ∧ IsTurns w' a0 ds ∧ IsInts w' a1 da ∧ IsInts w' a2 mo ∧ IsInts w' a3 pl ∧ IsTurns w' (some ⟨g0, 0, none⟩) ds ∧ IsInts w' (some ⟨g1, 0, none⟩) da ∧ IsInts w' (some ⟨g2, 0, none⟩) mo ∧ IsInts w' (some ⟨g3, 0, none⟩) pl ∧ Below w.heap.size w w')
      (first | assumption | exact RK.on M (Below.refl _ _).drew | exact RK.on (by assumption) hb7)
      (first
        | (go_at_call 9; refine (lawToRule f ev ct un a0 c0 ds a1 c1 da a2 c2 mo a3 c3 pl wk _ (RK.q1 (by assumption)).1.t (RK.q1 (by assumption)).1.i1 (RK.q1 (by assumption)).1.i2 (RK.q1 (by assumption)).1.i3 l0 l1 l2 l3).mono ?_; rintro e w7 ⟨p0, p1, p2, p3, rfl, s0, s1, s2, s3, hb7⟩)
        | (go_at_call 12; refine (lawEqRule _ _ _ _ _ _ ds _ _ da _ _ mo _ _ pl _ _ _ _ _ _ _ _ _ _ (RK.q1 (by assumption)).2.t (RK.q1 (by assumption)).2.i1 (RK.q1 (by assumption)).2.i2 (RK.q1 (by assumption)).2.i3 s0 s1 s2 s3 l0 l1 l2 l3).mono ?_; rintro e w8 ⟨rfl, hb7⟩))
    go_wp2
    go_ret
    exact ⟨rfl, (RK.q1 (by assumption)).1.b⟩
  · have hv : szr ds.length da.length mo.length pl.length = -1 := if_neg hz
    rw [hv]
    go_wp2
    go_ret
    exact ⟨rfl, K.b⟩
end Go.Proofs.YtjflbbbocpnbkaaDoor
