/- The exact laws' own helpers over rules: held against each other, and their size. -/
import Derived.Test.YtlnhagkipmcioaaDoorRf
import Derived.Test.YtlnhagkipmcioaaDoorZEq
namespace Go.Proofs.YtlnhagkipmcioaaDoor
open Go.RowKit
set_option linter.unusedVariables false
theorem lawEqBy (x y : Int) (w : World) :
    Calls Tryd.prog 28 #[.agg #[.int .i64 x, .int .i64 y], .agg #[.int .i64 x, .int .i64 y]] w fun e w' => e = .returned (.bool true) ∧ Below w.heap.size w w' := by
  go_enter Tryd.func28, Tryd.ntmps28
  go_wp2
  go_ret
  exact ⟨rfl, ((Below.refl _ _).alloc (Nat.le_refl _) _).alloc (by simp) _⟩
set_option maxRecDepth 100000 in
set_option maxHeartbeats 4000000 in
theorem lawEqBys (a a' : Option Addr) (cap cap' : Nat) (ts : List (Int × Int)) (w : World) (h : IsTurns w a ts) (h' : IsTurns w a' ts) (hl : ts.length ≤ 2000000) :
    Calls Tryd.prog 18 #[.slice a ts.length cap, .slice a' ts.length cap'] w fun e w' => e = .returned (.bool true) ∧ Below w.heap.size w w' := by
  have H1 : Hid (IsTurns w a ts) := h
  have H2 : Hid (IsTurns w a' ts) := h'
  clear h h'
  go_enter Tryd.func18, Tryd.ntmps18
  go_wp2
  go_loopw [5] (fun i wr => ∃ k : Nat, k ≤ ts.length ∧ i = .int .i64 k ∧ Below w.heap.size w wr) (fun i _ => ts.length - (intOf i).toNat)
  case atStart => exact ⟨0, by omega, rfl, Below.refl _ _⟩
  case round =>
    obtain ⟨k, hk, rfl, hb⟩ := hrel
    by_cases hlt : k < ts.length
    · have G1 := H1.out
      have G2 := H2.out
      rcases G1 with G1 | ⟨b, o, rfl, hbs, hc⟩
      · rw [G1] at hlt; simp at hlt
      rcases G2 with G2 | ⟨b', o', rfl, hbs', hc'⟩
      · rw [G2] at hlt; simp at hlt
      have c0 : wr.cell? ⟨b, o + k * 2, none⟩ = some (.int .i64 (tAt ts k)) := by rw [hb.cell (p := ⟨b, o + k * 2, none⟩) hbs]; exact (hc k hlt).1
      have c1 : wr.cell? ⟨b, o + k * 2 + 1, none⟩ = some (.int .i64 (tSh ts k)) := by rw [hb.cell (p := ⟨b, o + k * 2 + 1, none⟩) hbs]; exact (hc k hlt).2
      have c2 : wr.cell? ⟨b', o' + k * 2, none⟩ = some (.int .i64 (tAt ts k)) := by rw [hb.cell (p := ⟨b', o' + k * 2, none⟩) hbs']; exact (hc' k hlt).1
      have c3 : wr.cell? ⟨b', o' + k * 2 + 1, none⟩ = some (.int .i64 (tSh ts k)) := by rw [hb.cell (p := ⟨b', o' + k * 2 + 1, none⟩) hbs']; exact (hc' k hlt).2
      have K : Two w b (o + k * 2) b' (o' + k * 2) (tAt ts k) (tSh ts k) wr := ⟨c0, c1, c2, c3, hb⟩
      have hi1 : (k : Int) < (ts.length : Int) := by omega
      have hi0 : (0 : Int) ≤ (k : Int) := by omega
      clear hc hc'
      go_wp2
      go_region_held3 (fun w' => w'.cell? ⟨b, o + k * 2, none⟩ = some (.int .i64 (tAt ts k)) ∧ w'.cell? ⟨b, o + k * 2 + 1, none⟩ = some (.int .i64 (tSh ts k)) ∧ w'.cell? ⟨b', o' + k * 2, none⟩ = some (.int .i64 (tAt ts k)) ∧ w'.cell? ⟨b', o' + k * 2 + 1, none⟩ = some (.int .i64 (tSh ts k)) ∧ Below w.heap.size w w')
        (first | assumption | exact Two.on K (Below.refl _ _).drew | exact Two.on (by assumption) hb3)
        (first | (go_at_call 28; refine (lawEqBy _ _ _).mono ?_; rintro e w3 ⟨rfl, hb3⟩))
      go_wp2
      go_roundw
      case rel => exact ⟨k + 1, by omega, by go_num, by have h := (by assumption : Two w b (o + k * 2) b' (o' + k * 2) (tAt ts k) (tSh ts k) w3); exact h.2.2.2.2⟩
      case measure => simp [intOf]; omega
    · go_wp2
      go_ret
      exact ⟨rfl, hb⟩
set_option maxRecDepth 100000 in
set_option maxHeartbeats 8000000 in
theorem lawEqRule (f ev ct un : Int) (a0 : Option Addr) (c0 : Nat) (ds : List (Int × Int)) (a1 : Option Addr) (c1 : Nat) (da : List Int) (a2 : Option Addr) (c2 : Nat) (mo : List Int) (a3 : Option Addr) (c3 : Nat) (pl : List Int) (wk : Int) (A0 : Option Addr) (C0 : Nat) (A1 : Option Addr) (C1 : Nat) (A2 : Option Addr) (C2 : Nat) (A3 : Option Addr) (C3 : Nat) (w : World) (h0 : IsTurns w a0 ds) (h1 : IsInts w a1 da) (h2 : IsInts w a2 mo) (h3 : IsInts w a3 pl) (k0 : IsTurns w A0 ds) (k1 : IsInts w A1 da) (k2 : IsInts w A2 mo) (k3 : IsInts w A3 pl) (l0 : ds.length ≤ 2000000) (l1 : da.length ≤ 2000000) (l2 : mo.length ≤ 2000000) (l3 : pl.length ≤ 2000000) :
    Calls Tryd.prog 8 #[.agg #[.int .i64 f, .int .i64 ev, .int .i64 ct, .int .i64 un, .slice a0 ds.length c0, .slice a1 da.length c1, .slice a2 mo.length c2, .slice a3 pl.length c3, .int .i64 wk], .agg #[.int .i64 f, .int .i64 ev, .int .i64 ct, .int .i64 un, .slice A0 ds.length C0, .slice A1 da.length C1, .slice A2 mo.length C2, .slice A3 pl.length C3, .int .i64 wk]] w fun z w' => z = .returned (.bool true) ∧ Below w.heap.size w w' := by
  have K0 : QR w w.heap.size (.int .i64 f) (.int .i64 ev) (.int .i64 ct) (.int .i64 un) (.slice a0 ds.length c0) (.slice a1 da.length c1) (.slice a2 mo.length c2) (.slice a3 pl.length c3) (.int .i64 wk) a0 ds a1 da a2 mo a3 pl (w.alloc (.cells #[.int .i64 f, .int .i64 ev, .int .i64 ct, .int .i64 un, .slice a0 ds.length c0, .slice a1 da.length c1, .slice a2 mo.length c2, .slice a3 pl.length c3, .int .i64 wk] 30)) := QR.new _ h0 h1 h2 h3
  have bb : Below (w.alloc (.cells #[.int .i64 f, .int .i64 ev, .int .i64 ct, .int .i64 un, .slice a0 ds.length c0, .slice a1 da.length c1, .slice a2 mo.length c2, .slice a3 pl.length c3, .int .i64 wk] 30)).heap.size (w.alloc (.cells #[.int .i64 f, .int .i64 ev, .int .i64 ct, .int .i64 un, .slice a0 ds.length c0, .slice a1 da.length c1, .slice a2 mo.length c2, .slice a3 pl.length c3, .int .i64 wk] 30)) ((w.alloc (.cells #[.int .i64 f, .int .i64 ev, .int .i64 ct, .int .i64 un, .slice a0 ds.length c0, .slice a1 da.length c1, .slice a2 mo.length c2, .slice a3 pl.length c3, .int .i64 wk] 30)).alloc (.cells #[.int .i64 f, .int .i64 ev, .int .i64 ct, .int .i64 un, .slice A0 ds.length C0, .slice A1 da.length C1, .slice A2 mo.length C2, .slice A3 pl.length C3, .int .i64 wk] 30)) := (Below.refl _ _).alloc (Nat.le_refl _) _
  have K := QR.on K0 bb
  have L : QR (w.alloc (.cells #[.int .i64 f, .int .i64 ev, .int .i64 ct, .int .i64 un, .slice a0 ds.length c0, .slice a1 da.length c1, .slice a2 mo.length c2, .slice a3 pl.length c3, .int .i64 wk] 30)) (w.heap.size + 1) (.int .i64 f) (.int .i64 ev) (.int .i64 ct) (.int .i64 un) (.slice A0 ds.length C0) (.slice A1 da.length C1) (.slice A2 mo.length C2) (.slice A3 pl.length C3) (.int .i64 wk) A0 ds A1 da A2 mo A3 pl ((w.alloc (.cells #[.int .i64 f, .int .i64 ev, .int .i64 ct, .int .i64 un, .slice a0 ds.length c0, .slice a1 da.length c1, .slice a2 mo.length c2, .slice a3 pl.length c3, .int .i64 wk] 30)).alloc (.cells #[.int .i64 f, .int .i64 ev, .int .i64 ct, .int .i64 un, .slice A0 ds.length C0, .slice A1 da.length C1, .slice A2 mo.length C2, .slice A3 pl.length C3, .int .i64 wk] 30)) := by
    have := QR.new (w := w.alloc (.cells #[.int .i64 f, .int .i64 ev, .int .i64 ct, .int .i64 un, .slice a0 ds.length c0, .slice a1 da.length c1, .slice a2 mo.length c2, .slice a3 pl.length c3, .int .i64 wk] 30)) (v0 := .int .i64 f) (v1 := .int .i64 ev) (v2 := .int .i64 ct) (v3 := .int .i64 un) (v4 := .slice A0 ds.length C0) (v5 := .slice A1 da.length C1) (v6 := .slice A2 mo.length C2) (v7 := .slice A3 pl.length C3) (v8 := .int .i64 wk) 30 (k0.below (B := 0) K0.b) (k1.below K0.b) (k2.below K0.b) (k3.below K0.b)
    rw [World.size_alloc] at this
    exact this
  clear h0 h1 h2 h3 k0 k1 k2 k3 K0 bb
  have X := K
  obtain ⟨x0, x1, x2, x3, x4, x5, x6, x7, x8, _⟩ := X
  have Y := L
  obtain ⟨y0, y1, y2, y3, y4, y5, y6, y7, y8, _⟩ := Y
  go_enter Tryd.func8, Tryd.ntmps8
  go_wp2_with fail
  refine (lawEqBys a0 A0 _ _ ds _ (QR.t K) (QR.t L) l0).mono ?_
  rintro e w1 ⟨rfl, b1⟩
  replace K := QR.on K b1
  replace L := QR.on L b1
  clear b1 x0 x1 x2 x3 x4 x5 x6 x7 x8 y0 y1 y2 y3 y4 y5 y6 y7 y8
  have X := K
  obtain ⟨x0, x1, x2, x3, x4, x5, x6, x7, x8, _⟩ := X
  have Y := L
  obtain ⟨y0, y1, y2, y3, y4, y5, y6, y7, y8, _⟩ := Y
  go_wp2_with fail
  refine (lawEqInts a1 A1 _ _ da _ (QR.i1 K) (QR.i1 L) (by omega)).mono ?_
  rintro e w1 ⟨rfl, b1⟩
  replace K := QR.on K b1
  replace L := QR.on L b1
  clear b1 x0 x1 x2 x3 x4 x5 x6 x7 x8 y0 y1 y2 y3 y4 y5 y6 y7 y8
  have X := K
  obtain ⟨x0, x1, x2, x3, x4, x5, x6, x7, x8, _⟩ := X
  have Y := L
  obtain ⟨y0, y1, y2, y3, y4, y5, y6, y7, y8, _⟩ := Y
  go_wp2_with fail
  refine (lawEqInts a2 A2 _ _ mo _ (QR.i2 K) (QR.i2 L) (by omega)).mono ?_
  rintro e w1 ⟨rfl, b1⟩
  replace K := QR.on K b1
  replace L := QR.on L b1
  clear b1 x0 x1 x2 x3 x4 x5 x6 x7 x8 y0 y1 y2 y3 y4 y5 y6 y7 y8
  have X := K
  obtain ⟨x0, x1, x2, x3, x4, x5, x6, x7, x8, _⟩ := X
  have Y := L
  obtain ⟨y0, y1, y2, y3, y4, y5, y6, y7, y8, _⟩ := Y
  go_wp2_with fail
  refine (lawEqInts a3 A3 _ _ pl _ (QR.i3 K) (QR.i3 L) (by omega)).mono ?_
  rintro e w1 ⟨rfl, b1⟩
  replace K := QR.on K b1
  replace L := QR.on L b1
  clear b1 x0 x1 x2 x3 x4 x5 x6 x7 x8 y0 y1 y2 y3 y4 y5 y6 y7 y8
  have X := K
  obtain ⟨x0, x1, x2, x3, x4, x5, x6, x7, x8, _⟩ := X
  have Y := L
  obtain ⟨y0, y1, y2, y3, y4, y5, y6, y7, y8, _⟩ := Y
  go_wp2_with fail
  go_ret
  exact ⟨rfl, K.b⟩
def sz1 (n : Nat) (left : Int) : Int := if (n : Int) ≤ left then left - (n : Int) else -1
theorem lawSzBys (a : Option Addr) (n cap : Nat) (left : Int) (w : World) (hn : n ≤ maxLen) (h0 : 0 ≤ left) (h1 : left ≤ 1048576) :
    Calls Tryd.prog 9 #[.slice a n cap, .int .i64 left] w fun e w' => e = .returned (.int .i64 (sz1 n left)) ∧ w' = w := by
  unfold maxLen at hn
  by_cases h : (n : Int) ≤ left
  · have H : Hid (sz1 n left = left - (n : Int)) := if_pos h
    go_enter Tryd.func9, Tryd.ntmps9
    go_wp2
    go_ret
    exact ⟨ret_i H.out.symm, rfl⟩
  · have H : Hid (sz1 n left = -1) := if_neg h
    have h3 : left - (n : Int) < 0 := by omega
    go_enter Tryd.func9, Tryd.ntmps9
    go_wp2
    go_ret
    exact ⟨ret_i H.out.symm, rfl⟩
theorem lawSzInts (a : Option Addr) (n cap : Nat) (left : Int) (w : World) (hn : n ≤ maxLen) (h0 : 0 ≤ left) (h1 : left ≤ 1048576) :
    Calls Tryd.prog 10 #[.slice a n cap, .int .i64 left] w fun e w' => e = .returned (.int .i64 (sz1 n left)) ∧ w' = w := by
  unfold maxLen at hn
  by_cases h : (n : Int) ≤ left
  · have H : Hid (sz1 n left = left - (n : Int)) := if_pos h
    go_enter Tryd.func10, Tryd.ntmps10
    go_wp2
    go_ret
    exact ⟨ret_i H.out.symm, rfl⟩
  · have H : Hid (sz1 n left = -1) := if_neg h
    have h3 : left - (n : Int) < 0 := by omega
    go_enter Tryd.func10, Tryd.ntmps10
    go_wp2
    go_ret
    exact ⟨ret_i H.out.symm, rfl⟩
theorem sz_yes {n : Nat} {left : Int} (h : (n : Int) ≤ left) : sz1 n left = left - n := if_pos h
theorem sz_no {n : Nat} {left : Int} (h : ¬ (n : Int) ≤ left) : sz1 n left = -1 := if_neg h
/-- What is left of so much, or -1. -/
def szr (n0 n1 n2 n3 : Nat) : Int := if n0 + n1 + n2 + n3 ≤ 1048576 then 1048576 - (n0 : Int) - (n1 : Int) - (n2 : Int) - (n3 : Int) else -1
set_option maxHeartbeats 8000000 in
theorem lawSzRule (f ev ct un : Int) (a0 : Option Addr) (n0 c0 : Nat) (a1 : Option Addr) (n1 c1 : Nat) (a2 : Option Addr) (n2 c2 : Nat) (a3 : Option Addr) (n3 c3 : Nat) (wk : Int) (w : World) (m0 : n0 ≤ maxLen) (m1 : n1 ≤ maxLen) (m2 : n2 ≤ maxLen) (m3 : n3 ≤ maxLen) :
    Calls Tryd.prog 4 #[.agg #[.int .i64 f, .int .i64 ev, .int .i64 ct, .int .i64 un, .slice a0 n0 c0, .slice a1 n1 c1, .slice a2 n2 c2, .slice a3 n3 c3, .int .i64 wk], .int .i64 1048576] w fun e w' => e = .returned (.int .i64 (szr n0 n1 n2 n3)) ∧ Below w.heap.size w w' := by
  have hb0 := (Below.refl w.heap.size w).alloc (Nat.le_refl _) (.cells #[.int .i64 f, .int .i64 ev, .int .i64 ct, .int .i64 un, .slice a0 n0 c0, .slice a1 n1 c1, .slice a2 n2 c2, .slice a3 n3 c3, .int .i64 wk] 25)
  by_cases t0 : n0 ≤ 1048576
  · by_cases t1 : n0 + n1 ≤ 1048576
    · by_cases t2 : n0 + n1 + n2 ≤ 1048576
      · by_cases t3 : n0 + n1 + n2 + n3 ≤ 1048576
        · have HZ : Hid (szr n0 n1 n2 n3 = 1048576 - (n0 : Int) - (n1 : Int) - (n2 : Int) - (n3 : Int)) := if_pos t3
          go_enter Tryd.func4, Tryd.ntmps4
          go_wp2_with fail
          refine (lawSzBys _ _ _ _ _ m0 (by omega) (by omega)).mono ?_
          rintro e w' ⟨rfl, rfl⟩
          rw [sz_yes (by omega)]
          go_wp2_with fail
          refine (lawSzInts _ _ _ _ _ m1 (by omega) (by omega)).mono ?_
          rintro e w' ⟨rfl, rfl⟩
          rw [sz_yes (by omega)]
          go_wp2_with fail
          refine (lawSzInts _ _ _ _ _ m2 (by omega) (by omega)).mono ?_
          rintro e w' ⟨rfl, rfl⟩
          rw [sz_yes (by omega)]
          go_wp2_with fail
          refine (lawSzInts _ _ _ _ _ m3 (by omega) (by omega)).mono ?_
          rintro e w' ⟨rfl, rfl⟩
          rw [sz_yes (by omega)]
          go_wp2
          go_ret
          exact ⟨ret_i HZ.out.symm, hb0⟩
        · have HZ : Hid (szr n0 n1 n2 n3 = -1) := if_neg (by omega)
          go_enter Tryd.func4, Tryd.ntmps4
          go_wp2_with fail
          refine (lawSzBys _ _ _ _ _ m0 (by omega) (by omega)).mono ?_
          rintro e w' ⟨rfl, rfl⟩
          rw [sz_yes (by omega)]
          go_wp2_with fail
          refine (lawSzInts _ _ _ _ _ m1 (by omega) (by omega)).mono ?_
          rintro e w' ⟨rfl, rfl⟩
          rw [sz_yes (by omega)]
          go_wp2_with fail
          refine (lawSzInts _ _ _ _ _ m2 (by omega) (by omega)).mono ?_
          rintro e w' ⟨rfl, rfl⟩
          rw [sz_yes (by omega)]
          go_wp2_with fail
          refine (lawSzInts _ _ _ _ _ m3 (by omega) (by omega)).mono ?_
          rintro e w' ⟨rfl, rfl⟩
          rw [sz_no (by omega)]
          go_wp2
          go_ret
          exact ⟨ret_i HZ.out.symm, hb0⟩
      · have HZ : Hid (szr n0 n1 n2 n3 = -1) := if_neg (by omega)
        go_enter Tryd.func4, Tryd.ntmps4
        go_wp2_with fail
        refine (lawSzBys _ _ _ _ _ m0 (by omega) (by omega)).mono ?_
        rintro e w' ⟨rfl, rfl⟩
        rw [sz_yes (by omega)]
        go_wp2_with fail
        refine (lawSzInts _ _ _ _ _ m1 (by omega) (by omega)).mono ?_
        rintro e w' ⟨rfl, rfl⟩
        rw [sz_yes (by omega)]
        go_wp2_with fail
        refine (lawSzInts _ _ _ _ _ m2 (by omega) (by omega)).mono ?_
        rintro e w' ⟨rfl, rfl⟩
        rw [sz_no (by omega)]
        go_wp2
        go_ret
        exact ⟨ret_i HZ.out.symm, hb0⟩
    · have HZ : Hid (szr n0 n1 n2 n3 = -1) := if_neg (by omega)
      go_enter Tryd.func4, Tryd.ntmps4
      go_wp2_with fail
      refine (lawSzBys _ _ _ _ _ m0 (by omega) (by omega)).mono ?_
      rintro e w' ⟨rfl, rfl⟩
      rw [sz_yes (by omega)]
      go_wp2_with fail
      refine (lawSzInts _ _ _ _ _ m1 (by omega) (by omega)).mono ?_
      rintro e w' ⟨rfl, rfl⟩
      rw [sz_no (by omega)]
      go_wp2
      go_ret
      exact ⟨ret_i HZ.out.symm, hb0⟩
  · have HZ : Hid (szr n0 n1 n2 n3 = -1) := if_neg (by omega)
    go_enter Tryd.func4, Tryd.ntmps4
    go_wp2_with fail
    refine (lawSzBys _ _ _ _ _ m0 (by omega) (by omega)).mono ?_
    rintro e w' ⟨rfl, rfl⟩
    rw [sz_no (by omega)]
    go_wp2
    go_ret
    exact ⟨ret_i HZ.out.symm, hb0⟩
end Go.Proofs.YtlnhagkipmcioaaDoor
