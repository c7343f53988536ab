/- FnMonthAddTwo: the law's own walk. -/
import Derived.Test.YtllpaojjpefgaagDoorCalK
import Derived.Test.YtllpaojjpefgaagDoorDEq
import Derived.Test.YtllpaojjpefgaagDoorMoC
import Derived.Deep.RegionHeld3
import Derived.Deep.DeepCutAuto
namespace Go.Proofs.YtllpaojjpefgaagDoor
open Go.RowKit
set_option linter.unusedVariables false
theorem ma_in {y m d n : Int} (h : moB y m d n = true) : okD y m d = true ∧ -120000 ≤ n ∧ n ≤ 120000 ∧ 0 ≤ mon y m n ∧ mon y m n < 119988 := by
  unfold moB at h
  rw [Bool.and_eq_true] at h
  exact ⟨h.1, of_decide_eq_true h.2⟩
theorem ma_one {y m d n : Int} (h : moB y m d n = true) : 1 ≤ maY y m d n := by
  rw [(ma_yes h).1]
  have := ma_in h
  unfold moY
  omega
theorem two_eq {y m d n k : Int} (h : moB y m d n = true) (hd : d ≤ 28) (h1 : moB (maY y m d n) (maM y m d n) (maD y m d n) k = true) (h2 : moB y m d (n + k) = true) :
    maY (maY y m d n) (maM y m d n) (maD y m d n) k = maY y m d (n + k) ∧ maM (maY y m d n) (maM y m d n) (maD y m d n) k = maM y m d (n + k) ∧ maD (maY y m d n) (maM y m d n) (maD y m d n) k = maD y m d (n + k) := by
  have e := ma_yes h
  rw [e.1, e.2.1, e.2.2] at h1 ⊢
  have a := ma_yes h1
  have b := ma_yes h2
  rw [a.1, a.2.1, a.2.2, b.1, b.2.1, b.2.2]
  have E : mon (moY (mon y m n)) (moM (mon y m n)) k = mon y m (n + k) := by unfold mon moY moM; omega
  rw [E]
  refine ⟨rfl, rfl, ?_⟩
  have d1 := dim_bd (moY (mon y m n)) (moM (mon y m n))
  have d2 := dim_bd (moY (mon y m (n + k))) (moM (mon y m (n + k)))
  have ed : moD (mon y m n) d = d := by unfold moD; split <;> omega
  rw [ed]
theorem two_cases {y m d n k : Int} (h : moB y m d n = true) (hd : d ≤ 28) :
    (maY (maY y m d n) (maM y m d n) (maD y m d n) k = 0 ∧ maM (maY y m d n) (maM y m d n) (maD y m d n) k = 0 ∧ maD (maY y m d n) (maM y m d n) (maD y m d n) k = 0) ∨
    1 ≤ maY (maY y m d n) (maM y m d n) (maD y m d n) k ∧ ((maY y m d (n + k) = 0 ∧ maM y m d (n + k) = 0 ∧ maD y m d (n + k) = 0) ∨
      (1 ≤ maY y m d (n + k) ∧ maY (maY y m d n) (maM y m d n) (maD y m d n) k = maY y m d (n + k) ∧ maM (maY y m d n) (maM y m d n) (maD y m d n) k = maM y m d (n + k) ∧ maD (maY y m d n) (maM y m d n) (maD y m d n) k = maD y m d (n + k))) := by
  cases h1 : moB (maY y m d n) (maM y m d n) (maD y m d n) k with
  | false => exact .inl (ma_no h1)
  | true =>
    refine .inr ⟨ma_one h1, ?_⟩
    cases h2 : moB y m d (n + k) with
    | false => exact .inl (ma_no h2)
    | true => exact .inr ⟨ma_one h2, two_eq h hd h1 h2⟩
/-- What stands while a statement over two dates is reckoned. -/
abbrev Keep2 (w : World) (b b' : Nat) (y m d x1 x2 x3 : Int) (w' : World) : Prop := w'.cell? ⟨b, 0, none⟩ = some (.int .i64 y) ∧ w'.cell? ⟨b, 1, none⟩ = some (.int .i64 m) ∧ w'.cell? ⟨b, 2, none⟩ = some (.int .i64 d) ∧ w'.cell? ⟨b', 0, none⟩ = some (.int .i64 x1) ∧ w'.cell? ⟨b', 1, none⟩ = some (.int .i64 x2) ∧ w'.cell? ⟨b', 2, none⟩ = some (.int .i64 x3) ∧ Tab w' ∧ Below w.heap.size w w'
theorem Keep2.on {w W w' : World} {b b' : Nat} {y m d x1 x2 x3 : Int} (h : Keep2 w b b' y m d x1 x2 x3 W) (hb : Below W.heap.size W w') : Keep2 w b b' y m d x1 x2 x3 w' := by
  obtain ⟨c0, c1, c2, e0, e1, e2, T, B⟩ := h
  have lt := cell_lt c0
  have lt' := cell_lt e0
  refine ⟨?_, ?_, ?_, ?_, ?_, ?_, T.on hb, B.trans (hb.mono B.size)⟩
  · rw [hb.cell (p := ⟨b, 0, none⟩) lt]; exact c0
  · rw [hb.cell (p := ⟨b, 1, none⟩) lt]; exact c1
  · rw [hb.cell (p := ⟨b, 2, none⟩) lt]; exact c2
  · rw [hb.cell (p := ⟨b', 0, none⟩) lt']; exact e0
  · rw [hb.cell (p := ⟨b', 1, none⟩) lt']; exact e1
  · rw [hb.cell (p := ⟨b', 2, none⟩) lt']; exact e2
theorem Keep2.bel {w W : World} {b b' : Nat} {y m d x1 x2 x3 : Int} (h : Keep2 w b b' y m d x1 x2 x3 W) : Below w.heap.size w W := h.2.2.2.2.2.2.2
theorem Keep2.tab {w W : World} {b b' : Nat} {y m d x1 x2 x3 : Int} (h : Keep2 w b b' y m d x1 x2 x3 W) : Tab W := h.2.2.2.2.2.2.1
theorem specMonthAdd_is (y m d n x1 x2 x3 : Int) (w : World) (h : maY y m d n = x1 ∧ maM y m d n = x2 ∧ maD y m d n = x3) :
    Calls Tryd.prog 7 #[.agg #[.int .i64 y, .int .i64 m, .int .i64 d], .int .i64 n] w fun e w' => e = .returned (.agg #[.int .i64 x1, .int .i64 x2, .int .i64 x3]) ∧ Below w.heap.size w w' := by
  obtain ⟨rfl, rfl, rfl⟩ := h
  exact specMonthAdd y m d n w
set_option maxRecDepth 100000 in
set_option maxHeartbeats 40000000 in
theorem lawMonthAddTwo_in (a : Option Addr) (len cap : Nat) (a' : Option Addr) (len' cap' : Nat) (w : World) (h : IsCode w a len cap) (h' : IsCode w a' len' cap') (ht : Tab w) (hl : len ≤ 1048576) (hl' : len' ≤ 1048576) :
    Calls Tryd.prog 3 #[.slice a len cap, .slice a' len' cap'] w fun e w' => e = .returned (.bool true) ∧ Below w.heap.size w w' := by
  have hq1 := run_date_neq
  have hq2 := run_date_guard
  have hq3 := run_date_eql
  have hc1 := h.1
  have hc2 := h'.1
  go_enter Tryd.func3, Tryd.ntmps3
  go_wp2_with fail
  refine (drawMonthAdd w a len cap h).mono ?_
  rintro e w1 ⟨⟨y, m, d, n, rfl, bd⟩, hb1⟩
  have D1 := Dat.new w1 y m d 24
  have B1 : Below w.heap.size w (w1.alloc (.cells #[.int .i64 y, .int .i64 m, .int .i64 d] 24)) := hb1.alloc hb1.size _
  have T1 := ht.on B1
  clear h ht hb1
  go_wp2_with fail
  refine (implMonthAdd y m d n _ T1).mono ?_
  rintro e w2 ⟨rfl, hb2⟩
  generalize hx1 : maY y m d n = x1
  generalize hx2 : maM y m d n = x2
  generalize hx3 : maD y m d n = x3
  have HX : Hid (maY y m d n = x1 ∧ maM y m d n = x2 ∧ maD y m d n = x3) := ⟨hx1, hx2, hx3⟩
  have lt12 : w1.heap.size < w2.heap.size := (D1.below hb2).lt
  have K : Keep2 w w1.heap.size w2.heap.size y m d x1 x2 x3 (w2.alloc (.cells #[.int .i64 x1, .int .i64 x2, .int .i64 x3] 24)) := by
    have D1' := (D1.below hb2).alloc (.cells #[.int .i64 x1, .int .i64 x2, .int .i64 x3] 24)
    have D2 := Dat.new w2 x1 x2 x3 24
    exact ⟨D1'.c0, D1'.c1, D1'.c2, D2.c0, D2.c1, D2.c2, T1.on (hb2.alloc hb2.size _), (B1.trans (hb2.mono B1.size)).alloc (B1.trans (hb2.mono B1.size)).size _⟩
  clear hb2 D1 B1 T1 hx1 hx2 hx3
  have c0 := K.1
  have c1 := K.2.1
  have c2 := K.2.2.1
  have e0 := K.2.2.2.1
  have e1 := K.2.2.2.2.1
  have e2 := K.2.2.2.2.2.1
  cases hB : moB y m d n with
  | false =>
    obtain ⟨z1, z2, z3⟩ := ma_no hB
    have HZ : Hid (x1 = 0 ∧ x2 = 0 ∧ x3 = 0) := by have := HX.out; rw [z1, z2, z3] at this; exact ⟨this.1.symm, this.2.1.symm, this.2.2.symm⟩
    clear z1 z2 z3 hB
    obtain ⟨rfl, rfl, rfl⟩ := HZ.out
    clear HZ
    go_wp2
    go_cut [42] (fun t wc => t = .bool true ∧ Keep2 w w1.heap.size w2.heap.size y m d 0 0 0 wc)
    case first =>
      have K' : Keep2 w w1.heap.size w2.heap.size y m d 0 0 0 (w2.alloc (.cells #[.int .i64 0, .int .i64 0, .int .i64 0] 24)).drew := K.on (Below.refl _ _).drew
      clear K c0 c1 c2 e0 e1 e2
      have c0 := K'.1
      have c1 := K'.2.1
      have c2 := K'.2.2.1
      have e0 := K'.2.2.2.1
      have e1 := K'.2.2.2.2.1
      have e2 := K'.2.2.2.2.2.1
      first
      | go_region_with (go_at_call 7; refine (specMonthAdd_is y m d n 0 0 0 _ HX.out).mono ?_; rintro e w3 ⟨rfl, hb3⟩; replace K' := K'.on hb3; have c0 := K'.1; have c1 := K'.2.1; have c2 := K'.2.2.1; have e0 := K'.2.2.2.1; have e1 := K'.2.2.2.2.1; have e2 := K'.2.2.2.2.2.1; clear hb3)
      | fail
      all_goals
        go_wp2
        go_meet
        case rel => exact ⟨by first | rfl | simp, K'⟩
    case rest =>
      clear K c0 c1 c2 e0 e1 e2
      obtain ⟨rfl, K⟩ := hcut
      have c0 := K.1
      have c1 := K.2.1
      have c2 := K.2.2.1
      have e0 := K.2.2.2.1
      have e1 := K.2.2.2.2.1
      have e2 := K.2.2.2.2.2.1
      go_wp2
      go_region_held3 (fun w' => w'.cell? ⟨w1.heap.size, 0, none⟩ = some (.int .i64 y) ∧ w'.cell? ⟨w1.heap.size, 1, none⟩ = some (.int .i64 m) ∧ w'.cell? ⟨w1.heap.size, 2, none⟩ = some (.int .i64 d) ∧ w'.cell? ⟨w2.heap.size, 0, none⟩ = some (.int .i64 0) ∧ w'.cell? ⟨w2.heap.size, 1, none⟩ = some (.int .i64 0) ∧ w'.cell? ⟨w2.heap.size, 2, none⟩ = some (.int .i64 0) ∧ Tab w' ∧ Below w.heap.size w w')
        (first | assumption | exact Keep2.on K (Below.refl _ _).drew | exact Keep2.on (by assumption) hb3)
        (first
        | (go_at_call 7; refine (specMonthAdd_is y m d n 0 0 0 _ HX.out).mono ?_; rintro e w3 ⟨rfl, hb3⟩))
      go_wp2
      go_ret
      exact ⟨by first | rfl | simp, Keep2.bel (by assumption)⟩
  | true =>
    have x1b : 1 ≤ x1 := by have := ma_one hB; have := HX.out.1; omega
    have q0 : (x1 == 0) = false := beq_eq_false_iff_ne.2 (by omega)
    have HB : Hid (moB y m d n = true) := hB
    clear hB
    by_cases hd : d ≤ 28
    · have g : decide (28 < d) = false := by simp; omega
      go_wp2
      go_cut [42] (fun t wc => t = .bool false ∧ Keep2 w w1.heap.size w2.heap.size y m d x1 x2 x3 wc)
      case first =>
        go_region_held3 (fun w' => w'.cell? ⟨w1.heap.size, 0, none⟩ = some (.int .i64 y) ∧ w'.cell? ⟨w1.heap.size, 1, none⟩ = some (.int .i64 m) ∧ w'.cell? ⟨w1.heap.size, 2, none⟩ = some (.int .i64 d) ∧ w'.cell? ⟨w2.heap.size, 0, none⟩ = some (.int .i64 x1) ∧ w'.cell? ⟨w2.heap.size, 1, none⟩ = some (.int .i64 x2) ∧ w'.cell? ⟨w2.heap.size, 2, none⟩ = some (.int .i64 x3) ∧ Tab w' ∧ Below w.heap.size w w')
          (first | assumption | exact Keep2.on K (Below.refl _ _).drew | exact Keep2.on (by assumption) hb3)
          (first
          | (go_at_call 7; refine (specMonthAdd_is y m d n x1 x2 x3 _ HX.out).mono ?_; rintro e w3 ⟨rfl, hb3⟩))
        go_wp2
        go_meet
        case rel => exact ⟨by first | rfl | simp, by assumption⟩
      case rest =>
        clear K c0 c1 c2 e0 e1 e2
        obtain ⟨rfl, K⟩ := hcut
        have hcode := h'.below K.bel
        clear h'
        go_wp2_with fail
        refine (drawMonthAdd _ a' len' cap' hcode).mono ?_
        rintro e w3 ⟨⟨y', m', d', k, rfl, bd'⟩, hb3⟩
        replace K : Keep2 w w1.heap.size w2.heap.size y m d x1 x2 x3 (w3.alloc (.cells #[.int .i64 y', .int .i64 m', .int .i64 d'] 24)) := K.on (hb3.alloc hb3.size _)
        clear hcode hb3
        have c0 := K.1
        have c1 := K.2.1
        have c2 := K.2.2.1
        have e0 := K.2.2.2.1
        have e1 := K.2.2.2.2.1
        have e2 := K.2.2.2.2.2.1
        go_wp2_with fail
        refine (implMonthAdd x1 x2 x3 k _ K.tab).mono ?_
        rintro e w4 ⟨rfl, hb4⟩
        have HC := two_cases (k := k) HB.out hd
        rw [HX.out.1, HX.out.2.1, HX.out.2.2] at HC
        generalize maY x1 x2 x3 k = u1 at *
        generalize maM x1 x2 x3 k = u2 at *
        generalize maD x1 x2 x3 k = u3 at *
        have D4 := Dat.new w4 u1 u2 u3 24
        replace K : Keep2 w w1.heap.size w2.heap.size y m d x1 x2 x3 (w4.alloc (.cells #[.int .i64 u1, .int .i64 u2, .int .i64 u3] 24)) := K.on (hb4.alloc hb4.size _)
        clear hb4 c0 c1 c2 e0 e1 e2
        have c0 := K.1
        have c1 := K.2.1
        have c2 := K.2.2.1
        have e0 := K.2.2.2.1
        have e1 := K.2.2.2.2.1
        have e2 := K.2.2.2.2.2.1
        have HC' : Hid _ := HC
        clear HC
        go_wp2_with fail
        refine (implMonthAdd y m d (n + k) _ K.tab).mono ?_
        rintro e w5 ⟨rfl, hb5⟩
        have HC := HC'.out
        clear HC'
        generalize maY y m d (n + k) = v1 at *
        generalize maM y m d (n + k) = v2 at *
        generalize maD y m d (n + k) = v3 at *
        have HC' : Hid _ := HC
        clear HC
        replace D4 := (D4.below hb5).alloc (.cells #[.int .i64 v1, .int .i64 v2, .int .i64 v3] 24)
        have lt45 := (D4.lt)
        have f0 := D4.c0
        have f1 := D4.c1
        have f2 := D4.c2
        have B := K.bel.trans ((hb5.alloc hb5.size (.cells #[.int .i64 v1, .int .i64 v2, .int .i64 v3] 24)).mono K.bel.size)
        clear K c0 c1 c2 e0 e1 e2 hb5 D4
        rcases HC'.out with ⟨rfl, rfl, rfl⟩ | ⟨u0, ⟨rfl, rfl, rfl⟩ | ⟨v0, rfl, rfl, rfl⟩⟩
        · clear HC'
          go_wp2
          go_ret
          exact ⟨by first | rfl | simp, B⟩
        · clear HC'
          have q1 : (u1 == 0) = false := beq_eq_false_iff_ne.2 (by omega)
          go_wp2
          go_ret
          exact ⟨by first | rfl | simp, B⟩
        · clear HC'
          have q1 : (u1 == 0) = false := beq_eq_false_iff_ne.2 (by omega)
          go_wp2
          go_ret
          exact ⟨by first | rfl | simp, B⟩
    · have g : decide (28 < d) = true := by simp; omega
      go_wp2
      go_cut [42] (fun t wc => t = .bool true ∧ Keep2 w w1.heap.size w2.heap.size y m d x1 x2 x3 wc)
      case first =>
        go_region_held3 (fun w' => w'.cell? ⟨w1.heap.size, 0, none⟩ = some (.int .i64 y) ∧ w'.cell? ⟨w1.heap.size, 1, none⟩ = some (.int .i64 m) ∧ w'.cell? ⟨w1.heap.size, 2, none⟩ = some (.int .i64 d) ∧ w'.cell? ⟨w2.heap.size, 0, none⟩ = some (.int .i64 x1) ∧ w'.cell? ⟨w2.heap.size, 1, none⟩ = some (.int .i64 x2) ∧ w'.cell? ⟨w2.heap.size, 2, none⟩ = some (.int .i64 x3) ∧ Tab w' ∧ Below w.heap.size w w')
          (first | assumption | exact Keep2.on K (Below.refl _ _).drew | exact Keep2.on (by assumption) hb3)
          (first
          | (go_at_call 7; refine (specMonthAdd_is y m d n x1 x2 x3 _ HX.out).mono ?_; rintro e w3 ⟨rfl, hb3⟩))
        go_wp2
        go_meet
        case rel => exact ⟨by first | rfl | simp, by assumption⟩
      case rest =>
        clear K c0 c1 c2 e0 e1 e2
        obtain ⟨rfl, K⟩ := hcut
        have c0 := K.1
        have c1 := K.2.1
        have c2 := K.2.2.1
        have e0 := K.2.2.2.1
        have e1 := K.2.2.2.2.1
        have e2 := K.2.2.2.2.2.1
        go_wp2
        go_region_held3 (fun w' => w'.cell? ⟨w1.heap.size, 0, none⟩ = some (.int .i64 y) ∧ w'.cell? ⟨w1.heap.size, 1, none⟩ = some (.int .i64 m) ∧ w'.cell? ⟨w1.heap.size, 2, none⟩ = some (.int .i64 d) ∧ w'.cell? ⟨w2.heap.size, 0, none⟩ = some (.int .i64 x1) ∧ w'.cell? ⟨w2.heap.size, 1, none⟩ = some (.int .i64 x2) ∧ w'.cell? ⟨w2.heap.size, 2, none⟩ = some (.int .i64 x3) ∧ Tab w' ∧ Below w.heap.size w w')
          (first | assumption | exact Keep2.on K (Below.refl _ _).drew | exact Keep2.on (by assumption) hb3)
          (first
          | (go_at_call 7; refine (specMonthAdd_is y m d n x1 x2 x3 _ HX.out).mono ?_; rintro e w3 ⟨rfl, hb3⟩))
        go_wp2
        go_ret
        exact ⟨by first | rfl | simp, Keep2.bel (by assumption)⟩
theorem lawMonthAddTwo (a : Option Addr) (len cap : Nat) (a' : Option Addr) (len' cap' : Nat) (w : World) (h : IsCode w a len cap) (h' : IsCode w a' len' cap') (ht : Tab w) :
    Calls Tryd.prog 3 #[.slice a len cap, .slice a' len' cap'] w fun e w' => e = .returned (.bool true) ∧ Below w.heap.size w w' := by
  by_cases hl : len ≤ 1048576
  · by_cases hl' : len' ≤ 1048576
    · exact lawMonthAddTwo_in a len cap a' len' cap' w h h' ht hl hl'
    · obtain ⟨h1, h2, _⟩ := h
      obtain ⟨h1', h2', _⟩ := h'
      go_enter Tryd.func3, Tryd.ntmps3
      go_wp2
      go_ret
      exact ⟨rfl, Below.refl _ _⟩
  · obtain ⟨h1, h2, _⟩ := h
    obtain ⟨h1', h2', _⟩ := h'
    go_enter Tryd.func3, Tryd.ntmps3
    go_wp2
    go_ret
    exact ⟨rfl, Below.refl _ _⟩
end Go.Proofs.YtllpaojjpefgaagDoor
