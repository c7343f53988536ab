/- FnMonthAdd: the law's own walk. -/
import Derived.Test.YtngekeigdnlbmaaDoorCalK
import Derived.Test.YtngekeigdnlbmaaDoorDEq
import Derived.Test.YtngekeigdnlbmaaDoorMoL
import Derived.Deep.RegionHeld3
import Derived.Deep.DeepCutAuto
namespace Go.Proofs.YtngekeigdnlbmaaDoor
open Go.RowKit
set_option linter.unusedVariables false
theorem ma_in {y m d n : Int} (h : moB y m d n = true) : okD y m d = true ∧ -120000 ≤ n ∧ n ≤ 120000 ∧ 0 ≤ mon y m n ∧ mon y m n < 119988 := by
  unfold moB at h
  rw [Bool.and_eq_true] at h
  exact ⟨h.1, of_decide_eq_true h.2⟩
theorem ma_one {y m d n : Int} (h : moB y m d n = true) : 1 ≤ maY y m d n := by
  rw [(ma_yes h).1]
  have := ma_in h
  unfold moY
  omega
theorem wp_region_cls {P : Program} {id : Nat} {Q : Exit → Act → World → Prop} {a : Act} {w : World} {l : List Oper} (C : World → Prop) (hm : P.follows .mixedOrders = true) (hB : Region.lexB .any l.toArray = true) (hC : C w.drew)
    (h : wpQuiet P l.toArray C (fun a' => ∀ w', C w' → Q .normal a' w') l a) : (Code.region id l.toArray true).wp P Q a w :=
  wp_region_quiet (C := C) hm hB hC (by simpa using h)
/-- What stands while a statement over two dates is reckoned. -/
abbrev Keep2 (w : World) (b b' : Nat) (y m d x1 x2 x3 : Int) (w' : World) : Prop := w'.cell? ⟨b, 0, none⟩ = some (.int .i64 y) ∧ w'.cell? ⟨b, 1, none⟩ = some (.int .i64 m) ∧ w'.cell? ⟨b, 2, none⟩ = some (.int .i64 d) ∧ w'.cell? ⟨b', 0, none⟩ = some (.int .i64 x1) ∧ w'.cell? ⟨b', 1, none⟩ = some (.int .i64 x2) ∧ w'.cell? ⟨b', 2, none⟩ = some (.int .i64 x3) ∧ Tab w' ∧ Below w.heap.size w w'
theorem Keep2.on {w W w' : World} {b b' : Nat} {y m d x1 x2 x3 : Int} (h : Keep2 w b b' y m d x1 x2 x3 W) (hb : Below W.heap.size W w') : Keep2 w b b' y m d x1 x2 x3 w' := by
  obtain ⟨c0, c1, c2, e0, e1, e2, T, B⟩ := h
  have lt := cell_lt c0
  have lt' := cell_lt e0
  refine ⟨?_, ?_, ?_, ?_, ?_, ?_, T.on hb, B.trans (hb.mono B.size)⟩
  · rw [hb.cell (p := ⟨b, 0, none⟩) lt]; exact c0
  · rw [hb.cell (p := ⟨b, 1, none⟩) lt]; exact c1
  · rw [hb.cell (p := ⟨b, 2, none⟩) lt]; exact c2
  · rw [hb.cell (p := ⟨b', 0, none⟩) lt']; exact e0
  · rw [hb.cell (p := ⟨b', 1, none⟩) lt']; exact e1
  · rw [hb.cell (p := ⟨b', 2, none⟩) lt']; exact e2
abbrev Keep3 (w : World) (b b' b'' : Nat) (y m d x1 x2 x3 v1 v2 v3 : Int) (w' : World) : Prop := Keep2 w b b' y m d x1 x2 x3 w' ∧ w'.cell? ⟨b'', 0, none⟩ = some (.int .i64 v1) ∧ w'.cell? ⟨b'', 1, none⟩ = some (.int .i64 v2) ∧ w'.cell? ⟨b'', 2, none⟩ = some (.int .i64 v3)
theorem Keep3.on {w W w' : World} {b b' b'' : Nat} {y m d x1 x2 x3 v1 v2 v3 : Int} (h : Keep3 w b b' b'' y m d x1 x2 x3 v1 v2 v3 W) (hb : Below W.heap.size W w') : Keep3 w b b' b'' y m d x1 x2 x3 v1 v2 v3 w' := by
  obtain ⟨k, f0, f1, f2⟩ := h
  have lt := cell_lt f0
  refine ⟨k.on hb, ?_, ?_, ?_⟩
  · rw [hb.cell (p := ⟨b'', 0, none⟩) lt]; exact f0
  · rw [hb.cell (p := ⟨b'', 1, none⟩) lt]; exact f1
  · rw [hb.cell (p := ⟨b'', 2, none⟩) lt]; exact f2
theorem Keep2.bel {w W : World} {b b' : Nat} {y m d x1 x2 x3 : Int} (h : Keep2 w b b' y m d x1 x2 x3 W) : Below w.heap.size w W := h.2.2.2.2.2.2.2
theorem Keep2.tab {w W : World} {b b' : Nat} {y m d x1 x2 x3 : Int} (h : Keep2 w b b' y m d x1 x2 x3 W) : Tab W := h.2.2.2.2.2.2.1
theorem specMonthAdd_is (y m d n x1 x2 x3 : Int) (w : World) (h : maY y m d n = x1 ∧ maM y m d n = x2 ∧ maD y m d n = x3) :
    Calls Tryd.prog 12 #[.agg #[.int .i64 y, .int .i64 m, .int .i64 d], .int .i64 n] w fun e w' => e = .returned (.agg #[.int .i64 x1, .int .i64 x2, .int .i64 x3]) ∧ Below w.heap.size w w' := by
  obtain ⟨rfl, rfl, rfl⟩ := h
  exact specMonthAdd y m d n w
theorem implMonthAdd_zero (y m d : Int) (w : World) (ht : Tab w) (h : okD y m d = true) :
    Calls Tryd.prog 11 #[.agg #[.int .i64 y, .int .i64 m, .int .i64 d], .int .i64 0] w fun e w' => e = .returned (.agg #[.int .i64 y, .int .i64 m, .int .i64 d]) ∧ Below w.heap.size w w' := by
  have hh := implMonthAdd y m d 0 w ht
  obtain ⟨e1, e2, e3⟩ := ma_zero h
  rw [e1, e2, e3] at hh
  exact hh
set_option maxRecDepth 100000 in
set_option maxHeartbeats 40000000 in
theorem lawMonthAdd_in (a : Option Addr) (len cap : Nat) (w : World) (h : IsCode w a len cap) (ht : Tab w) (hl : len ≤ 1048576) :
    Calls Tryd.prog 3 #[.slice a len cap] w fun e w' => e = .returned (.bool true) ∧ Below w.heap.size w w' := by
  have hq1 := run_date_neq
  have hq2 := run_date_guard
  have hq3 := run_date_eql
  have hc1 := h.1
  go_enter Tryd.func3, Tryd.ntmps3
  go_wp2_with fail
  refine (drawMonthAdd w a len cap h).mono ?_
  rintro e w1 ⟨⟨y, m, d, n, rfl, bd⟩, hb1⟩
  have D1 := Dat.new w1 y m d 24
  have B1 : Below w.heap.size w (w1.alloc (.cells #[.int .i64 y, .int .i64 m, .int .i64 d] 24)) := hb1.alloc hb1.size _
  have T1 := ht.on B1
  clear h ht hb1
  go_wp2_with fail
  refine (implMonthAdd y m d n _ T1).mono ?_
  rintro e w2 ⟨rfl, hb2⟩
  generalize hx1 : maY y m d n = x1
  generalize hx2 : maM y m d n = x2
  generalize hx3 : maD y m d n = x3
  have HX : Hid (maY y m d n = x1 ∧ maM y m d n = x2 ∧ maD y m d n = x3) := ⟨hx1, hx2, hx3⟩
  have lt12 : w1.heap.size < w2.heap.size := (D1.below hb2).lt
  have K : Keep2 w w1.heap.size w2.heap.size y m d x1 x2 x3 (w2.alloc (.cells #[.int .i64 x1, .int .i64 x2, .int .i64 x3] 24)) := by
    have D1' := (D1.below hb2).alloc (.cells #[.int .i64 x1, .int .i64 x2, .int .i64 x3] 24)
    have D2 := Dat.new w2 x1 x2 x3 24
    exact ⟨D1'.c0, D1'.c1, D1'.c2, D2.c0, D2.c1, D2.c2, T1.on (hb2.alloc hb2.size _), (B1.trans (hb2.mono B1.size)).alloc (B1.trans (hb2.mono B1.size)).size _⟩
  clear hb2 D1 B1 T1 hx1 hx2 hx3
  have c0 := K.1
  have c1 := K.2.1
  have c2 := K.2.2.1
  have e0 := K.2.2.2.1
  have e1 := K.2.2.2.2.1
  have e2 := K.2.2.2.2.2.1
  cases hB : moB y m d n with
  | false =>
    obtain ⟨z1, z2, z3⟩ := ma_no hB
    have HZ : Hid (x1 = 0 ∧ x2 = 0 ∧ x3 = 0) := by have := HX.out; rw [z1, z2, z3] at this; exact ⟨this.1.symm, this.2.1.symm, this.2.2.symm⟩
    clear z1 z2 z3 hB
    obtain ⟨rfl, rfl, rfl⟩ := HZ.out
    clear HZ
    go_wp2
    go_cut [28] (fun t wc => t = .bool true ∧ Keep2 w w1.heap.size w2.heap.size y m d 0 0 0 wc)
    case first =>
      go_region_held3 (fun w' => w'.cell? ⟨w1.heap.size, 0, none⟩ = some (.int .i64 y) ∧ w'.cell? ⟨w1.heap.size, 1, none⟩ = some (.int .i64 m) ∧ w'.cell? ⟨w1.heap.size, 2, none⟩ = some (.int .i64 d) ∧ w'.cell? ⟨w2.heap.size, 0, none⟩ = some (.int .i64 0) ∧ w'.cell? ⟨w2.heap.size, 1, none⟩ = some (.int .i64 0) ∧ w'.cell? ⟨w2.heap.size, 2, none⟩ = some (.int .i64 0) ∧ Tab w' ∧ Below w.heap.size w w')
        (first | assumption | exact Keep2.on K (Below.refl _ _).drew | exact Keep2.on (by assumption) hb3)
        (first
        | (go_at_call 12; refine (specMonthAdd_is y m d n 0 0 0 _ HX.out).mono ?_; rintro e w3 ⟨rfl, hb3⟩))
      go_wp2
      go_meet
      case rel => exact ⟨by first | rfl | simp, by assumption⟩
    case rest =>
      clear K c0 c1 c2 e0 e1 e2
      obtain ⟨rfl, K⟩ := hcut
      have c0 := K.1
      have c1 := K.2.1
      have c2 := K.2.2.1
      have e0 := K.2.2.2.1
      have e1 := K.2.2.2.2.1
      have e2 := K.2.2.2.2.2.1
      go_wp2
      go_region_held3 (fun w' => w'.cell? ⟨w1.heap.size, 0, none⟩ = some (.int .i64 y) ∧ w'.cell? ⟨w1.heap.size, 1, none⟩ = some (.int .i64 m) ∧ w'.cell? ⟨w1.heap.size, 2, none⟩ = some (.int .i64 d) ∧ w'.cell? ⟨w2.heap.size, 0, none⟩ = some (.int .i64 0) ∧ w'.cell? ⟨w2.heap.size, 1, none⟩ = some (.int .i64 0) ∧ w'.cell? ⟨w2.heap.size, 2, none⟩ = some (.int .i64 0) ∧ Tab w' ∧ Below w.heap.size w w')
        (first | assumption | exact Keep2.on K (Below.refl _ _).drew | exact Keep2.on (by assumption) hb3)
        (first
        | (go_at_call 12; refine (specMonthAdd_is y m d n 0 0 0 _ HX.out).mono ?_; rintro e w3 ⟨rfl, hb3⟩))
      go_wp2
      go_ret
      exact ⟨by first | rfl | simp, Keep2.bel (by assumption)⟩
  | true =>
    have x1b : 1 ≤ x1 := by have := ma_one hB; have := HX.out.1; omega
    have q0 : (x1 == 0) = false := beq_eq_false_iff_ne.2 (by omega)
    have HB : Hid (moB y m d n = true) := hB
    clear hB
    go_wp2
    go_cut [28] (fun t wc => t = .bool false ∧ Keep2 w w1.heap.size w2.heap.size y m d x1 x2 x3 wc)
    case first =>
      go_region_held3 (fun w' => w'.cell? ⟨w1.heap.size, 0, none⟩ = some (.int .i64 y) ∧ w'.cell? ⟨w1.heap.size, 1, none⟩ = some (.int .i64 m) ∧ w'.cell? ⟨w1.heap.size, 2, none⟩ = some (.int .i64 d) ∧ w'.cell? ⟨w2.heap.size, 0, none⟩ = some (.int .i64 x1) ∧ w'.cell? ⟨w2.heap.size, 1, none⟩ = some (.int .i64 x2) ∧ w'.cell? ⟨w2.heap.size, 2, none⟩ = some (.int .i64 x3) ∧ Tab w' ∧ Below w.heap.size w w')
        (first | assumption | exact Keep2.on K (Below.refl _ _).drew | exact Keep2.on (by assumption) hb3)
        (first
        | (go_at_call 12; refine (specMonthAdd_is y m d n x1 x2 x3 _ HX.out).mono ?_; rintro e w3 ⟨rfl, hb3⟩))
      go_wp2
      go_meet
      case rel => exact ⟨by first | rfl | simp, by assumption⟩
    case rest =>
      clear K c0 c1 c2 e0 e1 e2 q0
      obtain ⟨rfl, K⟩ := hcut
      have c0 := K.1
      have c1 := K.2.1
      have c2 := K.2.2.1
      have e0 := K.2.2.2.1
      have e1 := K.2.2.2.2.1
      have e2 := K.2.2.2.2.2.1
      have ok := (ma_in HB.out).1
      have okx : okD x1 x2 x3 = true := by
        obtain ⟨i1, i2, i3, i4, i5⟩ := ma_in HB.out
        have := mo_ok (k := mon y m n) (d := d) i4 i5 ((okD_iff _ _ _).1 i1).2.2.2.2.1
        rw [← (ma_yes HB.out).1, ← (ma_yes HB.out).2.1, ← (ma_yes HB.out).2.2, HX.out.1, HX.out.2.1, HX.out.2.2] at this
        exact this
      have b1 : 1 ≤ y ∧ y ≤ 9999 ∧ 1 ≤ m ∧ m ≤ 12 := by have := (okD_iff _ _ _).1 ok; omega
      have b2 : x1 ≤ 9999 ∧ 1 ≤ x2 ∧ x2 ≤ 12 := by have := (okD_iff _ _ _).1 okx; omega
      have HM : Hid ((x1 - y) * 12 + x2 - m = n) := by have := ma_months HB.out; rw [HX.out.1, HX.out.2.1] at this; exact this
      have HD : Hid (x3 = d ∨ x3 < d ∧ x3 = dim x1 x2) := by have := ma_day HB.out; rw [HX.out.1, HX.out.2.1, HX.out.2.2] at this; exact this
      have HOK : Hid (okD y m d = true) := ok
      have HOX : Hid (okD x1 x2 x3 = true) := okx
      clear ok okx
      go_wp2_with fail
      rw [HM.out]
      refine (implMonthAdd y m d 12 _ K.tab).mono ?_
      rintro e w4 ⟨rfl, hb4⟩
      have HV : Hid (y = 9999 ∨ y < 9999 ∧ maY y m d 12 = y + 1 ∧ maM y m d 12 = m) := by
        by_cases hy : y = 9999
        · exact .inl hy
        · exact .inr ⟨by omega, (ma_year HOK.out (by omega)).1, (ma_year HOK.out (by omega)).2⟩
      have HW := HV.out
      clear HV
      generalize maY y m d 12 = v1 at *
      generalize maM y m d 12 = v2 at *
      generalize maD y m d 12 = v3 at *
      have HV : Hid (y = 9999 ∨ y < 9999 ∧ v1 = y + 1 ∧ v2 = m) := HW
      clear HW
      have D7 := Dat.new w4 v1 v2 v3 24
      have lt4 : w2.heap.size < w4.heap.size := Nat.lt_of_lt_of_le (cell_lt K.2.2.2.1) hb4.size
      replace K : Keep2 w w1.heap.size w2.heap.size y m d x1 x2 x3 (w4.alloc (.cells #[.int .i64 v1, .int .i64 v2, .int .i64 v3] 24)) := K.on (hb4.alloc hb4.size _)
      clear hb4 c0 c1 c2 e0 e1 e2
      have HMD : Hid (mdays x1 x2 = dim x1 x2) := by
        unfold Hid
        have := (okD_iff _ _ _).1 HOX.out
        exact mdays_in (by omega)
      rcases HD.out with hx | ⟨hx, hx'⟩
      · have g1 : (x3 == d) = true := beq_iff_eq.2 hx
        clear hx
        rcases HV.out with hv | ⟨hv, hv1, hv2⟩
        · have g3 : (y == 9999) = true := beq_iff_eq.2 hv
          clear hv
          clear HV HD HMD
          have K3 : Keep3 w w1.heap.size w2.heap.size w4.heap.size y m d x1 x2 x3 v1 v2 v3 (w4.alloc (.cells #[.int .i64 v1, .int .i64 v2, .int .i64 v3] 24)) := ⟨K, D7.c0, D7.c1, D7.c2⟩
          clear K D7
          go_wp2
          refine wp_region_cls (fun w' => Keep3 w w1.heap.size w2.heap.size w4.heap.size y m d x1 x2 x3 v1 v2 v3 w') (by kernel_rfl) (by kernel_rfl) (Keep3.on K3 (Below.refl _ _).drew) ?_
          clear K3
          repeat (first
            | go_big_quiet_skip
            | (go_big_quiet_want; go_big_quiet_op; go_big_quiet_on)
            | (go_big_quiet_want
               apply Exists.intro
               refine ⟨fun w7 hC7 => ?_, ?_⟩
               · (have hC8 := hC7
                  obtain ⟨⟨c0, c1, c2, e0, e1, e2, T7, _⟩, f0, f1, f2⟩ := hC7
                  go_simp
                  first
                    | done
                    | rfl
                    | exact ⟨rfl, rfl⟩
                    | (refine (implDateOkR x1 x2 x3 _ T7 _ HOX.out).mono ?_
                       rintro e w8 ⟨rfl, hb8⟩
                       have k8 := Keep3.on hC8 hb8
                       first | exact ⟨rfl, k8⟩ | (go_simp; simpa [and_assoc] using k8))
                    | (refine (implMonthDays x1 x2 _ T7).mono ?_
                       rintro e w8 ⟨rfl, rfl⟩
                       first | exact ⟨rfl, hC8⟩ | (go_simp; simpa [and_assoc] using hC8))
                    | (refine (implMonthAdd_zero y m d _ T7 HOK.out).mono ?_
                       rintro e w8 ⟨rfl, hb8⟩
                       have k8 := Keep3.on hC8 hb8
                       first | exact ⟨rfl, k8⟩ | (go_simp; simpa [and_assoc] using k8)))
               (go_simp; go_big_quiet_on)))
          refine wpQuiet_nil ?_
          intro w7 K7
          go_wp2
          go_ret
          exact ⟨by first | rfl | simp, K7.1.bel⟩
        · have g3 : (y == 9999) = false := beq_eq_false_iff_ne.2 (by omega)
          have q1 := IntWalk.i64_in (y + 1) (by omega)
          have hv3 := hv2.symm
          clear hv2
          subst hv1
          subst hv3
          clear HV HD HMD
          have K3 : Keep3 w w1.heap.size w2.heap.size w4.heap.size y m d x1 x2 x3 (y + 1) m v3 (w4.alloc (.cells #[.int .i64 (y + 1), .int .i64 m, .int .i64 v3] 24)) := ⟨K, D7.c0, D7.c1, D7.c2⟩
          clear K D7
          go_wp2
          refine wp_region_cls (fun w' => Keep3 w w1.heap.size w2.heap.size w4.heap.size y m d x1 x2 x3 (y + 1) m v3 w') (by kernel_rfl) (by kernel_rfl) (Keep3.on K3 (Below.refl _ _).drew) ?_
          clear K3
          repeat (first
            | go_big_quiet_skip
            | (go_big_quiet_want; go_big_quiet_op; go_big_quiet_on)
            | (go_big_quiet_want
               apply Exists.intro
               refine ⟨fun w7 hC7 => ?_, ?_⟩
               · (have hC8 := hC7
                  obtain ⟨⟨c0, c1, c2, e0, e1, e2, T7, _⟩, f0, f1, f2⟩ := hC7
                  go_simp
                  first
                    | done
                    | rfl
                    | exact ⟨rfl, rfl⟩
                    | (refine (implDateOkR x1 x2 x3 _ T7 _ HOX.out).mono ?_
                       rintro e w8 ⟨rfl, hb8⟩
                       have k8 := Keep3.on hC8 hb8
                       first | exact ⟨rfl, k8⟩ | (go_simp; simpa [and_assoc] using k8))
                    | (refine (implMonthDays x1 x2 _ T7).mono ?_
                       rintro e w8 ⟨rfl, rfl⟩
                       first | exact ⟨rfl, hC8⟩ | (go_simp; simpa [and_assoc] using hC8))
                    | (refine (implMonthAdd_zero y m d _ T7 HOK.out).mono ?_
                       rintro e w8 ⟨rfl, hb8⟩
                       have k8 := Keep3.on hC8 hb8
                       first | exact ⟨rfl, k8⟩ | (go_simp; simpa [and_assoc] using k8)))
               (go_simp; go_big_quiet_on)))
          refine wpQuiet_nil ?_
          intro w7 K7
          go_wp2
          go_ret
          exact ⟨by first | rfl | simp, K7.1.bel⟩
      · have g1 : (x3 == d) = false := beq_eq_false_iff_ne.2 (by omega)
        have g2 : decide (x3 < d) = true := decide_eq_true hx
        have g6 : (x3 == mdays x1 x2) = true := beq_iff_eq.2 (by rw [HMD.out]; exact hx')
        clear hx'
        rcases HV.out with hv | ⟨hv, hv1, hv2⟩
        · have g3 : (y == 9999) = true := beq_iff_eq.2 hv
          clear hv
          clear HV HD HMD
          have K3 : Keep3 w w1.heap.size w2.heap.size w4.heap.size y m d x1 x2 x3 v1 v2 v3 (w4.alloc (.cells #[.int .i64 v1, .int .i64 v2, .int .i64 v3] 24)) := ⟨K, D7.c0, D7.c1, D7.c2⟩
          clear K D7
          go_wp2
          refine wp_region_cls (fun w' => Keep3 w w1.heap.size w2.heap.size w4.heap.size y m d x1 x2 x3 v1 v2 v3 w') (by kernel_rfl) (by kernel_rfl) (Keep3.on K3 (Below.refl _ _).drew) ?_
          clear K3
          repeat (first
            | go_big_quiet_skip
            | (go_big_quiet_want; go_big_quiet_op; go_big_quiet_on)
            | (go_big_quiet_want
               apply Exists.intro
               refine ⟨fun w7 hC7 => ?_, ?_⟩
               · (have hC8 := hC7
                  obtain ⟨⟨c0, c1, c2, e0, e1, e2, T7, _⟩, f0, f1, f2⟩ := hC7
                  go_simp
                  first
                    | done
                    | rfl
                    | exact ⟨rfl, rfl⟩
                    | (refine (implDateOkR x1 x2 x3 _ T7 _ HOX.out).mono ?_
                       rintro e w8 ⟨rfl, hb8⟩
                       have k8 := Keep3.on hC8 hb8
                       first | exact ⟨rfl, k8⟩ | (go_simp; simpa [and_assoc] using k8))
                    | (refine (implMonthDays x1 x2 _ T7).mono ?_
                       rintro e w8 ⟨rfl, rfl⟩
                       first | exact ⟨rfl, hC8⟩ | (go_simp; simpa [and_assoc] using hC8))
                    | (refine (implMonthAdd_zero y m d _ T7 HOK.out).mono ?_
                       rintro e w8 ⟨rfl, hb8⟩
                       have k8 := Keep3.on hC8 hb8
                       first | exact ⟨rfl, k8⟩ | (go_simp; simpa [and_assoc] using k8)))
               (go_simp; go_big_quiet_on)))
          refine wpQuiet_nil ?_
          intro w7 K7
          go_wp2
          go_ret
          exact ⟨by first | rfl | simp, K7.1.bel⟩
        · have g3 : (y == 9999) = false := beq_eq_false_iff_ne.2 (by omega)
          have q1 := IntWalk.i64_in (y + 1) (by omega)
          have hv3 := hv2.symm
          clear hv2
          subst hv1
          subst hv3
          clear HV HD HMD
          have K3 : Keep3 w w1.heap.size w2.heap.size w4.heap.size y m d x1 x2 x3 (y + 1) m v3 (w4.alloc (.cells #[.int .i64 (y + 1), .int .i64 m, .int .i64 v3] 24)) := ⟨K, D7.c0, D7.c1, D7.c2⟩
          clear K D7
          go_wp2
          refine wp_region_cls (fun w' => Keep3 w w1.heap.size w2.heap.size w4.heap.size y m d x1 x2 x3 (y + 1) m v3 w') (by kernel_rfl) (by kernel_rfl) (Keep3.on K3 (Below.refl _ _).drew) ?_
          clear K3
          repeat (first
            | go_big_quiet_skip
            | (go_big_quiet_want; go_big_quiet_op; go_big_quiet_on)
            | (go_big_quiet_want
               apply Exists.intro
               refine ⟨fun w7 hC7 => ?_, ?_⟩
               · (have hC8 := hC7
                  obtain ⟨⟨c0, c1, c2, e0, e1, e2, T7, _⟩, f0, f1, f2⟩ := hC7
                  go_simp
                  first
                    | done
                    | rfl
                    | exact ⟨rfl, rfl⟩
                    | (refine (implDateOkR x1 x2 x3 _ T7 _ HOX.out).mono ?_
                       rintro e w8 ⟨rfl, hb8⟩
                       have k8 := Keep3.on hC8 hb8
                       first | exact ⟨rfl, k8⟩ | (go_simp; simpa [and_assoc] using k8))
                    | (refine (implMonthDays x1 x2 _ T7).mono ?_
                       rintro e w8 ⟨rfl, rfl⟩
                       first | exact ⟨rfl, hC8⟩ | (go_simp; simpa [and_assoc] using hC8))
                    | (refine (implMonthAdd_zero y m d _ T7 HOK.out).mono ?_
                       rintro e w8 ⟨rfl, hb8⟩
                       have k8 := Keep3.on hC8 hb8
                       first | exact ⟨rfl, k8⟩ | (go_simp; simpa [and_assoc] using k8)))
               (go_simp; go_big_quiet_on)))
          refine wpQuiet_nil ?_
          intro w7 K7
          go_wp2
          go_ret
          exact ⟨by first | rfl | simp, K7.1.bel⟩
theorem lawMonthAdd (a : Option Addr) (len cap : Nat) (w : World) (h : IsCode w a len cap) (ht : Tab w) :
    Calls Tryd.prog 3 #[.slice a len cap] w fun e w' => e = .returned (.bool true) ∧ Below w.heap.size w w' := by
  by_cases hl : len ≤ 1048576
  · exact lawMonthAdd_in a len cap w h ht hl
  · obtain ⟨h1, h2, _⟩ := h
    go_enter Tryd.func3, Tryd.ntmps3
    go_wp2
    go_ret
    exact ⟨rfl, Below.refl _ _⟩
end Go.Proofs.YtngekeigdnlbmaaDoor
