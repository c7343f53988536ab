/- FnDayOf: the law's own walk. -/
import Derived.Test.YtllpaojjpefgaaaDoorCalK
import Derived.Test.YtllpaojjpefgaaaDoorDEq
import Derived.Deep.RegionHeld3
import Derived.Deep.DeepCutAuto
namespace Go.Proofs.YtllpaojjpefgaaaDoor
open Go.RowKit
set_option linter.unusedVariables false
/-- The next day is the next one of the month, or later. -/
theorem num_next {y m d y' m' d' : Int} (ok : okD y m d = true) (ok' : okD y' m' d' = true) (h : num y' m' d' = num y m d + 1) : y < y' ∨ y' = y ∧ (m < m' ∨ m' = m ∧ d' = d + 1) := by
  have n1 := num_year ok
  have n2 := num_year ok'
  obtain ⟨a, b, c, e, f, g⟩ := (okD_iff _ _ _).1 ok
  obtain ⟨a', b', c', e', f', g'⟩ := (okD_iff _ _ _).1 ok'
  by_cases hy : y < y'
  · exact .inl hy
  · right
    have hyy : y' = y := by
      by_cases h2 : y' < y
      · have := fst_mono (y' + 1) y (by omega) (by omega); omega
      · omega
    subst hyy
    refine ⟨rfl, ?_⟩
    unfold num at h
    have s1 := cum_succ y' m c e
    have s2 := cum_succ y' m' c' e'
    by_cases hm : m < m'
    · exact .inl hm
    · right
      have hmm : m' = m := by
        by_cases h2 : m' < m
        · have := cum_mono y' (m' + 1) m (by omega) (by omega) (by omega); omega
        · omega
      subst hmm
      exact ⟨rfl, by omega⟩
/-- What stands while a statement over one date is reckoned. -/
abbrev Keep (w : World) (b : Nat) (y m d : Int) (w' : World) : Prop := w'.cell? ⟨b, 0, none⟩ = some (.int .i64 y) ∧ w'.cell? ⟨b, 1, none⟩ = some (.int .i64 m) ∧ w'.cell? ⟨b, 2, none⟩ = some (.int .i64 d) ∧ Tab w' ∧ Below w.heap.size w w'
theorem Keep.on {w W w' : World} {b : Nat} {y m d : Int} (h : Keep w b y m d W) (hb : Below W.heap.size W w') : Keep w b y m d w' := by
  obtain ⟨c0, c1, c2, T, B⟩ := h
  have lt := cell_lt c0
  refine ⟨?_, ?_, ?_, T.on hb, B.trans (hb.mono B.size)⟩
  · rw [hb.cell (p := ⟨b, 0, none⟩) lt]; exact c0
  · rw [hb.cell (p := ⟨b, 1, none⟩) lt]; exact c1
  · rw [hb.cell (p := ⟨b, 2, none⟩) lt]; exact c2
theorem Keep.bel {w W : World} {b : Nat} {y m d : Int} (h : Keep w b y m d W) : Below w.heap.size w W := h.2.2.2.2
theorem Keep.tab {w W : World} {b : Nat} {y m d : Int} (h : Keep w b y m d W) : Tab W := h.2.2.2.1
theorem IsCode.below' {w w' : World} {a : Option Addr} {len cap : Nat} (h : IsCode w a len cap) (hb : Below w.heap.size w w') : IsCode w' a len cap := h.below hb
set_option maxRecDepth 100000 in
set_option maxHeartbeats 40000000 in
theorem lawDayOf_first (a : Option Addr) (len cap : Nat) (a' : Option Addr) (len' cap' : Nat) (w : World) (h : IsCode w a len cap) (h' : IsCode w a' len' cap') (ht : Tab w) (hl : len ≤ 1048576) (hl' : len' ≤ 1048576) :
    Calls Tryd.prog 5 #[.slice a len cap, .slice a' len' cap'] w fun e w' => e = .returned (.bool true) ∧ Below w.heap.size w w' := by
  have hq1 := run_date_neq
  have hq2 := run_date_guard
  have hc1 := h.1
  have hc2 := h'.1
  go_enter Tryd.func5, Tryd.ntmps5
  go_wp2_with fail
  refine (drawDayOf w a len cap h).mono ?_
  rintro e w1 ⟨⟨y, m, d, rfl, bd⟩, hb1⟩
  have D := Dat.new w1 y m d 28
  have B : Below w.heap.size w (w1.alloc (.cells #[.int .i64 y, .int .i64 m, .int .i64 d] 28)) := hb1.alloc hb1.size _
  have T := ht.on B
  clear h ht hb1
  go_wp2_with fail
  refine (implDayOf y m d _ T).mono ?_
  rintro e w2 ⟨rfl, hb2⟩
  have K : Keep w w1.heap.size y m d w2 := Keep.on ⟨D.c0, D.c1, D.c2, T, B⟩ hb2
  have DF : w2.frozen? ⟨w1.heap.size, 0, none⟩ = false ∧ w2.frozen? ⟨w1.heap.size, 1, none⟩ = false ∧ w2.frozen? ⟨w1.heap.size, 2, none⟩ = false := ⟨(D.below hb2).f0, (D.below hb2).f1, (D.below hb2).f2⟩
  clear hb2 D T B
  have c0 := K.1
  have c1 := K.2.1
  have c2 := K.2.2.1
  go_wp2
  go_cut [6, 50] (fun n t wc => t = .bool false ∧ Tab wc ∧ Below w.heap.size w wc)
  case first =>
    cases ok : okD y m d with
    | true =>
      have HOK : Hid (okD y m d = true) := ok
      have nb := num_bd ok
      have ed : dayOf y m d = num y m d := if_pos ok
      rw [ed]
      clear ok ed
      go_region_held3 (fun w' => w'.cell? ⟨w1.heap.size, 0, none⟩ = some (.int .i64 y) ∧ w'.cell? ⟨w1.heap.size, 1, none⟩ = some (.int .i64 m) ∧ w'.cell? ⟨w1.heap.size, 2, none⟩ = some (.int .i64 d) ∧ Tab w' ∧ Below w.heap.size w w')
        (first | assumption | exact Keep.on K (Below.refl _ _).drew | exact Keep.on (by assumption) hb3)
        (first
        | (go_at_call 17; refine (specDayOf_ok y m d _ HOK.out).mono ?_; rintro e w3 ⟨rfl, hb3⟩)
        | (go_at_call 12; refine (implDateOkR y m d _ (Keep.tab (by assumption)) _ HOK.out).mono ?_; rintro e w3 ⟨rfl, hb3⟩)
        | (go_at_call 18; refine (specDateOkR y m d _ _ HOK.out).mono ?_; rintro e w3 ⟨rfl, hb3⟩)
        | (go_at_call 19; refine (implDateOf_num _ y m d _ (Keep.tab (by assumption)) HOK.out rfl).mono ?_; rintro e w3 ⟨rfl, hb3⟩))
      go_wp2
      go_meet
      case rel => exact ⟨rfl, Keep.tab (by assumption), Keep.bel (by assumption)⟩
    | false =>
      have HOK : Hid (okD y m d = false) := ok
      have ed : dayOf y m d = -1 := if_neg (by rw [ok]; exact Bool.false_ne_true)
      have HS : Hid (sdayOf y m d = dayOf y m d) := rfl
      have n1 : dayOf y m d < 0 := by omega
      have n2 : decide (0 ≤ dayOf y m d) = false := by simp; omega
      clear ok ed
      have D : Dat w2.drew w1.heap.size y m d := ⟨cell_lt c0, c0, c1, c2, DF.1, DF.2.1, DF.2.2⟩
      have T : Tab w2.drew := K.tab
      have B : Below w.heap.size w w2.drew := K.bel.drew
      clear K DF
      first
      | go_region_with (first
        | (go_at_call 17; refine (specDayOf y m d _).mono ?_; rintro e w3 ⟨rfl, hb3⟩; rw [HS.out]; replace D := D.below hb3; replace T := T.on hb3; replace B := B.trans (hb3.mono B.size); have c0 := D.c0; have c1 := D.c1; have c2 := D.c2; clear hb3)
        | (go_at_call 12; refine (implDateOkR y m d _ T _ HOK.out).mono ?_; rintro e w3 ⟨rfl, hb3⟩; replace D := D.below hb3; replace T := T.on hb3; replace B := B.trans (hb3.mono B.size); have c0 := D.c0; have c1 := D.c1; have c2 := D.c2; clear hb3)
        | (go_at_call 18; refine (specDateOkR y m d _ _ HOK.out).mono ?_; rintro e w3 ⟨rfl, hb3⟩; replace D := D.below hb3; replace T := T.on hb3; replace B := B.trans (hb3.mono B.size); have c0 := D.c0; have c1 := D.c1; have c2 := D.c2; clear hb3))
      | fail
      all_goals
        go_wp2
        go_meet
        case rel => exact ⟨rfl, T, B⟩
  case rest =>
    obtain ⟨rfl, T, B⟩ := hcut
    clear c0 c1 c2 K DF
    have hcode := h'.below' B
    clear h'
    go_wp2_with fail
    refine (drawDateOf _ a' len' cap' hcode).mono ?_
    rintro e w4 ⟨⟨n, rfl, n0, n1⟩, hb4⟩
    replace T := T.on hb4
    replace B := B.trans (hb4.mono B.size)
    clear hb4 hcode
    by_cases hn : 0 ≤ n ∧ n ≤ 3652058
    · obtain ⟨p0, p1⟩ := hn
      go_wp2_with fail
      refine (implDateOf_yes n _ T p0 p1).mono ?_
      rintro e w5 ⟨⟨y5, m5, d5, rfl, ok5, hn5⟩, hb5⟩
      have D := Dat.new w5 y5 m5 d5 28
      have K : Keep w w5.heap.size y5 m5 d5 (w5.alloc (.cells #[.int .i64 y5, .int .i64 m5, .int .i64 d5] 28)) := ⟨D.c0, D.c1, D.c2, T.on (hb5.alloc hb5.size _), (B.trans (hb5.mono B.size)).alloc (B.trans (hb5.mono B.size)).size _⟩
      clear D T B
      have HOK : Hid (okD y5 m5 d5 = true) := ok5
      have HN : Hid (num y5 m5 d5 = n) := hn5
      have yb : 1 ≤ y5 ∧ y5 ≤ 9999 ∧ 1 ≤ m5 ∧ m5 ≤ 12 ∧ 1 ≤ d5 ∧ d5 ≤ 31 := by
        have := (okD_iff _ _ _).1 ok5
        have := dim_bd y5 m5
        omega
      clear hb5 ok5 hn5
      have g1 : decide (n < 0) = false := by simp; omega
      by_cases hx : 3652058 ≤ n
      · have g2 : decide (3652058 ≤ n) = true := by simp; omega
        have c0 := K.1
        have c1 := K.2.1
        have c2 := K.2.2.1
        go_wp2
        go_cut [66] (fun t wc => t = .bool true ∧ Keep w w5.heap.size y5 m5 d5 wc)
        case first =>
          go_region_held3 (fun w' => w'.cell? ⟨w5.heap.size, 0, none⟩ = some (.int .i64 y5) ∧ w'.cell? ⟨w5.heap.size, 1, none⟩ = some (.int .i64 m5) ∧ w'.cell? ⟨w5.heap.size, 2, none⟩ = some (.int .i64 d5) ∧ Tab w' ∧ Below w.heap.size w w')
            (first | assumption | exact Keep.on K (Below.refl _ _).drew | exact Keep.on (by assumption) hb3)
            (first
            | (go_at_call 21; refine (specDateOf_num n y5 m5 d5 _ HOK.out HN.out).mono ?_; rintro e w3 ⟨rfl, hb3⟩))
          go_wp2
          go_meet
          case rel => exact ⟨by first | rfl | simp, by assumption⟩
        case rest =>
          clear K c0 c1 c2
          obtain ⟨rfl, K⟩ := hcut
          have hq3 := run_date_eql
          have c0 := K.1
          have c1 := K.2.1
          have c2 := K.2.2.1
          go_wp2
          go_region_held3 (fun w' => w'.cell? ⟨w5.heap.size, 0, none⟩ = some (.int .i64 y5) ∧ w'.cell? ⟨w5.heap.size, 1, none⟩ = some (.int .i64 m5) ∧ w'.cell? ⟨w5.heap.size, 2, none⟩ = some (.int .i64 d5) ∧ Tab w' ∧ Below w.heap.size w w')
            (first | assumption | exact Keep.on K (Below.refl _ _).drew | exact Keep.on (by assumption) hb3)
            (first
            | (go_at_call 21; refine (specDateOf_num n y5 m5 d5 _ HOK.out HN.out).mono ?_; rintro e w3 ⟨rfl, hb3⟩))
          go_wp2
          go_ret
          exact ⟨by first | rfl | simp, Keep.bel (by assumption)⟩
      · have hx2 : n < 3652058 := by omega
        clear hx
        have g2 : decide (3652058 ≤ n) = false := by simp; omega
        have c0 := K.1
        have c1 := K.2.1
        have c2 := K.2.2.1
        go_wp2
        go_cut [66] (fun t wc => t = .bool false ∧ Keep w w5.heap.size y5 m5 d5 wc)
        case first =>
          go_region_held3 (fun w' => w'.cell? ⟨w5.heap.size, 0, none⟩ = some (.int .i64 y5) ∧ w'.cell? ⟨w5.heap.size, 1, none⟩ = some (.int .i64 m5) ∧ w'.cell? ⟨w5.heap.size, 2, none⟩ = some (.int .i64 d5) ∧ Tab w' ∧ Below w.heap.size w w')
            (first | assumption | exact Keep.on K (Below.refl _ _).drew | exact Keep.on (by assumption) hb3)
            (first
            | (go_at_call 21; refine (specDateOf_num n y5 m5 d5 _ HOK.out HN.out).mono ?_; rintro e w3 ⟨rfl, hb3⟩))
          go_wp2
          go_meet
          case rel => exact ⟨by first | rfl | simp, by assumption⟩
        case rest =>
          clear K c0 c1 c2
          obtain ⟨rfl, K⟩ := hcut
          go_wp2_with fail
          refine (implDateOf_yes (n + 1) _ K.tab (by omega) (by omega)).mono ?_
          rintro e w7 ⟨⟨y7, m7, d7, rfl, ok7, hn7⟩, hb7⟩
          have hnx := num_next HOK.out ok7 (by rw [hn7, HN.out])
          have HX : Hid (y5 < y7 ∨ y7 = y5 ∧ (m5 < m7 ∨ m7 = m5 ∧ d7 = d5 + 1)) := hnx
          have yb7 : 1 ≤ y7 ∧ y7 ≤ 9999 ∧ 1 ≤ m7 ∧ m7 ≤ 12 ∧ 1 ≤ d7 ∧ d7 ≤ 31 := by
            have := (okD_iff _ _ _).1 ok7
            have := dim_bd y7 m7
            omega
          have sz : w5.heap.size < w7.heap.size := Nat.lt_of_lt_of_le (cell_lt K.1) hb7.size
          replace K : Keep w w5.heap.size y5 m5 d5 (w7.alloc (.cells #[.int .i64 y7, .int .i64 m7, .int .i64 d7] 28)) := K.on (hb7.alloc hb7.size _)
          clear hb7 ok7 hn7 hnx
          have c0 := K.1
          have c1 := K.2.1
          have c2 := K.2.2.1
          rcases HX.out with k | ⟨rfl, k | ⟨rfl, rfl⟩⟩
          all_goals
            clear HX
            go_wp2_with fail
            refine (implDayOf_ok _ _ _ _ K.tab HOK.out).mono ?_
            rintro e w8 ⟨rfl, hb8⟩
            rw [HN.out]
            go_wp2
            go_ret
            exact ⟨by first | rfl | simp, K.bel.trans (hb8.mono K.bel.size)⟩
    · have HN : Hid (n < 0 ∨ 3652058 < n) := by unfold Hid; omega
      go_wp2_with fail
      refine (implDateOf_no n _ HN.out).mono ?_
      rintro e w5 ⟨rfl, hb5⟩
      have D := Dat.new w5 0 0 0 28
      have K : Keep w w5.heap.size 0 0 0 (w5.alloc (.cells #[.int .i64 0, .int .i64 0, .int .i64 0] 28)) := ⟨D.c0, D.c1, D.c2, T.on (hb5.alloc hb5.size _), (B.trans (hb5.mono B.size)).alloc (B.trans (hb5.mono B.size)).size _⟩
      clear hb5 T B D
      have c0 := K.1
      have c1 := K.2.1
      have c2 := K.2.2.1
      go_wp2
      go_cut [66] (fun t wc => t = .bool true ∧ Keep w w5.heap.size 0 0 0 wc)
      case first =>
        by_cases k0 : n < 0
        · have g1 : decide (n < 0) = true := by simp; omega
          have K' : Keep w w5.heap.size 0 0 0 (w5.alloc (.cells #[.int .i64 0, .int .i64 0, .int .i64 0] 28)).drew := K.on (Below.refl _ _).drew
          clear hn K c0 c1 c2
          have c0 := K'.1
          have c1 := K'.2.1
          have c2 := K'.2.2.1
          first
          | go_region_with (go_at_call 21; refine (specDateOf_no n _ HN.out).mono ?_; rintro e w6 ⟨rfl, hb6⟩; replace K' := K'.on hb6; have c0 := K'.1; have c1 := K'.2.1; have c2 := K'.2.2.1; clear hb6)
          | fail
          all_goals
            go_wp2
            go_meet
            case rel => exact ⟨by first | rfl | simp, K'⟩
        · have k1 : 3652058 ≤ n := by omega
          have g1 : decide (n < 0) = false := by simp; omega
          have g2 : decide (3652058 ≤ n) = true := by simp; omega
          clear hn
          go_region_held3 (fun w' => w'.cell? ⟨w5.heap.size, 0, none⟩ = some (.int .i64 0) ∧ w'.cell? ⟨w5.heap.size, 1, none⟩ = some (.int .i64 0) ∧ w'.cell? ⟨w5.heap.size, 2, none⟩ = some (.int .i64 0) ∧ Tab w' ∧ Below w.heap.size w w')
            (first | assumption | exact Keep.on K (Below.refl _ _).drew | exact Keep.on (by assumption) hb3)
            (first
            | (go_at_call 21; refine (specDateOf_no n _ HN.out).mono ?_; rintro e w3 ⟨rfl, hb3⟩))
          go_wp2
          go_meet
          case rel => exact ⟨by first | rfl | simp, by assumption⟩
      case rest =>
        clear K c0 c1 c2 hn
        obtain ⟨rfl, K⟩ := hcut
        have hq3 := run_date_eql
        have c0 := K.1
        have c1 := K.2.1
        have c2 := K.2.2.1
        go_wp2
        go_region_held3 (fun w' => w'.cell? ⟨w5.heap.size, 0, none⟩ = some (.int .i64 0) ∧ w'.cell? ⟨w5.heap.size, 1, none⟩ = some (.int .i64 0) ∧ w'.cell? ⟨w5.heap.size, 2, none⟩ = some (.int .i64 0) ∧ Tab w' ∧ Below w.heap.size w w')
          (first | assumption | exact Keep.on K (Below.refl _ _).drew | exact Keep.on (by assumption) hb3)
          (first
          | (go_at_call 21; refine (specDateOf_no n _ HN.out).mono ?_; rintro e w3 ⟨rfl, hb3⟩))
        go_wp2
        go_ret
        exact ⟨by first | rfl | simp, Keep.bel (by assumption)⟩
theorem lawDayOf (a : Option Addr) (len cap : Nat) (a' : Option Addr) (len' cap' : Nat) (w : World) (h : IsCode w a len cap) (h' : IsCode w a' len' cap') (ht : Tab w) :
    Calls Tryd.prog 5 #[.slice a len cap, .slice a' len' cap'] w fun e w' => e = .returned (.bool true) ∧ Below w.heap.size w w' := by
  by_cases hl : len ≤ 1048576
  · by_cases hl' : len' ≤ 1048576
    · exact lawDayOf_first a len cap a' len' cap' w h h' ht hl hl'
    · obtain ⟨h1, h2, _⟩ := h
      obtain ⟨h1', h2', _⟩ := h'
      go_enter Tryd.func5, Tryd.ntmps5
      go_wp2
      go_ret
      exact ⟨rfl, Below.refl _ _⟩
  · obtain ⟨h1, h2, _⟩ := h
    obtain ⟨h1', h2', _⟩ := h'
    go_enter Tryd.func5, Tryd.ntmps5
    go_wp2
    go_ret
    exact ⟨rfl, Below.refl _ _⟩
end Go.Proofs.YtllpaojjpefgaaaDoor
