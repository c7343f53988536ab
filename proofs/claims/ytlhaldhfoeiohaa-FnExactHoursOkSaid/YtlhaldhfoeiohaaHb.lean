/- Hours of work are ok: both sides. -/
import Derived.Test.YtlhaldhfoeiohaaHa
import Derived.Test.YtlhaldhfoeiohaaHz
namespace Go.Proofs.Ytlhaldhfoeiohaa
open Go.RowKit
set_option linter.unusedVariables false
def HoOk (zs : List ZR) (z : ByteArray) (fr t : Int) (l : List Int) : Prop := ZsOk zs ∧ thereB zs z = true ∧ (0 ≤ fr ∧ fr < t ∧ t ≤ 1440) ∧ AscI l ∧ AllW l
theorem no_of {p : Prop} {r : Bool} (hr : r = true ↔ p) (h : ¬ p) : r = false := by
  cases r with
  | false => rfl
  | true => exact absurd (hr.1 rfl) h
set_option maxRecDepth 100000 in
set_option maxHeartbeats 8000000 in
theorem implHours (a : Option Addr) (cap : Nat) (zs : List ZR) (z : ByteArray) (fr t : Int) (b : Option Addr) (bc : Nat) (l : List Int) (w : World) (hz : IsZones w a zs) (hs : ZSmall zs) (hl : IsInts w b l) (hll : l.length ≤ 2000000) (r : Bool) (hr : r = true ↔ HoOk zs z fr t l) :
    Calls Try.prog 9 #[.slice a zs.length cap, .agg #[.string z, .int .i64 fr, .int .i64 t, .slice b l.length bc]] w fun e w' => e = .returned (.bool r) ∧ Below w.heap.size w w' := by
  have hb0 : Below w.heap.size w (w.alloc (.cells #[.string z, .int .i64 fr, .int .i64 t, .slice b l.length bc] 31)) := (Below.refl _ _).alloc (Nat.le_refl _) _
  have HC0 : Hid (CF (w.alloc (.cells #[.string z, .int .i64 fr, .int .i64 t, .slice b l.length bc] 31)) w.heap.size #[.string z, .int .i64 fr, .int .i64 t, .slice b l.length bc]) := CF.new _ _ _
  have HZ0 : Hid (IsZones (w.alloc (.cells #[.string z, .int .i64 fr, .int .i64 t, .slice b l.length bc] 31)) a zs) := hz.below hb0
  have HL0 : Hid (IsInts (w.alloc (.cells #[.string z, .int .i64 fr, .int .i64 t, .slice b l.length bc] 31)) b l) := hl.below hb0
  have HB0 : Hid (Below w.heap.size w (w.alloc (.cells #[.string z, .int .i64 fr, .int .i64 t, .slice b l.length bc] 31))) := hb0
  have HR : Hid (r = true ↔ HoOk zs z fr t l) := hr
  have HS : Hid (ZSmall zs) := hs
  have hzl : zs.length ≤ 2000000 := by have := hs.1; omega
  obtain ⟨p, hp⟩ : ∃ p : Bool, p = true ↔ ZsOk zs := by classical exact ⟨decide _, decide_eq_true_iff⟩
  have HP : Hid (p = true ↔ ZsOk zs) := hp
  clear hb0 hz hl hr hs hp
  go_enter Try.func9, Try.ntmps9
  go_wp2_with fail
  generalize w.alloc (.cells #[.string z, .int .i64 fr, .int .i64 t, .slice b l.length bc] 31) = W0 at HC0 HZ0 HL0 HB0 ⊢
  refine (implZonesOk a cap zs W0 HZ0.out HS.out p HP.out).mono ?_
  rintro e w1 ⟨rfl, b1⟩
  have HC1 := Hid.of' (HC0.out.below b1)
  have HZ1 := Hid.of' (HZ0.out.below b1)
  have HL1 := Hid.of' (HL0.out.below b1)
  have HB1 : Hid (Below w.heap.size w w1) := bstep HB0.out b1
  clear b1
  cases p with
  | false =>
    have HV : Hid (r = false) := no_of HR.out fun q => by have := HP.out.2 q.1; cases this
    have Bf := HB1.out
    go_wp2
    go_ret
    exact ⟨ret_b HV.out.symm, Bf⟩
  | true =>
    have HZK : Hid (ZsOk zs) := HP.out.1 rfl
    clear HP
    have K1 := HC1.out
    have x0 : World.cell? w1 ⟨w.heap.size, 0, none⟩ = some (.string z) := (K1.2 0 _ rfl).1
    have x1 : World.cell? w1 ⟨w.heap.size, 1, none⟩ = some (.int .i64 fr) := (K1.2 1 _ rfl).1
    have x2 : World.cell? w1 ⟨w.heap.size, 2, none⟩ = some (.int .i64 t) := (K1.2 2 _ rfl).1
    have x3 : World.cell? w1 ⟨w.heap.size, 3, none⟩ = some (.slice b l.length bc) := (K1.2 3 _ rfl).1
    clear K1
    go_wp2_with fail
    refine (implZoneOf a cap zs z w1 HZ1.out hzl).mono ?_
    rintro e w2 ⟨⟨v, rfl, ZT⟩, b2⟩
    obtain ⟨s0, n0, a0, l0, c0, rfl, _⟩ := ZT
    have HL2 := Hid.of' (HL1.out.below b2)
    have HB2 : Hid (Below w.heap.size w w2) := bstep HB1.out b2
    have K2 := HC1.out.below b2
    clear b2 x0 x1 x2 x3
    have x0 : World.cell? w2 ⟨w.heap.size, 0, none⟩ = some (.string z) := (K2.2 0 _ rfl).1
    have x1 : World.cell? w2 ⟨w.heap.size, 1, none⟩ = some (.int .i64 fr) := (K2.2 1 _ rfl).1
    have x2 : World.cell? w2 ⟨w.heap.size, 2, none⟩ = some (.int .i64 t) := (K2.2 2 _ rfl).1
    have x3 : World.cell? w2 ⟨w.heap.size, 3, none⟩ = some (.slice b l.length bc) := (K2.2 3 _ rfl).1
    have lX : w.heap.size < w2.heap.size := K2.1
    have nX : ¬ w.heap.size = w2.heap.size := by omega
    clear K2 HC1
    have HBA : Hid (Below w.heap.size w (w2.alloc (.cells #[.string s0, .int .i64 n0, .slice a0 l0 c0] 43))) := HB2.out.alloc HB2.out.size _
    have HLA : Hid (IsInts (w2.alloc (.cells #[.string s0, .int .i64 n0, .slice a0 l0 c0] 43)) b l) := HL2.out.below ((Below.refl _ _).alloc (Nat.le_refl _) _)
    cases ht : thereB zs z with
    | false =>
      have HV : Hid (r = false) := no_of HR.out fun q => by rw [q.2.1] at ht; cases ht
      have Bf := HBA.out
      go_wp2
      go_ret
      exact ⟨ret_b HV.out.symm, Bf⟩
    | true =>
      have HT : Hid (thereB zs z = true) := ht
      clear ht
      by_cases f0 : fr ≥ 0
      rotate_left
      · have HV : Hid (r = false) := no_of HR.out fun q => absurd q.2.2.1.1 f0
        have Bf := HBA.out
        go_wp2
        go_ret
        exact ⟨ret_b HV.out.symm, Bf⟩
      by_cases f1 : fr < t
      rotate_left
      · have HV : Hid (r = false) := no_of HR.out fun q => absurd q.2.2.1.2.1 f1
        have Bf := HBA.out
        go_wp2
        go_ret
        exact ⟨ret_b HV.out.symm, Bf⟩
      by_cases f2 : t ≤ 1440
      rotate_left
      · have HV : Hid (r = false) := no_of HR.out fun q => absurd q.2.2.1.2.2 f2
        have Bf := HBA.out
        go_wp2
        go_ret
        exact ⟨ret_b HV.out.symm, Bf⟩
      obtain ⟨q, hq⟩ : ∃ q : Bool, q = true ↔ AscI l ∧ AllW l := by classical exact ⟨decide _, decide_eq_true_iff⟩
      have HQ : Hid (q = true ↔ AscI l ∧ AllW l) := hq
      have HV : Hid (r = q) := by
        unfold Hid
        rw [Bool.eq_iff_iff, HR.out, HQ.out]
        exact ⟨fun h => h.2.2.2, fun h => ⟨HZK.out, HT.out, ⟨f0, f1, f2⟩, h⟩⟩
      clear hq
      go_wp2_with fail
      refine (implWeekDays b bc l _ HLA.out hll q HQ.out).mono ?_
      rintro e w3 ⟨rfl, b3⟩
      have B3 := bstep HBA.out b3
      clear b3 x0 x1 x2 x3
      go_wp2
      go_ret
      exact ⟨by rw [HV.out]; first | rfl | (cases q <;> rfl), B3⟩
set_option maxRecDepth 100000 in
set_option maxHeartbeats 8000000 in
theorem specHours (a : Option Addr) (cap : Nat) (zs : List ZR) (z : ByteArray) (fr t : Int) (b : Option Addr) (bc : Nat) (l : List Int) (w : World) (hz : IsZones w a zs) (hs : ZSmall zs) (hl : IsInts w b l) (hll : l.length ≤ 2000000) (r : Bool) (hr : r = true ↔ HoOk zs z fr t l) :
    Calls Try.prog 6 #[.slice a zs.length cap, .agg #[.string z, .int .i64 fr, .int .i64 t, .slice b l.length bc]] w fun e w' => e = .returned (.bool r) ∧ Below w.heap.size w w' := by
  have hb0 : Below w.heap.size w (w.alloc (.cells #[.string z, .int .i64 fr, .int .i64 t, .slice b l.length bc] 31)) := (Below.refl _ _).alloc (Nat.le_refl _) _
  have HC0 : Hid (CF (w.alloc (.cells #[.string z, .int .i64 fr, .int .i64 t, .slice b l.length bc] 31)) w.heap.size #[.string z, .int .i64 fr, .int .i64 t, .slice b l.length bc]) := CF.new _ _ _
  have HZ0 : Hid (IsZones (w.alloc (.cells #[.string z, .int .i64 fr, .int .i64 t, .slice b l.length bc] 31)) a zs) := hz.below hb0
  have HL0 : Hid (IsInts (w.alloc (.cells #[.string z, .int .i64 fr, .int .i64 t, .slice b l.length bc] 31)) b l) := hl.below hb0
  have HB0 : Hid (Below w.heap.size w (w.alloc (.cells #[.string z, .int .i64 fr, .int .i64 t, .slice b l.length bc] 31))) := hb0
  have HR : Hid (r = true ↔ HoOk zs z fr t l) := hr
  have HS : Hid (ZSmall zs) := hs
  have hzl : zs.length ≤ 2000000 := by have := hs.1; omega
  obtain ⟨p, hp⟩ : ∃ p : Bool, p = true ↔ ZsOk zs := by classical exact ⟨decide _, decide_eq_true_iff⟩
  have HP : Hid (p = true ↔ ZsOk zs) := hp
  clear hb0 hz hl hr hs hp
  go_enter Try.func6, Try.ntmps6
  go_wp2_with fail
  generalize w.alloc (.cells #[.string z, .int .i64 fr, .int .i64 t, .slice b l.length bc] 31) = W0 at HC0 HZ0 HL0 HB0 ⊢
  refine (specZone a cap zs z W0 HZ0.out hzl).mono ?_
  rintro e w1 ⟨⟨v, rfl, ZT⟩, b1⟩
  obtain ⟨s0, n0, a0, l0, c0, rfl, _⟩ := ZT
  have bz : Below w1.heap.size w1 (w1.alloc (.cells #[.string s0, .int .i64 n0, .slice a0 l0 c0] 43)) := (Below.refl _ _).alloc (Nat.le_refl _) _
  have HC1 := Hid.of' ((HC0.out.below b1).below bz)
  have HZ1 := Hid.of' ((HZ0.out.below b1).below bz)
  have HL1 := Hid.of' ((HL0.out.below b1).below bz)
  have HB1 : Hid (Below w.heap.size w (w1.alloc (.cells #[.string s0, .int .i64 n0, .slice a0 l0 c0] 43))) := bstep (bstep HB0.out b1) bz
  clear b1 bz HC0 HZ0 HL0 HB0
  obtain ⟨th, hth⟩ : ∃ th, th = thereB zs z := ⟨_, rfl⟩
  have HTH : Hid (th = thereB zs z) := hth
  rw [← hth]
  clear hth
  go_wp2
  generalize w1.alloc (.cells #[.string s0, .int .i64 n0, .slice a0 l0 c0] 43) = W1 at HC1 HZ1 HL1 HB1 ⊢
  go_loopw [7] (fun i wr => ∃ k : Nat, k ≤ l.length ∧ i = .int .i64 k ∧ (∀ j, j < k → inB (gi l j) 0 6 = true) ∧ (∀ j, j + 1 < k → gi l j < gi l (j + 1)) ∧ Below W1.heap.size W1 wr) (fun i _ => l.length - (intOf i).toNat)
  case atStart => exact ⟨0, by omega, rfl, fun j h => by omega, fun j h => by omega, Below.refl _ _⟩
  case round =>
    obtain ⟨k, hk, rfl, ha, hs2, hb⟩ := hrel
    have HA : Hid (∀ j, j < k → inB (gi l j) 0 6 = true) := ha
    have HG : Hid (∀ j, j + 1 < k → gi l j < gi l (j + 1)) := hs2
    have HB : Hid (Below W1.heap.size W1 wr) := hb
    have Kr := HC1.out.below hb
    have HKr := Hid.of' Kr
    have x3 : World.cell? wr ⟨w.heap.size, 3, none⟩ = some (.slice b l.length bc) := (Kr.2 3 _ rfl).1
    clear ha hs2 Kr
    by_cases hlt : k < l.length
    · obtain ⟨bb, off, hbe, hbs, hc⟩ : ∃ bb off, b = some ⟨bb, off, none⟩ ∧ bb < wr.heap.size ∧ ∀ i, i < l.length → wr.cell? ⟨bb, off + i, none⟩ = some (.int .i64 (gi l i)) := by
        rcases HL1.out.below hb with q | ⟨bb, off, q1, q2, q3⟩
        · rw [q] at hlt; simp at hlt
        · exact ⟨bb, off, q1, q2, q3⟩
      have HBE : Hid (b = some ⟨bb, off, none⟩) := hbe
      rw [hbe] at x3
      have HCL : Hid (∀ i, i < l.length → wr.cell? ⟨bb, off + i, none⟩ = some (.int .i64 (gi l i))) := hc
      have hi0 : (0 : Int) ≤ (k : Int) := by omega
      have hi1 : (k : Int) < (l.length : Int) := by omega
      clear hc hb hbe
      have c0 := HCL.out k hlt
      cases hg : inB (gi l k) 0 6 with
      | false =>
        have HGN : Hid (inB (gi l k) 0 6 = false) := hg
        have HV : Hid (r = false) := no_of HR.out fun q => by
          have h1 := q.2.2.2.2 k hlt
          have h2 := (in_not _ _ _).1 hg
          omega
        clear hg
        go_wp2
        refine wp_region_cl (fun w' => Below wr.heap.size wr w') (by kernel_rfl) (by kernel_rfl) (Below.refl _ _).drew ?_
        repeat (first
          | go_big_quiet_skip
          | (go_big_quiet_want; go_big_quiet_op; go_big_quiet_on)
          | (go_big_quiet_want
             apply Exists.intro
             refine ⟨fun w7 hC7 => ?_, ?_⟩
             · (have b7 := hC7
                have y3 : w7.cell? ⟨w.heap.size, 3, none⟩ = some (.slice (some ⟨bb, off, none⟩) l.length bc) := by rw [← HBE.out]; exact ((HKr.out.below hC7).2 3 _ rfl).1
                have y0 : w7.cell? ⟨bb, off + k, none⟩ = some (.int .i64 (gi l k)) := (hC7.cell (p := ⟨bb, off + k, none⟩) hbs).trans c0
                clear hC7
                go_simp
                first
                  | done
                  | rfl
                  | exact ⟨rfl, rfl⟩
                  | (with_reducible refine (specInR (gi l k) 0 6 w7 false HGN.out).mono ?_
                     rintro e w8 ⟨rfl, rfl⟩
                     first | exact ⟨rfl, b7⟩ | (go_simp; exact b7)))
             (go_simp; go_big_quiet_on)))
        refine wpQuiet_nil ?_
        intro w7 b7
        have Bf := bstep HB1.out (bstep HB.out b7)
        clear b7
        go_wp2
        go_ret
        exact ⟨ret_b HV.out.symm, Bf⟩
      | true =>
        have HGY : Hid (inB (gi l k) 0 6 = true) := hg
        have HA2 : Hid (∀ j, j < k + 1 → inB (gi l j) 0 6 = true) := fun j hj => by
          by_cases e : j = k
          · subst e; exact hg
          · exact HA.out j (by omega)
        clear hg
        by_cases hz0 : k = 0
        · subst hz0
          have hi2 : (0 : Int) < (l.length : Int) := by omega
          go_wp2
          refine wp_region_cl (fun w' => Below wr.heap.size wr w') (by kernel_rfl) (by kernel_rfl) (Below.refl _ _).drew ?_
          repeat (first
            | go_big_quiet_skip
            | (go_big_quiet_want; go_big_quiet_op; go_big_quiet_on)
            | (go_big_quiet_want
               apply Exists.intro
               refine ⟨fun w7 hC7 => ?_, ?_⟩
               · (have b7 := hC7
                  have y3 : w7.cell? ⟨w.heap.size, 3, none⟩ = some (.slice (some ⟨bb, off, none⟩) l.length bc) := by rw [← HBE.out]; exact ((HKr.out.below hC7).2 3 _ rfl).1
                  have y0 : w7.cell? ⟨bb, off + 0, none⟩ = some (.int .i64 (gi l 0)) := (hC7.cell (p := ⟨bb, off + 0, none⟩) hbs).trans c0
                  try simp only [Nat.add_zero] at y0
                  clear hC7
                  go_simp
                  first
                    | done
                    | rfl
                    | exact ⟨rfl, rfl⟩
                    | (with_reducible refine (specInR (gi l 0) 0 6 w7 true HGY.out).mono ?_
                       rintro e w8 ⟨rfl, rfl⟩
                       first | exact ⟨rfl, b7⟩ | (go_simp; exact b7)))
               (go_simp; go_big_quiet_on)))
          refine wpQuiet_nil ?_
          intro w7 b7
          have Bf := bstep HB.out b7
          clear b7 c0
          go_wp2
          go_roundw
          case rel => exact ⟨1, by omega, by go_num, HA2.out, fun j h => by omega, Bf⟩
          case measure => simp [intOf]; omega
        · obtain ⟨j, rfl⟩ : ∃ j, k = j + 1 := ⟨k - 1, by omega⟩
          have p0 := HCL.out j (by omega)
          have z0 : (0 : Int) < ((j + 1 : Nat) : Int) := by omega
          have g2 := IntWalk.i64_in ((j : Int) + 1 - 1) (by omega)
          have hj1 : (j : Int) < (l.length : Int) := by omega
          have g3 := IntWalk.i64_in (j : Int) (by omega)
          have g4 : (((j + 1 : Nat) : Int)) - 1 = (j : Int) := by omega
          have g6 : ((j : Int) + 1) - 1 = (j : Int) := by omega
          have hj0 : (0 : Int) ≤ (j : Int) := by omega
          by_cases hlt2 : gi l j < gi l (j + 1)
          · have HG2 : Hid (∀ i, i + 1 < j + 1 + 1 → gi l i < gi l (i + 1)) := fun i hi => by
              by_cases e : i = j
              · subst e; exact hlt2
              · exact HG.out i (by omega)
            have hg0 : ¬ gi l j ≥ gi l (j + 1) := by omega
            go_wp2
            refine wp_region_cl (fun w' => Below wr.heap.size wr w') (by kernel_rfl) (by kernel_rfl) (Below.refl _ _).drew ?_
            repeat (first
              | go_big_quiet_skip
              | (go_big_quiet_want; go_big_quiet_op; go_big_quiet_on)
              | (go_big_quiet_want
                 apply Exists.intro
                 refine ⟨fun w7 hC7 => ?_, ?_⟩
                 · (have b7 := hC7
                    have y3 : w7.cell? ⟨w.heap.size, 3, none⟩ = some (.slice (some ⟨bb, off, none⟩) l.length bc) := by rw [← HBE.out]; exact ((HKr.out.below hC7).2 3 _ rfl).1
                    have y0 : w7.cell? ⟨bb, off + (j + 1), none⟩ = some (.int .i64 (gi l (j + 1))) := (hC7.cell (p := ⟨bb, off + (j + 1), none⟩) hbs).trans c0
                    have y1 : w7.cell? ⟨bb, off + j, none⟩ = some (.int .i64 (gi l j)) := (hC7.cell (p := ⟨bb, off + j, none⟩) hbs).trans p0
                    clear hC7
                    go_simp
                    first
                      | done
                      | rfl
                      | exact ⟨rfl, rfl⟩
                      | (with_reducible refine (specInR (gi l (j + 1)) 0 6 w7 true HGY.out).mono ?_
                         rintro e w8 ⟨rfl, rfl⟩
                         first | exact ⟨rfl, b7⟩ | (go_simp; exact b7)))
                 (go_simp; go_big_quiet_on)))
            refine wpQuiet_nil ?_
            intro w7 b7
            have Bf := bstep HB.out b7
            clear b7 c0 p0
            go_wp2
            go_roundw
            case rel => exact ⟨j + 1 + 1, by omega, by go_num, HA2.out, HG2.out, Bf⟩
            case measure => simp [intOf]; omega
          · have HV : Hid (r = false) := no_of HR.out fun q => absurd (q.2.2.2.1 j hlt) hlt2
            have hg0 : gi l j ≥ gi l (j + 1) := by omega
            go_wp2
            refine wp_region_cl (fun w' => Below wr.heap.size wr w') (by kernel_rfl) (by kernel_rfl) (Below.refl _ _).drew ?_
            repeat (first
              | go_big_quiet_skip
              | (go_big_quiet_want; go_big_quiet_op; go_big_quiet_on)
              | (go_big_quiet_want
                 apply Exists.intro
                 refine ⟨fun w7 hC7 => ?_, ?_⟩
                 · (have b7 := hC7
                    have y3 : w7.cell? ⟨w.heap.size, 3, none⟩ = some (.slice (some ⟨bb, off, none⟩) l.length bc) := by rw [← HBE.out]; exact ((HKr.out.below hC7).2 3 _ rfl).1
                    have y0 : w7.cell? ⟨bb, off + (j + 1), none⟩ = some (.int .i64 (gi l (j + 1))) := (hC7.cell (p := ⟨bb, off + (j + 1), none⟩) hbs).trans c0
                    have y1 : w7.cell? ⟨bb, off + j, none⟩ = some (.int .i64 (gi l j)) := (hC7.cell (p := ⟨bb, off + j, none⟩) hbs).trans p0
                    clear hC7
                    go_simp
                    first
                      | done
                      | rfl
                      | exact ⟨rfl, rfl⟩
                      | (with_reducible refine (specInR (gi l (j + 1)) 0 6 w7 true HGY.out).mono ?_
                         rintro e w8 ⟨rfl, rfl⟩
                         first | exact ⟨rfl, b7⟩ | (go_simp; exact b7)))
                 (go_simp; go_big_quiet_on)))
            refine wpQuiet_nil ?_
            intro w7 b7
            have Bf := bstep HB1.out (bstep HB.out b7)
            clear b7
            go_wp2
            go_ret
            exact ⟨ret_b HV.out.symm, Bf⟩
    · have HAS : Hid (AscI l ∧ AllW l) := ⟨fun i hi => HG.out i (by omega), fun i hi => (in_iff _ _ _).1 (HA.out i (by omega))⟩
      have HZr := Hid.of' (HZ1.out.below hb)
      clear hb
      go_wp2_with fail
      refine (specZonesOk a cap zs wr HZr.out HS.out p HP.out).mono ?_
      rintro e w3 ⟨rfl, b3⟩
      have HB3 := Hid.of' (bstep HB1.out (bstep HB.out b3))
      have K3 := HKr.out.below b3
      have x1 : World.cell? w3 ⟨w.heap.size, 1, none⟩ = some (.int .i64 fr) := (K3.2 1 _ rfl).1
      have x2 : World.cell? w3 ⟨w.heap.size, 2, none⟩ = some (.int .i64 t) := (K3.2 2 _ rfl).1
      clear b3 K3 x3
      cases p with
      | false =>
        have HV : Hid (r = false) := no_of HR.out fun q => by have := HP.out.2 q.1; cases this
        have Bf := HB3.out
        go_wp2
        go_ret
        exact ⟨ret_b HV.out.symm, Bf⟩
      | true =>
        have HZK : Hid (ZsOk zs) := HP.out.1 rfl
        cases th with
        | false =>
          have HV : Hid (r = false) := no_of HR.out fun q => by have := q.2.1; rw [← HTH.out] at this; cases this
          have Bf := HB3.out
          go_wp2
          go_ret
          exact ⟨ret_b HV.out.symm, Bf⟩
        | true =>
          cases h1 : inB fr 0 1439 with
          | false =>
            have H1 : Hid (inB fr 0 1439 = false) := h1
            have HV : Hid (r = false) := no_of HR.out fun q => by
              have a1 := (in_not _ _ _).1 h1
              have a2 := q.2.2.1
              omega
            clear h1
            go_wp2_with fail
            refine (specInR fr 0 1439 w3 false H1.out).mono ?_
            rintro e w4 ⟨rfl, rfl⟩
            have Bf := HB3.out
            go_wp2
            go_ret
            exact ⟨ret_b HV.out.symm, Bf⟩
          | true =>
            have H1 : Hid (inB fr 0 1439 = true) := h1
            have a1 := (in_iff _ _ _).1 h1
            have gf := IntWalk.i64_in (fr + 1) (by omega)
            obtain ⟨q, hq⟩ : ∃ q, q = inB t (fr + 1) 1440 := ⟨_, rfl⟩
            have HQ : Hid (inB t (fr + 1) 1440 = q) := hq.symm
            have HV : Hid (r = q) := by
              unfold Hid
              rw [Bool.eq_iff_iff, HR.out, hq, in_iff]
              constructor
              · intro h
                have := h.2.2.1
                omega
              · intro h
                exact ⟨HZK.out, HTH.out.symm, by omega, HAS.out⟩
            clear h1 a1 hq
            go_wp2_with fail
            refine (specInR fr 0 1439 w3 true H1.out).mono ?_
            rintro e w4 ⟨rfl, rfl⟩
            go_wp2_with fail
            refine (specInR t (fr + 1) 1440 _ q HQ.out).mono ?_
            rintro e w5 ⟨rfl, rfl⟩
            have Bf := HB3.out
            go_wp2
            go_ret
            exact ⟨by rw [HV.out]; first | rfl | (cases q <;> rfl), Bf⟩
end Go.Proofs.Ytlhaldhfoeiohaa
