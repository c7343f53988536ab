/- Lists of zones: held against each other; when they are ok. -/
import Derived.Test.YtlhaldhfoeiohaaZk
import Derived.Test.YtlhaldhfoeiohaaCls
namespace Go.Proofs.Ytlhaldhfoeiohaa
open Go.RowKit
set_option linter.unusedVariables false
/-- Two zones in cells, all along. -/
def Z2 (w : World) (b o b' o' : Nat) (z z' : ZR) (a a' : Option Addr) (cap cap' : Nat) (w' : World) : Prop :=
  (w'.cell? ⟨b, o, none⟩ = some (.string z.s) ∧ w'.cell? ⟨b, o + 1, none⟩ = some (.int .i64 z.sh) ∧ w'.cell? ⟨b, o + 2, none⟩ = some (.slice a z.ts.length cap) ∧ IsTurns w' a z.ts) ∧
  (w'.cell? ⟨b', o', none⟩ = some (.string z'.s) ∧ w'.cell? ⟨b', o' + 1, none⟩ = some (.int .i64 z'.sh) ∧ w'.cell? ⟨b', o' + 2, none⟩ = some (.slice a' z'.ts.length cap') ∧ IsTurns w' a' z'.ts) ∧ Below w.heap.size w w'
theorem Z2.on {w W w' : World} {b o b' o' : Nat} {z z' : ZR} {a a' : Option Addr} {cap cap' : Nat} (h : Z2 w b o b' o' z z' a a' cap cap' W) (hb : Below W.heap.size W w') : Z2 w b o b' o' z z' a a' cap cap' w' := by
  obtain ⟨⟨c0, c1, c2, t⟩, ⟨d0, d1, d2, u⟩, B⟩ := h
  have l1 := cell_lt c0
  have l2 := cell_lt d0
  refine ⟨⟨?_, ?_, ?_, t.below (B := 0) hb⟩, ⟨?_, ?_, ?_, u.below (B := 0) hb⟩, bstep B hb⟩
  · rw [hb.cell (p := ⟨b, o, none⟩) l1]; exact c0
  · rw [hb.cell (p := ⟨b, o + 1, none⟩) l1]; exact c1
  · rw [hb.cell (p := ⟨b, o + 2, none⟩) l1]; exact c2
  · rw [hb.cell (p := ⟨b', o', none⟩) l2]; exact d0
  · rw [hb.cell (p := ⟨b', o' + 1, none⟩) l2]; exact d1
  · rw [hb.cell (p := ⟨b', o' + 2, none⟩) l2]; exact d2
set_option maxRecDepth 100000 in
set_option maxHeartbeats 4000000 in
theorem lawEqZones (a a' : Option Addr) (cap cap' : Nat) (zs : List ZR) (w : World) (h : IsZones w a zs) (h' : IsZones w a' zs) (hl : ZSmall zs) :
    Calls Try.prog 10 #[.slice a zs.length cap, .slice a' zs.length cap'] w fun e w' => e = .returned (.bool true) ∧ Below w.heap.size w w' := by
  have H1 : Hid (IsZones w a zs) := h
  have H2 : Hid (IsZones w a' zs) := h'
  have HL : Hid (ZSmall zs) := hl
  have hln := hl.1
  clear h h' hl
  go_enter Try.func10, Try.ntmps10
  go_wp2
  go_loopw [5] (fun i wr => ∃ k : Nat, k ≤ zs.length ∧ i = .int .i64 k ∧ Below w.heap.size w wr) (fun i _ => zs.length - (intOf i).toNat)
  case atStart => exact ⟨0, by omega, rfl, Below.refl _ _⟩
  case round =>
    obtain ⟨k, hk, rfl, hb⟩ := hrel
    by_cases hlt : k < zs.length
    · have G1 := H1.out.below hb
      have G2 := H2.out.below hb
      rcases G1 with G1 | ⟨b, o, rfl, hbs, hc⟩
      · rw [G1] at hlt; simp at hlt
      rcases G2 with G2 | ⟨b', o', rfl, hbs', hc'⟩
      · rw [G2] at hlt; simp at hlt
      obtain ⟨za, zc, c0, c1, c2, t1⟩ := hc k hlt
      obtain ⟨za', zc', d0, d1, d2, t2⟩ := hc' k hlt
      have K : Z2 w b (o + k * 3) b' (o' + k * 3) (zAt zs k) (zAt zs k) za za' zc zc' wr := ⟨⟨c0, c1, c2, t1⟩, ⟨d0, d1, d2, t2⟩, hb⟩
      have hi1 : (k : Int) < (zs.length : Int) := by omega
      have hi0 : (0 : Int) ≤ (k : Int) := by omega
      have hl2 : (zAt zs k).ts.length ≤ 2000000 := by have := (HL.out.2 k hlt).2; omega
      clear hc hc' c0 c1 c2 d0 d1 d2 t1 t2 hb H1 H2 HL
      generalize zAt zs k = Z at K hl2
      go_wp2
      refine wp_region_cl (fun w' => Z2 w b (o + k * 3) b' (o' + k * 3) Z Z za za' zc zc' w') (by kernel_rfl) (by kernel_rfl) (Z2.on K (Below.refl _ _).drew) ?_
      clear K
      repeat (first
        | go_big_quiet_skip
        | (go_big_quiet_want; go_big_quiet_op; go_big_quiet_on)
        | (go_big_quiet_want
           apply Exists.intro
           refine ⟨fun w7 hC7 => ?_, ?_⟩
           · (have hC8 := hC7
              obtain ⟨⟨y0, y1, y2, y3⟩, ⟨u0, u1, u2, u3⟩, _⟩ := hC7
              go_simp
              first
                | done
                | rfl
                | exact ⟨rfl, rfl⟩
                | (with_reducible refine (lawEqZone _ _ _ _ _ _ _ _ y3 u3 hl2).mono ?_
                   rintro e w8 ⟨rfl, b8⟩
                   exact ⟨rfl, Z2.on hC8 b8⟩))
           (go_simp; go_big_quiet_on)))
      refine wpQuiet_nil ?_
      intro w7 K7
      have B7 := K7.2.2
      clear K7
      go_wp2
      go_roundw
      case rel => exact ⟨k + 1, by omega, by go_num, B7⟩
      case measure => simp [intOf]; omega
    · go_wp2
      go_ret
      exact ⟨rfl, hb⟩
/-- Each turn, as a Bool. -/
def trB (ts : List (Int × Int)) : Bool := decide (ts.length ≤ 8) && (List.range ts.length).all fun i => decide (0 ≤ tAt ts i ∧ tAt ts i ≤ 5258964959) && (decide (-1440 ≤ tSh ts i ∧ tSh ts i ≤ 1440) && decide (0 < i → tAt ts (i - 1) + 10080 ≤ tAt ts i))
theorem trB_iff (ts : List (Int × Int)) : trB ts = true ↔ TrOk ts := by
  unfold trB TrOk stepOk
  simp only [Bool.and_eq_true, decide_eq_true_eq, List.all_eq_true, List.mem_range]
/-- A zone is ok. -/
def zOk (z : ZR) : Bool := znB z.s z.sh (trB z.ts)
/-- A name is not ahead of another. -/
def geS (s t : ByteArray) : Bool := !Op.bytesLess s.toList t.toList
def zStep (zs : List ZR) (i : Nat) : Prop := zOk (zAt zs i) = true ∧ (0 < i → geS (zAt zs (i - 1)).s (zAt zs i).s = false)
/-- Zones are ok. -/
def ZsOk (zs : List ZR) : Prop := zs.length ≤ 6 ∧ ∀ i, i < zs.length → zStep zs i
set_option maxRecDepth 100000 in
set_option maxHeartbeats 8000000 in
theorem specZonesOk (a : Option Addr) (cap : Nat) (zs : List ZR) (w : World) (h : IsZones w a zs) (hl : ZSmall zs) (r : Bool) (hr : r = true ↔ ZsOk zs) :
    Calls Try.prog 16 #[.slice a zs.length cap] w fun e w' => e = .returned (.bool r) ∧ Below w.heap.size w w' := by
  have HZ : Hid (IsZones w a zs) := h
  have HL : Hid (ZSmall zs) := hl
  have HR : Hid (r = true ↔ ZsOk zs) := hr
  have hln := hl.1
  clear h hl hr
  go_enter Try.func16, Try.ntmps16
  go_wp2
  go_loopw [3] (fun i wr => ∃ k : Nat, k ≤ zs.length ∧ i = .int .i64 k ∧ (∀ j, j < k → zStep zs j) ∧ Below w.heap.size w wr) (fun i _ => zs.length - (intOf i).toNat)
  case atStart => exact ⟨0, by omega, rfl, fun j h => by omega, Below.refl _ _⟩
  case round =>
    obtain ⟨k, hk, rfl, ha, hb⟩ := hrel
    have HA : Hid (∀ j, j < k → zStep zs j) := ha
    clear ha
    by_cases hlt : k < zs.length
    · have G1 := HZ.out.below hb
      rcases G1 with G1 | ⟨b, o, rfl, hbs, hc⟩
      · rw [G1] at hlt; simp at hlt
      obtain ⟨za, zc, c0, c1, c2, t1⟩ := hc k hlt
      have hi1 : (k : Int) < (zs.length : Int) := by omega
      have hi0 : (0 : Int) ≤ (k : Int) := by omega
      have hl2 : (zAt zs k).ts.length ≤ 2000000 := by have := (HL.out.2 k hlt).2; omega
      have hs2 : (zAt zs k).s.size ≤ maxLen := by have := (HL.out.2 k hlt).1; unfold maxLen; omega
      have BAD : Hid (¬ zStep zs k → r = false) := fun hn => by
        cases hrr : r with
        | false => rfl
        | true => exact absurd ((HR.out.1 hrr).2 k hlt) hn
      have GOOD : Hid (zStep zs k → ∀ j, j < k + 1 → zStep zs j) := fun hg j hj => by
        by_cases hjk : j = k
        · subst hjk; exact hg
        · exact HA.out j (by omega)
      cases hO : zOk (zAt zs k) with
      | false =>
        have HB : Hid (r = false) := BAD.out (fun hs => by rw [hs.1] at hO; cases hO)
        have HO : Hid (znB (zAt zs k).s (zAt zs k).sh (trB (zAt zs k).ts) = false) := hO
        have K : Z2 w b (o + k * 3) b (o + k * 3) (zAt zs k) (zAt zs k) za za zc zc wr := ⟨⟨c0, c1, c2, t1⟩, ⟨c0, c1, c2, t1⟩, hb⟩
        clear hc c0 c1 c2 t1 hb HZ HL GOOD BAD HA hO
        generalize zAt zs k = Z at K hl2 hs2 HO
        go_wp2
        refine wp_region_cl (fun w' => Z2 w b (o + k * 3) b (o + k * 3) Z Z za za zc zc w') (by kernel_rfl) (by kernel_rfl) (Z2.on K (Below.refl _ _).drew) ?_
        clear K
        repeat (first
          | go_big_quiet_skip
          | (go_big_quiet_want; go_big_quiet_op; go_big_quiet_on)
          | (go_big_quiet_want
             apply Exists.intro
             refine ⟨fun w7 hC7 => ?_, ?_⟩
             · (have hC8 := hC7
                obtain ⟨⟨y0, y1, y2, y3⟩, ⟨u0, u1, u2, u3⟩, _⟩ := hC7
                go_simp
                first
                  | done
                  | rfl
                  | exact ⟨rfl, rfl⟩
                  | (with_reducible refine (specZoneOk _ _ _ _ _ _ y3 hl2 hs2 _ (trB_iff _)).mono ?_
                     rintro e w8 ⟨rfl, b8⟩
                     rw [HO.out]
                     exact ⟨rfl, Z2.on hC8 b8⟩))
             (go_simp; go_big_quiet_on)))
        refine wpQuiet_nil ?_
        intro w7 K7
        have B7 := K7.2.2
        clear K7
        go_wp2
        go_ret
        exact ⟨ret_b HB.out.symm, B7⟩
      | true =>
        have HO : Hid (znB (zAt zs k).s (zAt zs k).sh (trB (zAt zs k).ts) = true) := hO
        by_cases hk0 : 0 < k
        · obtain ⟨j, rfl⟩ : ∃ j, k = j + 1 := ⟨k - 1, by omega⟩
          obtain ⟨ya, yc, p0, p1, p2, t0⟩ := hc j (by omega)
          have K : Z2 w b (o + (j + 1) * 3) b (o + j * 3) (zAt zs (j + 1)) (zAt zs j) za ya zc yc wr := ⟨⟨c0, c1, c2, t1⟩, ⟨p0, p1, p2, t0⟩, hb⟩
          have WJ : Hid (IntKind.i64.wrap (j : Int) = (j : Int)) := IntWalk.i64_in _ (by omega)
          have j0 : (0 : Int) ≤ (j : Int) := by omega
          have j1 : (j : Int) < (zs.length : Int) := by omega
          cases hg : geS (zAt zs j).s (zAt zs (j + 1)).s with
          | true =>
            have HB : Hid (r = false) := BAD.out (fun hs => by have := hs.2 (by omega); simp only [Nat.add_sub_cancel] at this; rw [hg] at this; cases this)
            have HG : Hid ((!Op.bytesLess (zAt zs j).s.toList (zAt zs (j + 1)).s.toList) = true) := hg
            clear hc c0 c1 c2 t1 p0 p1 p2 t0 hb HZ HL GOOD BAD HA hO hg
            generalize zAt zs (j + 1) = Z at K hl2 hs2 HO HG
            generalize zAt zs j = Y at K HG
            go_wp2
            refine wp_region_cl (fun w' => Z2 w b (o + (j + 1) * 3) b (o + j * 3) Z Y za ya zc yc w') (by kernel_rfl) (by kernel_rfl) (Z2.on K (Below.refl _ _).drew) ?_
            clear K
            repeat (first
              | rw [WJ.out]
              | go_big_quiet_skip
              | (go_big_quiet_want; go_big_quiet_op; go_big_quiet_on)
              | (go_big_quiet_want
                 apply Exists.intro
                 refine ⟨fun w7 hC7 => ?_, ?_⟩
                 · (have hC8 := hC7
                    obtain ⟨⟨y0, y1, y2, y3⟩, ⟨u0, u1, u2, u3⟩, _⟩ := hC7
                    go_simp
                    first
                      | done
                      | rfl
                      | exact ⟨rfl, rfl⟩
                      | (with_reducible refine (specZoneOk _ _ _ _ _ _ y3 hl2 hs2 _ (trB_iff _)).mono ?_
                         rintro e w8 ⟨rfl, b8⟩
                         rw [HO.out]
                         exact ⟨rfl, Z2.on hC8 b8⟩))
                 (go_simp; go_big_quiet_on)))
            refine wpQuiet_nil ?_
            intro w7 K7
            have B7 := K7.2.2
            clear K7
            rw [HG.out]
            go_wp2
            go_ret
            exact ⟨ret_b HB.out.symm, B7⟩
          | false =>
            have HQ : Hid (∀ i, i < j + 1 + 1 → zStep zs i) := GOOD.out ⟨hO, fun _ => by simpa using hg⟩
            have HG : Hid ((!Op.bytesLess (zAt zs j).s.toList (zAt zs (j + 1)).s.toList) = false) := hg
            clear hc c0 c1 c2 t1 p0 p1 p2 t0 hb HZ HL GOOD BAD HA hO hg
            generalize zAt zs (j + 1) = Z at K hl2 hs2 HO HG
            generalize zAt zs j = Y at K HG
            go_wp2
            refine wp_region_cl (fun w' => Z2 w b (o + (j + 1) * 3) b (o + j * 3) Z Y za ya zc yc w') (by kernel_rfl) (by kernel_rfl) (Z2.on K (Below.refl _ _).drew) ?_
            clear K
            repeat (first
              | rw [WJ.out]
              | go_big_quiet_skip
              | (go_big_quiet_want; go_big_quiet_op; go_big_quiet_on)
              | (go_big_quiet_want
                 apply Exists.intro
                 refine ⟨fun w7 hC7 => ?_, ?_⟩
                 · (have hC8 := hC7
                    obtain ⟨⟨y0, y1, y2, y3⟩, ⟨u0, u1, u2, u3⟩, _⟩ := hC7
                    go_simp
                    first
                      | done
                      | rfl
                      | exact ⟨rfl, rfl⟩
                      | (with_reducible refine (specZoneOk _ _ _ _ _ _ y3 hl2 hs2 _ (trB_iff _)).mono ?_
                         rintro e w8 ⟨rfl, b8⟩
                         rw [HO.out]
                         exact ⟨rfl, Z2.on hC8 b8⟩))
                 (go_simp; go_big_quiet_on)))
            refine wpQuiet_nil ?_
            intro w7 K7
            have B7 := K7.2.2
            clear K7
            rw [HG.out]
            go_wp2
            go_roundw
            case rel => exact ⟨j + 1 + 1, by omega, by go_num, HQ.out, B7⟩
            case measure => simp [intOf]; omega
        · have hk00 : k = 0 := by omega
          subst hk00
          have HQ : Hid (∀ i, i < 0 + 1 → zStep zs i) := GOOD.out ⟨hO, fun h => absurd h (by omega)⟩
          simp only [Nat.zero_mul, Nat.add_zero] at c0 c1 c2
          have K : Z2 w b o b o (zAt zs 0) (zAt zs 0) za za zc zc wr := ⟨⟨c0, c1, c2, t1⟩, ⟨c0, c1, c2, t1⟩, hb⟩
          clear hc c0 c1 c2 t1 hb HZ HL GOOD BAD HA hO
          generalize zAt zs 0 = Z at K hl2 hs2 HO
          go_wp2
          refine wp_region_cl (fun w' => Z2 w b o b o Z Z za za zc zc w') (by kernel_rfl) (by kernel_rfl) (Z2.on K (Below.refl _ _).drew) ?_
          clear K
          repeat (first
            | go_big_quiet_skip
            | (go_big_quiet_want; go_big_quiet_op; go_big_quiet_on)
            | (go_big_quiet_want
               apply Exists.intro
               refine ⟨fun w7 hC7 => ?_, ?_⟩
               · (have hC8 := hC7
                  obtain ⟨⟨y0, y1, y2, y3⟩, ⟨u0, u1, u2, u3⟩, _⟩ := hC7
                  go_simp
                  first
                    | done
                    | rfl
                    | exact ⟨rfl, rfl⟩
                    | (with_reducible refine (specZoneOk _ _ _ _ _ _ y3 hl2 hs2 _ (trB_iff _)).mono ?_
                       rintro e w8 ⟨rfl, b8⟩
                       rw [HO.out]
                       exact ⟨rfl, Z2.on hC8 b8⟩))
               (go_simp; go_big_quiet_on)))
          refine wpQuiet_nil ?_
          intro w7 K7
          have B7 := K7.2.2
          clear K7
          go_wp2
          go_roundw
          case rel => exact ⟨0 + 1, by omega, by go_num, HQ.out, B7⟩
          case measure => simp [intOf]; omega
    · have hkk : k = zs.length := by omega
      subst hkk
      by_cases h6 : zs.length ≤ 6
      · have HV : Hid (r = true) := HR.out.2 ⟨h6, HA.out⟩
        have h6i : (zs.length : Int) ≤ 6 := by omega
        go_wp2
        go_ret
        exact ⟨ret_b (by rw [HV.out]), hb⟩
      · have HV : Hid (r = false) := by
          unfold Hid
          cases hrr : r with
          | false => rfl
          | true => exact absurd (HR.out.1 hrr).1 h6
        have h6i : ¬ (zs.length : Int) ≤ 6 := by omega
        go_wp2
        go_ret
        exact ⟨ret_b (by rw [HV.out]), hb⟩
end Go.Proofs.Ytlhaldhfoeiohaa
