/- Lists of zones: when they are ok, as the program says it. -/
import Derived.Test.YtlhaldhfoeiohaaZj
namespace Go.Proofs.Ytlhaldhfoeiohaa
open Go.RowKit
set_option linter.unusedVariables false
theorem implZoneName (z : ZR) (a : Option Addr) (cap : Nat) (w : World) :
    Calls Try.prog 28 #[.agg #[.string z.s, .int .i64 z.sh, .slice a z.ts.length cap]] w fun e w' => e = .returned (.string z.s) ∧ Below w.heap.size w w' := by
  go_enter Try.func28, Try.ntmps28
  go_wp2
  go_ret
  exact ⟨rfl, (Below.refl _ _).alloc (Nat.le_refl _) _⟩
theorem implIsNoZone (z : ZR) (a : Option Addr) (cap : Nat) (w : World) (h : IsTurns w a z.ts) (hl : z.ts.length ≤ 2000000) (hs : z.s.size ≤ maxLen) :
    Calls Try.prog 30 #[.agg #[.string z.s, .int .i64 z.sh, .slice a z.ts.length cap]] w fun e w' => e = .returned (.bool !zOk z) ∧ Below w.heap.size w w' := by
  have HB := (Below.refl w.heap.size w).alloc (Nat.le_refl _) (.cells #[.string z.s, .int .i64 z.sh, .slice a z.ts.length cap] 43)
  have HT : Hid (IsTurns (w.alloc (.cells #[.string z.s, .int .i64 z.sh, .slice a z.ts.length cap] 43)) a z.ts) := h.below (B := 0) HB
  clear h
  go_enter Try.func30, Try.ntmps30
  go_wp2_with fail
  with_reducible refine (implZoneOk _ _ _ _ _ _ HT.out hl hs _ (trB_iff _)).mono ?_
  rintro e w1 ⟨rfl, b1⟩
  have B := bstep HB b1
  go_wp2
  go_ret
  exact ⟨rfl, B⟩
/-- Names ascend. -/
def Asc (zs : List ZR) : Prop := ∀ i, i + 1 < zs.length → geS (zAt zs i).s (zAt zs (i + 1)).s = false
set_option maxRecDepth 100000 in
set_option maxHeartbeats 8000000 in
theorem implAscends (a : Option Addr) (cap : Nat) (zs : List ZR) (w : World) (h : IsZones w a zs) (hl : ZSmall zs) (r : Bool) (hr : r = true ↔ Asc zs) :
    Calls Try.prog 27 #[.slice a zs.length cap, .func (.func 28) #[] #[]] w fun e w' => e = .returned (.bool r) ∧ Below w.heap.size w w' := by
  have HZ : Hid (IsZones w a zs) := h
  have HR : Hid (r = true ↔ Asc zs) := hr
  have hln := hl.1
  clear h hl hr
  go_enter Try.func27, Try.ntmps27
  go_wp2
  go_loopw [5] (fun i wr => ∃ k : Nat, 1 ≤ k ∧ k ≤ zs.length + 1 ∧ i = .int .i64 k ∧ (∀ j, j + 1 < k → geS (zAt zs j).s (zAt zs (j + 1)).s = false) ∧ Below w.heap.size w wr) (fun i _ => zs.length + 1 - (intOf i).toNat)
  case atStart => exact ⟨1, by omega, by omega, rfl, fun j h => by omega, Below.refl _ _⟩
  case round =>
    obtain ⟨k, hk0, hk, rfl, ha, hb⟩ := hrel
    have HA : Hid (∀ j, j + 1 < k → geS (zAt zs j).s (zAt zs (j + 1)).s = false) := ha
    clear ha
    by_cases hlt : k < zs.length
    · have G1 := HZ.out.below hb
      rcases G1 with G1 | ⟨b, o, rfl, hbs, hc⟩
      · rw [G1] at hlt; simp at hlt
      obtain ⟨j, rfl⟩ : ∃ j, k = j + 1 := ⟨k - 1, by omega⟩
      obtain ⟨za, zc, c0, c1, c2, t1⟩ := hc (j + 1) hlt
      obtain ⟨ya, yc, p0, p1, p2, t0⟩ := hc j (by omega)
      have K : Z2 w b (o + (j + 1) * 3) b (o + j * 3) (zAt zs (j + 1)) (zAt zs j) za ya zc yc wr := ⟨⟨c0, c1, c2, t1⟩, ⟨p0, p1, p2, t0⟩, hb⟩
      have WJ : Hid (IntKind.i64.wrap (j : Int) = (j : Int)) := IntWalk.i64_in _ (by omega)
      have j0 : (0 : Int) ≤ (j : Int) := by omega
      have j1 : (j : Int) < (zs.length : Int) := by omega
      have hi1 : ((j + 1 : Nat) : Int) < (zs.length : Int) := by omega
      clear hc c0 c1 c2 t1 p0 p1 p2 t0 hb
      cases hg : geS (zAt zs j).s (zAt zs (j + 1)).s with
      | true =>
        have HB : Hid (r = false) := by
          unfold Hid
          cases hrr : r with
          | false => rfl
          | true => have := HR.out.1 hrr j hlt; rw [hg] at this; cases this
        have HG : Hid ((!Op.bytesLess (zAt zs j).s.toList (zAt zs (j + 1)).s.toList) = true) := hg
        clear HZ HA hg
        generalize zAt zs (j + 1) = Z at K HG
        generalize zAt zs j = Y at K HG
        go_wp2
        refine wp_region_cl (fun w' => Z2 w b (o + (j + 1) * 3) b (o + j * 3) Z Y za ya zc yc w') (by kernel_rfl) (by kernel_rfl) (Z2.on K (Below.refl _ _).drew) ?_
        clear K
        repeat (first
          | rw [WJ.out]
          | go_big_quiet_skip
          | (go_big_quiet_want; go_big_quiet_op; go_big_quiet_on)
          | (go_big_quiet_want
             apply Exists.intro
             refine ⟨fun w7 hC7 => ?_, ?_⟩
             · (have hC8 := hC7
                obtain ⟨⟨y0, y1, y2, y3⟩, ⟨u0, u1, u2, u3⟩, _⟩ := hC7
                go_simp
                first
                  | done
                  | rfl
                  | exact ⟨rfl, rfl⟩
                  | (with_reducible refine (implZoneName Z _ _ _).mono ?_
                     rintro e w8 ⟨rfl, b8⟩
                     exact ⟨rfl, Z2.on hC8 b8⟩)
                  | (with_reducible refine (implZoneName Y _ _ _).mono ?_
                     rintro e w8 ⟨rfl, b8⟩
                     exact ⟨rfl, Z2.on hC8 b8⟩))
             (go_simp; go_big_quiet_on)))
        refine wpQuiet_nil ?_
        intro w7 K7
        have B7 := K7.2.2
        clear K7
        rw [HG.out]
        go_wp2
        go_ret
        exact ⟨ret_b HB.out.symm, B7⟩
      | false =>
        have HQ : Hid (∀ i, i + 1 < j + 1 + 1 → geS (zAt zs i).s (zAt zs (i + 1)).s = false) := fun i hi => by
          by_cases e : i = j
          · subst e; exact hg
          · exact HA.out i (by omega)
        have HG : Hid ((!Op.bytesLess (zAt zs j).s.toList (zAt zs (j + 1)).s.toList) = false) := hg
        clear HZ HA hg
        generalize zAt zs (j + 1) = Z at K HG
        generalize zAt zs j = Y at K HG
        go_wp2
        refine wp_region_cl (fun w' => Z2 w b (o + (j + 1) * 3) b (o + j * 3) Z Y za ya zc yc w') (by kernel_rfl) (by kernel_rfl) (Z2.on K (Below.refl _ _).drew) ?_
        clear K
        repeat (first
          | rw [WJ.out]
          | go_big_quiet_skip
          | (go_big_quiet_want; go_big_quiet_op; go_big_quiet_on)
          | (go_big_quiet_want
             apply Exists.intro
             refine ⟨fun w7 hC7 => ?_, ?_⟩
             · (have hC8 := hC7
                obtain ⟨⟨y0, y1, y2, y3⟩, ⟨u0, u1, u2, u3⟩, _⟩ := hC7
                go_simp
                first
                  | done
                  | rfl
                  | exact ⟨rfl, rfl⟩
                  | (with_reducible refine (implZoneName Z _ _ _).mono ?_
                     rintro e w8 ⟨rfl, b8⟩
                     exact ⟨rfl, Z2.on hC8 b8⟩)
                  | (with_reducible refine (implZoneName Y _ _ _).mono ?_
                     rintro e w8 ⟨rfl, b8⟩
                     exact ⟨rfl, Z2.on hC8 b8⟩))
             (go_simp; go_big_quiet_on)))
        refine wpQuiet_nil ?_
        intro w7 K7
        have B7 := K7.2.2
        clear K7
        rw [HG.out]
        go_wp2
        go_roundw
        case rel => exact ⟨j + 1 + 1, by omega, by omega, by go_num, HQ.out, B7⟩
        case measure => simp [intOf]; omega
    · have HV : Hid (r = true) := HR.out.2 (fun i hi => HA.out i (by omega))
      have hi2 : ¬ (k : Int) < (zs.length : Int) := by omega
      go_wp2
      go_ret
      exact ⟨ret_b HV.out.symm, hb⟩
end Go.Proofs.Ytlhaldhfoeiohaa
