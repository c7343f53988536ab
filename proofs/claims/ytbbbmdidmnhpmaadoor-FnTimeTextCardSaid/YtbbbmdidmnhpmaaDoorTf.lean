/- Dates read from texts: the specification. -/
import Derived.Test.YtbbbmdidmnhpmaaDoorTd
import Derived.Test.YtbbbmdidmnhpmaaDoorCg
import Derived.Test.YtbbbmdidmnhpmaaDoorC3
import Derived.Deep.RegionHeld3
import Derived.Deep.DeepCutAuto
namespace Go.Proofs.YtbbbmdidmnhpmaaDoor
open Go.RowKit
set_option linter.unusedVariables false
set_option maxRecDepth 100000 in
set_option maxHeartbeats 8000000 in
theorem specDateGet (s : ByteArray) (w : World) (hs : s.size ≤ 1048576) : Calls Tryd.prog 15 #[.string s] w fun e w' => e = .returned (getV s) ∧ Below w.heap.size w w' := by
  have hb0 := (Below.refl w.heap.size w).alloc (Nat.le_refl _) (.cells #[.int .i64 0, .int .i64 0, .int .i64 0] 24)
  have R0 := CG.new w #[.int .i64 0, .int .i64 0, .int .i64 0] 24
  go_enter Tryd.func15, Tryd.ntmps15
  go_wp2_with fail
  generalize w.alloc (.cells #[.int .i64 0, .int .i64 0, .int .i64 0] 24) = W0 at hb0 R0 ⊢
  refine (specCut s _ hs).mono ?_
  rintro e w1 ⟨v, rfl, O, b1⟩
  have R1 := R0.below b1
  have B1 := bstep hb0 b1
  have sz1 : w.heap.size < w1.heap.size := R1.1
  obtain ⟨r0, f0⟩ := R1.2 0 _ rfl
  obtain ⟨r1, f1⟩ := R1.2 1 _ rfl
  obtain ⟨r2, f2⟩ := R1.2 2 _ rfl
  obtain ⟨a, cap, rfl, hcell⟩ := O.at
  have HO : Hid (OS w1 W0.heap.size (.slice a (cut s).length cap) (cut s)) := O
  have HB : Hid (Below w.heap.size w w1) := B1
  have HR : Hid (CG w1 w.heap.size #[.int .i64 0, .int .i64 0, .int .i64 0]) := R1
  clear hb0 R0 b1 R1 B1 O
  have HNO : Hid (getB s = false → getV s = .tuple #[.agg #[.int .i64 0, .int .i64 0, .int .i64 0], .bool false]) := getV_no
  have HBS : Hid (Below w.heap.size w (((w1.setCell ⟨w.heap.size, 0, none⟩ (.int .i64 0)).setCell ⟨w.heap.size, 1, none⟩ (.int .i64 0)).setCell ⟨w.heap.size, 2, none⟩ (.int .i64 0))) := ((HB.out.setCell (p := ⟨w.heap.size, 0, none⟩) (Nat.le_refl _) _).setCell (p := ⟨w.heap.size, 1, none⟩) (Nat.le_refl _) _).setCell (p := ⟨w.heap.size, 2, none⟩) (Nat.le_refl _) _
  by_cases h3 : (cut s).length = 3
  · obtain ⟨t0, t1, t2, hcut3⟩ : ∃ t0 t1 t2, cut s = [t0, t1, t2] := by
      match hc : cut s, h3 with
      | [x, y, z], _ => exact ⟨x, y, z, rfl⟩
    have HC : Hid (cut s = [t0, t1, t2]) := hcut3
    rw [hcut3] at hcell ⊢
    obtain ⟨g, rfl, k0⟩ := hcell 0 t0 rfl
    obtain ⟨g1, e1, k1⟩ := hcell 1 t1 rfl
    obtain ⟨g2, e2, k2⟩ := hcell 2 t2 rfl
    simp only [Option.some.injEq, Addr.mk.injEq, and_true] at e1 e2
    subst e1 e2
    have gl := cell_lt k0
    clear hcell hcut3 h3 HO
    have NO : Hid (¬ (t0.size = 4 ∧ t1.size = 2 ∧ t2.size = 2) → getB s = false) := fun hn => get_no fun x y z hc p q r => by
      rw [HC.out] at hc
      simp only [List.cons.injEq, and_true] at hc
      obtain ⟨rfl, rfl, rfl⟩ := hc
      exact hn ⟨p, q, r⟩
    by_cases z0 : t0.size = 4
    · by_cases z1 : t1.size = 2
      · by_cases z2 : t2.size = 2
        · have HY : Hid (getB s = okD (fg t0) (fg t1) (fg t2) ∧ fg t0 = gy s ∧ fg t1 = gm s ∧ fg t2 = gd s) := get_yes HC.out z0 z1 z2
          go_wp2
          go_cut [5] (fun t wc => t = .pointer (some ⟨w1.heap.size, 0, none⟩) ∧ CG wc w.heap.size #[.int .i64 0, .int .i64 0, .int .i64 0] ∧ C3 wc w1.heap.size (.int .i64 (gy s)) (.int .i64 (gm s)) (.int .i64 (gd s)) ∧ Below w.heap.size w wc)
          case first =>
            have n0 := World.new_ne w1 _ k0
            have n1 := World.new_ne w1 _ k1
            have n2 := World.new_ne w1 _ k2
            go_region_held3 (fun w' => w'.cell? ⟨g, 0, none⟩ = some (.string t0) ∧ w'.cell? ⟨g, 1, none⟩ = some (.string t1) ∧ w'.cell? ⟨g, 2, none⟩ = some (.string t2))
              (go_keep)
              (first | (go_at_call 39; refine (specNum _ _ (by omega) (by omega)).mono ?_; rintro e w' ⟨rfl, rfl⟩))
            all_goals
              go_wp2
              go_meet
              case rel =>
                have A := HR.out.below ((Below.refl _ _).alloc (Nat.le_refl _) (.cells #[.int .i64 (gy s), .int .i64 (gm s), .int .i64 (gd s)] 24))
                have D := C3.new w1 (.int .i64 (gy s)) (.int .i64 (gm s)) (.int .i64 (gd s)) 24
                have q := HB.out.alloc HB.out.size (.cells #[.int .i64 (gy s), .int .i64 (gm s), .int .i64 (gd s)] 24)
                obtain ⟨_, y0, y1, y2⟩ := HY.out
                rw [y0, y1, y2]
                exact ⟨rfl, A.below (Below.refl _ _).drew, D.on (Below.refl _ _).drew, bstep q (Below.refl _ _).drew⟩
          case rest =>
            obtain ⟨rfl, R, C, B⟩ := hcut
            obtain ⟨c0, c1, c2⟩ := C
            have HY1 : Hid (getB s = okD (gy s) (gm s) (gd s)) := by
              obtain ⟨y, y0, y1, y2⟩ := HY.out
              unfold Hid; rw [y, y0, y1, y2]
            clear HY NO HBS r0 r1 r2 f0 f1 f2
            go_wp2_with fail
            refine (specDateOk _ _ _ _).mono ?_
            rintro e w2 ⟨rfl, b2⟩
            have R3 := R.below b2
            have B3 := bstep B b2
            obtain ⟨d0, d1, d2⟩ := C3.on (w := wc) ⟨c0, c1, c2⟩ b2
            obtain ⟨r0, f0⟩ := R3.2 0 _ rfl
            obtain ⟨r1, f1⟩ := R3.2 1 _ rfl
            obtain ⟨r2, f2⟩ := R3.2 2 _ rfl
            have sz3 : w.heap.size < w2.heap.size := R3.1
            clear c0 c1 c2 R3 R B b2
            cases hok : okD (gy s) (gm s) (gd s) with
            | true =>
              have HV : Hid (getV s = .tuple #[.agg #[.int .i64 (gy s), .int .i64 (gm s), .int .i64 (gd s)], .bool true]) := getV_yes (HY1.out.trans hok)
              have HB2 : Hid (Below w.heap.size w w2) := B3
              clear B3 hok
              go_wp2
              exact bodyPost_ret (v := .tuple #[.agg #[.int .i64 (gy s), .int .i64 (gm s), .int .i64 (gd s)], .bool true]) (by simp [results, Tryd.results15, go_sem, *]) rfl ⟨by rw [HV.out], ((HB2.out.setCell (p := ⟨w.heap.size, 0, none⟩) (Nat.le_refl _) _).setCell (p := ⟨w.heap.size, 1, none⟩) (Nat.le_refl _) _).setCell (p := ⟨w.heap.size, 2, none⟩) (Nat.le_refl _) _⟩
            | false =>
              have HV : Hid (getV s = .tuple #[.agg #[.int .i64 0, .int .i64 0, .int .i64 0], .bool false]) := getV_no (HY1.out.trans hok)
              have HB2 : Hid (Below w.heap.size w w2) := B3
              clear B3 hok
              go_wp2
              exact bodyPost_ret (v := .tuple #[.agg #[.int .i64 0, .int .i64 0, .int .i64 0], .bool false]) (by simp [results, Tryd.results15, go_sem, *]) rfl ⟨by rw [HV.out], ((HB2.out.setCell (p := ⟨w.heap.size, 0, none⟩) (Nat.le_refl _) _).setCell (p := ⟨w.heap.size, 1, none⟩) (Nat.le_refl _) _).setCell (p := ⟨w.heap.size, 2, none⟩) (Nat.le_refl _) _⟩
        · have HV : Hid (getV s = .tuple #[.agg #[.int .i64 0, .int .i64 0, .int .i64 0], .bool false]) := HNO.out (NO.out fun h => z2 h.2.2)
          have e2 : ((t2.size : Int) != 2) = true := by rw [bne_iff_ne]; omega
          clear z2
          go_wp2
          exact bodyPost_ret (v := .tuple #[.agg #[.int .i64 0, .int .i64 0, .int .i64 0], .bool false]) (by simp [results, Tryd.results15, go_sem, *]) rfl ⟨by rw [HV.out], HBS.out⟩
      · have HV : Hid (getV s = .tuple #[.agg #[.int .i64 0, .int .i64 0, .int .i64 0], .bool false]) := HNO.out (NO.out fun h => z1 h.2.1)
        have e2 : ((t1.size : Int) != 2) = true := by rw [bne_iff_ne]; omega
        clear z1
        go_wp2
        exact bodyPost_ret (v := .tuple #[.agg #[.int .i64 0, .int .i64 0, .int .i64 0], .bool false]) (by simp [results, Tryd.results15, go_sem, *]) rfl ⟨by rw [HV.out], HBS.out⟩
    · have HV : Hid (getV s = .tuple #[.agg #[.int .i64 0, .int .i64 0, .int .i64 0], .bool false]) := HNO.out (NO.out fun h => z0 h.1)
      have e2 : ((t0.size : Int) != 4) = true := by rw [bne_iff_ne]; omega
      clear z0
      go_wp2
      exact bodyPost_ret (v := .tuple #[.agg #[.int .i64 0, .int .i64 0, .int .i64 0], .bool false]) (by simp [results, Tryd.results15, go_sem, *]) rfl ⟨by rw [HV.out], HBS.out⟩
  · have HV : Hid (getV s = .tuple #[.agg #[.int .i64 0, .int .i64 0, .int .i64 0], .bool false]) := HNO.out (get_no fun x y z hc _ _ _ => h3 (by rw [hc]; rfl))
    have e3 : (((cut s).length : Int) != 3) = true := by rw [bne_iff_ne]; omega
    clear h3 hcell
    generalize (cut s).length = n at e3 ⊢
    go_wp2
    exact bodyPost_ret (v := .tuple #[.agg #[.int .i64 0, .int .i64 0, .int .i64 0], .bool false]) (by simp [results, Tryd.results15, go_sem, *]) rfl ⟨by rw [HV.out], HBS.out⟩
end Go.Proofs.YtbbbmdidmnhpmaaDoor
