/- Dates read from texts: the program and the specification. -/
import Derived.Test.YtbbbmdidmnhpmaaDoorTd
import Derived.Test.YtbbbmdidmnhpmaaDoorTab
import Derived.Test.YtbbbmdidmnhpmaaDoorCg
import Derived.Test.YtbbbmdidmnhpmaaDoorC3
import Derived.Deep.RegionWith
import Derived.Deep.RegionHeld3
import Derived.Deep.DeepCutAuto
namespace Go.Proofs.YtbbbmdidmnhpmaaDoor
open Go.RowKit
set_option linter.unusedVariables false
theorem shp_no {s : ByteArray} (h : ¬ (s.size = 10 ∧ bt s 4 = 45 ∧ bt s 7 = 45)) : getB s = false := by
  unfold getB
  have : shp s = false := by unfold shp; exact decide_eq_false h
  rw [this, Bool.false_and]
theorem implDateD (y m d : Int) (w : World) : Calls Tryd.prog 30 #[.agg #[.int .i64 y, .int .i64 m, .int .i64 d]] w fun e w' => e = .returned (.agg #[.int .i64 y, .int .i64 m, .int .i64 d]) ∧ Below w.heap.size w w' := by
  go_enter Tryd.func30, Tryd.ntmps30
  go_wp2
  exact bodyPost_ret (v := .agg #[.int .i64 y, .int .i64 m, .int .i64 d]) (by simp [results, Tryd.results30, go_sem]) rfl ⟨rfl, ((Below.refl _ _).alloc (Nat.le_refl _) _).alloc (by simp) _⟩
set_option maxHeartbeats 8000000 in
theorem implDateGet (s : ByteArray) (w : World) (hs : s.size ≤ 1048576) (ht : Tab w) : Calls Tryd.prog 11 #[.string s] w fun e w' => e = .returned (getV s) ∧ Below w.heap.size w w' := by
  have hb0 := (Below.refl w.heap.size w).alloc (Nat.le_refl _) (.cells #[.int .i64 0, .int .i64 0, .int .i64 0] 24)
  have HT : Hid (Tab w) := ht
  clear ht
  by_cases h10 : s.size = 10
  · have l4 : 4 < s.size := by omega
    have l7 : 7 < s.size := by omega
    have B4 : Hid (bt s 4 = (s[4].toNat : Int)) := bt_get l4
    have B7 : Hid (bt s 7 = (s[7].toNat : Int)) := bt_get l7
    have u4 : s[4].toNat ≤ 255 := by have := s[4].toNat_lt; omega
    have u7 : s[7].toNat ≤ 255 := by have := s[7].toNat_lt; omega
    by_cases h4 : (s[4].toNat : Int) = 45
    · by_cases h7 : (s[7].toNat : Int) = 45
      · have HG : Hid (getB s = okD (gy s) (gm s) (gd s)) := by
          unfold Hid getB
          rw [(shp_iff s).2 ⟨h10, by rw [B4.out, h4], by rw [B7.out, h7]⟩, Bool.true_and]
        have e4 : ((s[4].toNat : Int) != 45) = false := by rw [h4]; rfl
        have e7 : ((s[7].toNat : Int) != 45) = false := by rw [h7]; rfl
        have z0 : (s.extract 0 4).size = 4 := by rw [ByteArray.size_extract]; omega
        have z1 : (s.extract 5 7).size = 2 := by rw [ByteArray.size_extract]; omega
        have z2 : (s.extract 8 10).size = 2 := by rw [ByteArray.size_extract]; omega
        have Z0 : Hid ((s.extract 0 4).size ≤ 9) := by unfold Hid; omega
        have Z1 : Hid ((s.extract 5 7).size ≤ 9) := by unfold Hid; omega
        have Z2 : Hid ((s.extract 8 10).size ≤ 9) := by unfold Hid; omega
        clear h4 h7 z0 z1 z2
        go_enter Tryd.func11, Tryd.ntmps11
        go_wp2
        go_cut [4] (fun t wc => t = .pointer (some ⟨w.heap.size + 1, 0, none⟩) ∧ CG wc w.heap.size #[.int .i64 0, .int .i64 0, .int .i64 0] ∧ C3 wc (w.heap.size + 1) (.int .i64 (gy s)) (.int .i64 (gm s)) (.int .i64 (gd s)) ∧ Below w.heap.size w wc)
        case first =>
          go_region_held3 (fun w' => w.heap.size ≤ w'.heap.size)
            (first | assumption | (simp; done) | (simp; omega))
            (first | (go_at_call 29; refine (implFigures _ _ (by first | exact Z0.out | exact Z1.out | exact Z2.out)).mono ?_; rintro e w' ⟨rfl, rfl⟩))
          all_goals
            go_wp2
            go_meet
            case rel =>
              have A := CG.new w #[.int .i64 0, .int .i64 0, .int .i64 0] 24
              have q := hb0.alloc (by simp) (.cells #[.int .i64 (gy s), .int .i64 (gm s), .int .i64 (gd s)] 46)
              have B := A.past (.cells #[.int .i64 (gy s), .int .i64 (gm s), .int .i64 (gd s)] 46)
              have D := C3.new (w.alloc (.cells #[.int .i64 0, .int .i64 0, .int .i64 0] 24)) (.int .i64 (gy s)) (.int .i64 (gm s)) (.int .i64 (gd s)) 46
              rw [World.size_alloc] at D
              exact ⟨rfl, B.below (Below.refl _ _).drew, D.on (Below.refl _ _).drew, bstep q (Below.refl _ _).drew⟩
        case rest =>
          obtain ⟨rfl, R, C, B⟩ := hcut
          clear Z0 Z1 Z2 hb0
          obtain ⟨c0, c1, c2⟩ := C
          go_wp2_with fail
          refine (implDateD _ _ _ _).mono ?_
          rintro e w1 ⟨rfl, b1⟩
          have R1 := R.below b1
          have B1 := bstep B b1
          have sz1 : w.heap.size < w1.heap.size := R1.1
          clear R B b1 c0 c1 c2
          have hA := (Below.refl w1.heap.size w1).alloc (Nat.le_refl _) (.cells #[.int .i64 (gy s), .int .i64 (gm s), .int .i64 (gd s)] 24)
          have R2 := R1.below hA
          have B2 := bstep B1 hA
          have D2 := C3.new w1 (.int .i64 (gy s)) (.int .i64 (gm s)) (.int .i64 (gd s)) 24
          clear hA R1 B1
          go_wp2_with fail
          generalize w1.alloc (.cells #[.int .i64 (gy s), .int .i64 (gm s), .int .i64 (gd s)] 24) = W1 at R2 B2 D2 ⊢
          refine (implDateOk _ _ _ _ (HT.out.on B2)).mono ?_
          rintro e w2 ⟨rfl, b2⟩
          have R3 := R2.below b2
          have B3 := bstep B2 b2
          obtain ⟨d0, d1, d2⟩ := D2.on b2
          obtain ⟨r0, f0⟩ := R3.2 0 _ rfl
          obtain ⟨r1, f1⟩ := R3.2 1 _ rfl
          obtain ⟨r2, f2⟩ := R3.2 2 _ rfl
          have sz3 : w.heap.size < w2.heap.size := R3.1
          clear R2 R3 B2 D2 b2
          cases hok : okD (gy s) (gm s) (gd s) with
          | true =>
            have HV : Hid (getV s = .tuple #[.agg #[.int .i64 (gy s), .int .i64 (gm s), .int .i64 (gd s)], .bool true]) := getV_yes (HG.out.trans hok)
            have HB : Hid (Below w.heap.size w w2) := B3
            clear B3 hok
            go_wp2
            exact bodyPost_ret (v := .tuple #[.agg #[.int .i64 (gy s), .int .i64 (gm s), .int .i64 (gd s)], .bool true]) (by simp [results, Tryd.results11, go_sem, *]) rfl ⟨by rw [HV.out], ((HB.out.setCell (p := ⟨w.heap.size, 0, none⟩) (Nat.le_refl _) _).setCell (p := ⟨w.heap.size, 1, none⟩) (Nat.le_refl _) _).setCell (p := ⟨w.heap.size, 2, none⟩) (Nat.le_refl _) _⟩
          | false =>
            have HV : Hid (getV s = .tuple #[.agg #[.int .i64 0, .int .i64 0, .int .i64 0], .bool false]) := getV_no (HG.out.trans hok)
            have HB : Hid (Below w.heap.size w w2) := B3
            clear B3 hok
            go_wp2
            exact bodyPost_ret (v := .tuple #[.agg #[.int .i64 0, .int .i64 0, .int .i64 0], .bool false]) (by simp [results, Tryd.results11, go_sem, *]) rfl ⟨by rw [HV.out], ((HB.out.setCell (p := ⟨w.heap.size, 0, none⟩) (Nat.le_refl _) _).setCell (p := ⟨w.heap.size, 1, none⟩) (Nat.le_refl _) _).setCell (p := ⟨w.heap.size, 2, none⟩) (Nat.le_refl _) _⟩
      · have HV : Hid (getV s = .tuple #[.agg #[.int .i64 0, .int .i64 0, .int .i64 0], .bool false]) := getV_no (shp_no (by rw [B7.out]; omega))
        have e4 : ((s[4].toNat : Int) != 45) = false := by rw [h4]; rfl
        have e7 : ((s[7].toNat : Int) != 45) = true := by simpa using h7
        clear h4 h7
        go_enter Tryd.func11, Tryd.ntmps11
        go_wp2
        exact bodyPost_ret (v := .tuple #[.agg #[.int .i64 0, .int .i64 0, .int .i64 0], .bool false]) (by simp [results, Tryd.results11, go_sem]) rfl ⟨by rw [HV.out], hb0⟩
    · have HV : Hid (getV s = .tuple #[.agg #[.int .i64 0, .int .i64 0, .int .i64 0], .bool false]) := getV_no (shp_no (by rw [B4.out]; omega))
      have e4 : ((s[4].toNat : Int) != 45) = true := by simpa using h4
      clear h4
      go_enter Tryd.func11, Tryd.ntmps11
      go_wp2
      exact bodyPost_ret (v := .tuple #[.agg #[.int .i64 0, .int .i64 0, .int .i64 0], .bool false]) (by simp [results, Tryd.results11, go_sem]) rfl ⟨by rw [HV.out], hb0⟩
  · have HV : Hid (getV s = .tuple #[.agg #[.int .i64 0, .int .i64 0, .int .i64 0], .bool false]) := getV_no (shp_no (by omega))
    have e10 : ((s.size : Int) != 10) = true := by rw [bne_iff_ne]; omega
    clear h10
    go_enter Tryd.func11, Tryd.ntmps11
    go_wp2
    exact bodyPost_ret (v := .tuple #[.agg #[.int .i64 0, .int .i64 0, .int .i64 0], .bool false]) (by simp [results, Tryd.results11, go_sem]) rfl ⟨by rw [HV.out], hb0⟩
end Go.Proofs.YtbbbmdidmnhpmaaDoor
