/- Times read from texts. -/
import Derived.Test.YtbbbmdidmnhpmaaDoorTe
import Derived.Test.YtbbbmdidmnhpmaaDoorTf
namespace Go.Proofs.YtbbbmdidmnhpmaaDoor
open Go.RowKit
set_option linter.unusedVariables false
def th (s : ByteArray) : Int := fg (s.extract 11 13)
def tm (s : ByteArray) : Int := fg (s.extract 14 16)
/-- A text is that of a time. -/
def tgB (s : ByteArray) : Bool := decide (s.size = 16 ∧ bt s 10 = 84 ∧ bt s 13 = 58) && (getB (s.extract 0 10) && (inB (th s) 0 23 && inB (tm s) 0 59))
def tnum (s : ByteArray) : Int := num (gy (s.extract 0 10)) (gm (s.extract 0 10)) (gd (s.extract 0 10)) * 1440 + th s * 60 + tm s
def tgV (s : ByteArray) : Value := if tgB s = true then .tuple #[.int .i64 (tnum s), .bool true] else .tuple #[.int .i64 0, .bool false]
theorem tgV_no {s : ByteArray} (h : tgB s = false) : tgV s = .tuple #[.int .i64 0, .bool false] := if_neg (by rw [h]; exact Bool.false_ne_true)
theorem tgV_yes {s : ByteArray} (h : tgB s = true) : tgV s = .tuple #[.int .i64 (tnum s), .bool true] := if_pos h
theorem tg_shape {s : ByteArray} (h : ¬ (s.size = 16 ∧ bt s 10 = 84 ∧ bt s 13 = 58)) : tgB s = false := by unfold tgB; rw [decide_eq_false h, Bool.false_and]
theorem tg_get {s : ByteArray} (h : getB (s.extract 0 10) = false) : tgB s = false := by unfold tgB; rw [h, Bool.false_and, Bool.and_false]
theorem tg_h {s : ByteArray} (h : inB (th s) 0 23 = false) : tgB s = false := by unfold tgB; rw [h, Bool.false_and, Bool.and_false, Bool.and_false]
theorem tg_m {s : ByteArray} (h : inB (tm s) 0 59 = false) : tgB s = false := by unfold tgB; rw [h, Bool.and_false, Bool.and_false, Bool.and_false]
theorem tg_yes {s : ByteArray} (h : s.size = 16 ∧ bt s 10 = 84 ∧ bt s 13 = 58) (hg : getB (s.extract 0 10) = true) (hh : inB (th s) 0 23 = true) (hm : inB (tm s) 0 59 = true) : tgB s = true := by
  unfold tgB; rw [decide_eq_true h, hg, hh, hm]; rfl
theorem get_ok {s : ByteArray} (h : getB s = true) : okD (gy s) (gm s) (gd s) = true := by
  unfold getB at h; rw [Bool.and_eq_true] at h; exact h.2
set_option maxRecDepth 100000 in
set_option maxHeartbeats 8000000 in
theorem implTimeGet (s : ByteArray) (w : World) (hs : s.size ≤ 1048576) (ht : Tab w) : Calls Tryd.prog 18 #[.string s] w fun e w' => e = .returned (tgV s) ∧ Below w.heap.size w w' := by
  have HT : Hid (Tab w) := ht
  clear ht
  by_cases h16 : s.size = 16
  · have l4 : 10 < s.size := by omega
    have l7 : 13 < s.size := by omega
    have B4 : Hid (bt s 10 = (s[10].toNat : Int)) := bt_get l4
    have B7 : Hid (bt s 13 = (s[13].toNat : Int)) := bt_get l7
    have u4 : s[10].toNat ≤ 255 := by have := s[10].toNat_lt; omega
    have u7 : s[13].toNat ≤ 255 := by have := s[13].toNat_lt; omega
    by_cases h4 : (s[10].toNat : Int) = 84
    · by_cases h7 : (s[13].toNat : Int) = 58
      · have HS : Hid (s.size = 16 ∧ bt s 10 = 84 ∧ bt s 13 = 58) := ⟨h16, by rw [B4.out, h4], by rw [B7.out, h7]⟩
        have e4 : ((s[10].toNat : Int) != 84) = false := by rw [h4]; rfl
        have e7 : ((s[13].toNat : Int) != 58) = false := by rw [h7]; rfl
        have Z0 : Hid ((s.extract 0 10).size ≤ 1048576) := by unfold Hid; rw [ByteArray.size_extract]; omega
        have Z1 : Hid ((s.extract 11 13).size ≤ 9) := by unfold Hid; rw [ByteArray.size_extract]; omega
        have Z2 : Hid ((s.extract 14 16).size ≤ 9) := by unfold Hid; rw [ByteArray.size_extract]; omega
        clear h4 h7
        have TH : Hid (th s = fg (s.extract 11 13)) := rfl
        have TM : Hid (tm s = fg (s.extract 14 16)) := rfl
        cases hg : getB (s.extract 0 10) with
        | false =>
          have HV : Hid (getV (s.extract 0 10) = .tuple #[.agg #[.int .i64 0, .int .i64 0, .int .i64 0], .bool false]) := getV_no hg
          have HN : Hid (tgV s = .tuple #[.int .i64 0, .bool false]) := tgV_no (tg_get hg)
          clear hg
          go_enter Tryd.func18, Tryd.ntmps18
          go_wp2_with fail
          refine (implDateGet _ _ Z0.out HT.out).mono ?_
          rintro e w1 ⟨rfl, b1⟩
          rw [HV.out]
          have B := bstep b1 ((Below.refl w1.heap.size w1).alloc (Nat.le_refl _) (.cells #[.int .i64 0, .int .i64 0, .int .i64 0] 24))
          go_wp2
          go_quiet ((first | (go_at_call 29; exact Calls.quiet_of_same (implFigures _ _ (by first | exact Z1.out | exact Z2.out)))))
          go_wp2
          exact bodyPost_ret (v := .tuple #[.int .i64 0, .bool false]) (by simp [results, Tryd.results18, go_sem]) rfl ⟨by rw [HN.out], Below.drewN' B _⟩
        | true =>
          have HV : Hid (getV (s.extract 0 10) = .tuple #[.agg #[.int .i64 (gy (s.extract 0 10)), .int .i64 (gm (s.extract 0 10)), .int .i64 (gd (s.extract 0 10))], .bool true]) := getV_yes hg
          have OK : Hid (okD (gy (s.extract 0 10)) (gm (s.extract 0 10)) (gd (s.extract 0 10)) = true) := get_ok hg
          have HG : Hid (getB (s.extract 0 10) = true) := hg
          have TN : Hid (tnum s = num (gy (s.extract 0 10)) (gm (s.extract 0 10)) (gd (s.extract 0 10)) * 1440 + fg (s.extract 11 13) * 60 + fg (s.extract 14 16)) := rfl
          obtain ⟨nb0, nb1⟩ := num_bd OK.out
          clear hg
          generalize gy (s.extract 0 10) = y at HV OK TN nb0 nb1
          generalize gm (s.extract 0 10) = mo at HV OK TN nb0 nb1
          generalize gd (s.extract 0 10) = d at HV OK TN nb0 nb1
          go_enter Tryd.func18, Tryd.ntmps18
          go_wp2_with fail
          refine (implDateGet _ _ Z0.out HT.out).mono ?_
          rintro e w1 ⟨rfl, b1⟩
          rw [HV.out]
          have B := bstep b1 ((Below.refl w1.heap.size w1).alloc (Nat.le_refl _) (.cells #[.int .i64 y, .int .i64 mo, .int .i64 d] 24))
          have C := C3.new w1 (.int .i64 y) (.int .i64 mo) (.int .i64 d) 24
          go_wp2
          go_quiet ((first | (go_at_call 29; exact Calls.quiet_of_same (implFigures _ _ (by first | exact Z1.out | exact Z2.out)))))
          have GH : Hid (inB (fg (s.extract 11 13)) 0 23 = false → tgV s = .tuple #[.int .i64 0, .bool false]) := fun h => tgV_no (tg_h h)
          have GM : Hid (inB (fg (s.extract 14 16)) 0 59 = false → tgV s = .tuple #[.int .i64 0, .bool false]) := fun h => tgV_no (tg_m h)
          have GY : Hid (inB (fg (s.extract 11 13)) 0 23 = true → inB (fg (s.extract 14 16)) 0 59 = true → tgV s = .tuple #[.int .i64 (num y mo d * 1440 + fg (s.extract 11 13) * 60 + fg (s.extract 14 16)), .bool true]) := fun a b => by
            rw [tgV_yes (tg_yes HS.out HG.out a b), TN.out]
          generalize fg (s.extract 11 13) = hh at GH GM GY ⊢
          generalize fg (s.extract 14 16) = mm at GH GM GY ⊢
          by_cases a0 : hh < 0
          · have HN : Hid (tgV s = .tuple #[.int .i64 0, .bool false]) := GH.out (in_no (.inl a0))
            go_wp2
            exact bodyPost_ret (v := .tuple #[.int .i64 0, .bool false]) (by simp [results, Tryd.results18, go_sem]) rfl ⟨by rw [HN.out], Below.drewN' B _⟩
          · by_cases a1 : 23 < hh
            · have HN : Hid (tgV s = .tuple #[.int .i64 0, .bool false]) := GH.out (in_no (.inr a1))
              go_wp2
              exact bodyPost_ret (v := .tuple #[.int .i64 0, .bool false]) (by simp [results, Tryd.results18, go_sem]) rfl ⟨by rw [HN.out], Below.drewN' B _⟩
            · by_cases a2 : mm < 0
              · have HN : Hid (tgV s = .tuple #[.int .i64 0, .bool false]) := GM.out (in_no (.inl a2))
                go_wp2
                exact bodyPost_ret (v := .tuple #[.int .i64 0, .bool false]) (by simp [results, Tryd.results18, go_sem]) rfl ⟨by rw [HN.out], Below.drewN' B _⟩
              · by_cases a3 : 59 < mm
                · have HN : Hid (tgV s = .tuple #[.int .i64 0, .bool false]) := GM.out (in_no (.inr a3))
                  go_wp2
                  exact bodyPost_ret (v := .tuple #[.int .i64 0, .bool false]) (by simp [results, Tryd.results18, go_sem]) rfl ⟨by rw [HN.out], Below.drewN' B _⟩
                · have HN : Hid (tgV s = .tuple #[.int .i64 (num y mo d * 1440 + hh * 60 + mm), .bool true]) := GY.out (in_yes (by omega) (by omega)) (in_yes (by omega) (by omega))
                  have HD : Hid (dayOf y mo d = num y mo d) := by unfold Hid dayOf; rw [if_pos OK.out]
                  go_wp2_with fail
                  refine (implDayOf y mo d _ (HT.out.on (Below.drewN' B _))).mono ?_
                  rintro e w2 ⟨rfl, b2⟩
                  rw [HD.out]
                  have B2 := bstep (Below.drewN' B _) b2
                  clear B b1 b2 C
                  go_wp2
                  exact bodyPost_ret (v := .tuple #[.int .i64 (num y mo d * 1440 + hh * 60 + mm), .bool true]) (by simp [results, Tryd.results18, go_sem]) rfl ⟨by rw [HN.out], B2⟩
      · have HV : Hid (tgV s = .tuple #[.int .i64 0, .bool false]) := tgV_no (tg_shape (by rw [B7.out]; omega))
        have e4 : ((s[10].toNat : Int) != 84) = false := by rw [h4]; rfl
        have e7 : ((s[13].toNat : Int) != 58) = true := by simpa using h7
        clear h4 h7
        go_enter Tryd.func18, Tryd.ntmps18
        go_wp2
        exact bodyPost_ret (v := .tuple #[.int .i64 0, .bool false]) (by simp [results, Tryd.results18, go_sem]) rfl ⟨by rw [HV.out], Below.refl _ _⟩
    · have HV : Hid (tgV s = .tuple #[.int .i64 0, .bool false]) := tgV_no (tg_shape (by rw [B4.out]; omega))
      have e4 : ((s[10].toNat : Int) != 84) = true := by simpa using h4
      clear h4
      go_enter Tryd.func18, Tryd.ntmps18
      go_wp2
      exact bodyPost_ret (v := .tuple #[.int .i64 0, .bool false]) (by simp [results, Tryd.results18, go_sem]) rfl ⟨by rw [HV.out], Below.refl _ _⟩
  · have HV : Hid (tgV s = .tuple #[.int .i64 0, .bool false]) := tgV_no (tg_shape (by omega))
    have e16 : ((s.size : Int) != 16) = true := by rw [bne_iff_ne]; omega
    clear h16
    go_enter Tryd.func18, Tryd.ntmps18
    go_wp2
    exact bodyPost_ret (v := .tuple #[.int .i64 0, .bool false]) (by simp [results, Tryd.results18, go_sem]) rfl ⟨by rw [HV.out], Below.refl _ _⟩
set_option maxRecDepth 100000 in
set_option maxHeartbeats 8000000 in
theorem specTimeGet (s : ByteArray) (w : World) (hs : s.size ≤ 1048576) : Calls Tryd.prog 21 #[.string s] w fun e w' => e = .returned (tgV s) ∧ Below w.heap.size w w' := by
  by_cases h16 : s.size = 16
  · have l4 : 10 < s.size := by omega
    have l7 : 13 < s.size := by omega
    have B4 : Hid (bt s 10 = (s[10].toNat : Int)) := bt_get l4
    have B7 : Hid (bt s 13 = (s[13].toNat : Int)) := bt_get l7
    have u4 : s[10].toNat ≤ 255 := by have := s[10].toNat_lt; omega
    have u7 : s[13].toNat ≤ 255 := by have := s[13].toNat_lt; omega
    by_cases h4 : (s[10].toNat : Int) = 84
    · by_cases h7 : (s[13].toNat : Int) = 58
      · have HS : Hid (s.size = 16 ∧ bt s 10 = 84 ∧ bt s 13 = 58) := ⟨h16, by rw [B4.out, h4], by rw [B7.out, h7]⟩
        have e4 : ((s[10].toNat : Int) != 84) = false := by rw [h4]; rfl
        have e7 : ((s[13].toNat : Int) != 58) = false := by rw [h7]; rfl
        have Z0 : Hid ((s.extract 0 10).size ≤ 1048576) := by unfold Hid; rw [ByteArray.size_extract]; omega
        have Z1 : Hid (1 ≤ (s.extract 11 13).size ∧ (s.extract 11 13).size ≤ 9) := by unfold Hid; rw [ByteArray.size_extract]; omega
        have Z2 : Hid (1 ≤ (s.extract 14 16).size ∧ (s.extract 14 16).size ≤ 9) := by unfold Hid; rw [ByteArray.size_extract]; omega
        clear h4 h7
        have TH : Hid (th s = fg (s.extract 11 13)) := rfl
        have TM : Hid (tm s = fg (s.extract 14 16)) := rfl
        cases hg : getB (s.extract 0 10) with
        | false =>
          have HV : Hid (getV (s.extract 0 10) = .tuple #[.agg #[.int .i64 0, .int .i64 0, .int .i64 0], .bool false]) := getV_no hg
          have HN : Hid (tgV s = .tuple #[.int .i64 0, .bool false]) := tgV_no (tg_get hg)
          clear hg
          go_enter Tryd.func21, Tryd.ntmps21
          go_wp2_with fail
          refine (specDateGet _ _ Z0.out).mono ?_
          rintro e w1 ⟨rfl, b1⟩
          rw [HV.out]
          have B := bstep b1 ((Below.refl w1.heap.size w1).alloc (Nat.le_refl _) (.cells #[.int .i64 0, .int .i64 0, .int .i64 0] 24))
          go_wp2_with fail
          refine (specNum _ _ Z1.out.1 Z1.out.2).mono ?_
          rintro e w' ⟨rfl, rfl⟩
          go_wp2_with fail
          refine (specNum _ _ Z2.out.1 Z2.out.2).mono ?_
          rintro e w' ⟨rfl, rfl⟩
          go_wp2
          exact bodyPost_ret (v := .tuple #[.int .i64 0, .bool false]) (by simp [results, Tryd.results21, go_sem]) rfl ⟨by rw [HN.out], B⟩
        | true =>
          have HV : Hid (getV (s.extract 0 10) = .tuple #[.agg #[.int .i64 (gy (s.extract 0 10)), .int .i64 (gm (s.extract 0 10)), .int .i64 (gd (s.extract 0 10))], .bool true]) := getV_yes hg
          have OK : Hid (okD (gy (s.extract 0 10)) (gm (s.extract 0 10)) (gd (s.extract 0 10)) = true) := get_ok hg
          have HG : Hid (getB (s.extract 0 10) = true) := hg
          have TN : Hid (tnum s = num (gy (s.extract 0 10)) (gm (s.extract 0 10)) (gd (s.extract 0 10)) * 1440 + fg (s.extract 11 13) * 60 + fg (s.extract 14 16)) := rfl
          obtain ⟨nb0, nb1⟩ := num_bd OK.out
          clear hg
          generalize gy (s.extract 0 10) = y at HV OK TN nb0 nb1
          generalize gm (s.extract 0 10) = mo at HV OK TN nb0 nb1
          generalize gd (s.extract 0 10) = d at HV OK TN nb0 nb1
          go_enter Tryd.func21, Tryd.ntmps21
          go_wp2_with fail
          refine (specDateGet _ _ Z0.out).mono ?_
          rintro e w1 ⟨rfl, b1⟩
          rw [HV.out]
          have B := bstep b1 ((Below.refl w1.heap.size w1).alloc (Nat.le_refl _) (.cells #[.int .i64 y, .int .i64 mo, .int .i64 d] 24))
          have C := C3.new w1 (.int .i64 y) (.int .i64 mo) (.int .i64 d) 24
          go_wp2_with fail
          refine (specNum _ _ Z1.out.1 Z1.out.2).mono ?_
          rintro e w' ⟨rfl, rfl⟩
          go_wp2_with fail
          refine (specNum _ _ Z2.out.1 Z2.out.2).mono ?_
          rintro e w' ⟨rfl, rfl⟩
          have GH : Hid (inB (fg (s.extract 11 13)) 0 23 = false → tgV s = .tuple #[.int .i64 0, .bool false]) := fun h => tgV_no (tg_h h)
          have GM : Hid (inB (fg (s.extract 14 16)) 0 59 = false → tgV s = .tuple #[.int .i64 0, .bool false]) := fun h => tgV_no (tg_m h)
          have GY : Hid (inB (fg (s.extract 11 13)) 0 23 = true → inB (fg (s.extract 14 16)) 0 59 = true → tgV s = .tuple #[.int .i64 (num y mo d * 1440 + fg (s.extract 11 13) * 60 + fg (s.extract 14 16)), .bool true]) := fun a b => by
            rw [tgV_yes (tg_yes HS.out HG.out a b), TN.out]
          generalize fg (s.extract 11 13) = hh at GH GM GY ⊢
          generalize fg (s.extract 14 16) = mm at GH GM GY ⊢
          cases vh : inB hh 0 23 with
          | false =>
            have HN : Hid (tgV s = .tuple #[.int .i64 0, .bool false]) := GH.out vh
            go_wp2_with (go_at_call 32; refine (specIn _ _ _ _).mono ?_; rintro e w' ⟨rfl, rfl⟩; rw [vh])
            exact bodyPost_ret (v := .tuple #[.int .i64 0, .bool false]) (by simp [results, Tryd.results21, go_sem]) rfl ⟨by rw [HN.out], B⟩
          | true =>
            cases vm : inB mm 0 59 with
            | false =>
              have HN : Hid (tgV s = .tuple #[.int .i64 0, .bool false]) := GM.out vm
              go_wp2_with (go_at_call 32; refine (specIn _ _ _ _).mono ?_; rintro e w' ⟨rfl, rfl⟩; first | rw [vh] | rw [vm])
              exact bodyPost_ret (v := .tuple #[.int .i64 0, .bool false]) (by simp [results, Tryd.results21, go_sem]) rfl ⟨by rw [HN.out], B⟩
            | true =>
              have HN : Hid (tgV s = .tuple #[.int .i64 (num y mo d * 1440 + hh * 60 + mm), .bool true]) := GY.out vh vm
              have ih := (in_iff _ _ _).1 vh
              have im := (in_iff _ _ _).1 vm
              obtain ⟨q0, q1, q2, q3, q4, q5⟩ := (okD_iff _ _ _).1 OK.out
              have q6 := dim_bd y mo
              go_wp2_with (first | (go_at_call 32; refine (specIn _ _ _ _).mono ?_; rintro e w' ⟨rfl, rfl⟩; first | rw [vh] | rw [vm]))
              refine (specDay y mo d _ q0 q1 q2 q3 (by omega) (by omega)).mono ?_
              rintro e w2 ⟨rfl, rfl⟩
              have B2 := B.alloc B.size (.cells #[.int .i64 y, .int .i64 mo, .int .i64 d] 24)
              clear q6 q5
              go_wp2
              exact bodyPost_ret (v := .tuple #[.int .i64 (num y mo d * 1440 + hh * 60 + mm), .bool true]) (by simp [results, Tryd.results21, go_sem]) rfl ⟨by rw [HN.out], B2⟩
      · have HV : Hid (tgV s = .tuple #[.int .i64 0, .bool false]) := tgV_no (tg_shape (by rw [B7.out]; omega))
        have e4 : ((s[10].toNat : Int) != 84) = false := by rw [h4]; rfl
        have e7 : ((s[13].toNat : Int) != 58) = true := by simpa using h7
        clear h4 h7
        go_enter Tryd.func21, Tryd.ntmps21
        go_wp2
        exact bodyPost_ret (v := .tuple #[.int .i64 0, .bool false]) (by simp [results, Tryd.results21, go_sem]) rfl ⟨by rw [HV.out], Below.refl _ _⟩
    · have HV : Hid (tgV s = .tuple #[.int .i64 0, .bool false]) := tgV_no (tg_shape (by rw [B4.out]; omega))
      have e4 : ((s[10].toNat : Int) != 84) = true := by simpa using h4
      clear h4
      go_enter Tryd.func21, Tryd.ntmps21
      go_wp2
      exact bodyPost_ret (v := .tuple #[.int .i64 0, .bool false]) (by simp [results, Tryd.results21, go_sem]) rfl ⟨by rw [HV.out], Below.refl _ _⟩
  · have HV : Hid (tgV s = .tuple #[.int .i64 0, .bool false]) := tgV_no (tg_shape (by omega))
    have e16 : ((s.size : Int) != 16) = true := by rw [bne_iff_ne]; omega
    clear h16
    go_enter Tryd.func21, Tryd.ntmps21
    go_wp2
    exact bodyPost_ret (v := .tuple #[.int .i64 0, .bool false]) (by simp [results, Tryd.results21, go_sem]) rfl ⟨by rw [HV.out], Below.refl _ _⟩
end Go.Proofs.YtbbbmdidmnhpmaaDoor
