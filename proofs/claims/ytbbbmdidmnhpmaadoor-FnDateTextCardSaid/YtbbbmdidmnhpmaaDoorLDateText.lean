/- FnDateText: the law's own walk. -/
import Derived.Test.YtbbbmdidmnhpmaaDoorDt
import Derived.Test.YtbbbmdidmnhpmaaDoorTu
import Derived.Test.YtbbbmdidmnhpmaaDoorTe
import Derived.Test.YtbbbmdidmnhpmaaDoorTf
import Derived.Test.YtbbbmdidmnhpmaaDoorDEq
import Derived.Test.YtbbbmdidmnhpmaaDoorLExDateText
namespace Go.Proofs.YtbbbmdidmnhpmaaDoor
open Go.RowKit
set_option linter.unusedVariables false
/-- What both programs answer of a date, and what is read of it. -/
theorem dateText_both (y m d : Int) : ∃ T : ByteArray, T.size ≤ 10 ∧ (∀ w0 : World, Calls Tryd.prog 12 #[.agg #[.int .i64 y, .int .i64 m, .int .i64 d]] w0 fun e w' => e = .returned (.string T) ∧ Below w0.heap.size w0 w') ∧ (∀ w0 : World, Tab w0 → Pow w0 → Calls Tryd.prog 10 #[.agg #[.int .i64 y, .int .i64 m, .int .i64 d]] w0 fun e w' => e = .returned (.string T) ∧ Below w0.heap.size w0 w') ∧
    ((okD y m d = true ∧ getV T = .tuple #[.agg #[.int .i64 y, .int .i64 m, .int .i64 d], .bool true]) ∨ (okD y m d = false ∧ getV T = .tuple #[.agg #[.int .i64 0, .int .i64 0, .int .i64 0], .bool false])) := by
  cases ok : okD y m d with
  | true =>
    obtain ⟨a, b, c, rfl, rfl, rfl, ha, hb, hc⟩ := okD_nat ok
    obtain ⟨g1, g2, g3, g4⟩ := dateT_get ha hb hc ok
    exact ⟨_, Nat.le_of_eq (dateT_size ha hb hc), fun w0 => specDateText_yes a b c w0 ok ha hb hc, fun w0 t p => implDateText_yes a b c w0 ok ha hb hc t p, .inl ⟨rfl, by rw [getV_yes g1, g2, g3, g4]⟩⟩
  | false => exact ⟨_, by simp, fun w0 => specDateText_no y m d w0 ok, fun w0 t p => implDateText_no y m d w0 ok t, .inr ⟨rfl, getV_no getB_empty⟩⟩
/-- What is read of a text, and the text of what is read. -/
theorem dateGet_both (s : ByteArray) : ∃ (y m d : Int) (r : Bool), getV s = .tuple #[.agg #[.int .i64 y, .int .i64 m, .int .i64 d], .bool r] ∧ (r = true → ∀ w0 : World, Tab w0 → Pow w0 → Calls Tryd.prog 10 #[.agg #[.int .i64 y, .int .i64 m, .int .i64 d]] w0 fun e w' => e = .returned (.string s) ∧ Below w0.heap.size w0 w') := by
  cases h : getB s with
  | true =>
    obtain ⟨y, m, d, ey, em, ed, hy, hm, hd, ok, e⟩ := get_dateT h
    refine ⟨y, m, d, true, by rw [getV_yes h, ey, em, ed], fun _ w0 t p => ?_⟩
    have := implDateText_yes y m d w0 ok hy hm hd t p
    rw [e] at this
    exact this
  | false => exact ⟨0, 0, 0, false, getV_no h, fun h => by cases h⟩
set_option maxRecDepth 100000 in
set_option maxHeartbeats 8000000 in
theorem lawDateText (a : Option Addr) (len cap : Nat) (a' : Option Addr) (len' cap' : Nat) (w : World) (h : IsCode w a len cap) (h' : IsCode w a' len' cap') (ht : Tab w) (hP : Pow w) :
    Calls Tryd.prog 3 #[.slice a len cap, .slice a' len' cap'] w fun e w' => e = .returned (.bool true) ∧ Below w.heap.size w w' := by
  have HT : Hid (Tab w) := ht
  have HP : Hid (Pow w) := hP
  have HC : Hid (IsCode w a' len' cap') := h'
  clear ht hP h'
  by_cases l1 : len ≤ 1048576
  · by_cases l2 : len' ≤ 1048576
    · go_enter Tryd.func3, Tryd.ntmps3
      go_wp2_with fail
      refine (drawDateText _ a len cap h).mono ?_
      rintro e w1 ⟨⟨y, m, d, rfl, bd⟩, B1⟩
      clear bd h
      obtain ⟨T, tz, hS, hI, hG⟩ := dateText_both y m d
      have HS : Hid (∀ w0 : World, Calls Tryd.prog 12 #[.agg #[.int .i64 y, .int .i64 m, .int .i64 d]] w0 fun e w' => e = .returned (.string T) ∧ Below w0.heap.size w0 w') := hS
      have K1 := C3.new w1 (.int .i64 y) (.int .i64 m) (.int .i64 d) 24
      have b1 := (Below.refl w1.heap.size w1).alloc (Nat.le_refl _) (.cells #[.int .i64 y, .int .i64 m, .int .i64 d] 24)
      have B2 := bstep B1 b1
      clear hS b1
      go_wp2_with fail
      generalize w1.alloc (.cells #[.int .i64 y, .int .i64 m, .int .i64 d] 24) = W1 at B2 K1 ⊢
      refine (hI _ (HT.out.on B2) (HP.out.on B2)).mono ?_
      rintro e w3 ⟨rfl, b3⟩
      have B3 := bstep B2 b3
      have K3 := K1.on b3
      clear hI b3 B2 K1
      go_wp2_with fail
      refine (implDateGet T _ (by omega) (HT.out.on B3)).mono ?_
      rintro e w4 ⟨rfl, b4⟩
      have B4 := bstep B3 b4
      have K4 := K3.on b4
      clear b4 B3 K3
      have M : ∀ (p q r : Int), (C3 (w4.alloc (.cells #[.int .i64 p, .int .i64 q, .int .i64 r] 24)) w1.heap.size (.int .i64 y) (.int .i64 m) (.int .i64 d) ∧ C3 (w4.alloc (.cells #[.int .i64 p, .int .i64 q, .int .i64 r] 24)) w4.heap.size (.int .i64 p) (.int .i64 q) (.int .i64 r)) ∧ Below w.heap.size w (w4.alloc (.cells #[.int .i64 p, .int .i64 q, .int .i64 r] 24)) := fun p q r =>
        have b5 := (Below.refl w4.heap.size w4).alloc (Nat.le_refl _) (.cells #[.int .i64 p, .int .i64 q, .int .i64 r] 24)
        ⟨⟨K4.on b5, C3.new w4 _ _ _ _⟩, bstep B4 b5⟩
      clear B4 K4
      rcases hG with ⟨ok, hv⟩ | ⟨ok, hv⟩
      · rw [hv]
        have HO : Hid (okD y m d = true) := ok
        obtain ⟨⟨KD, KX⟩, B5⟩ := M y m d
        have HD : Hid (C3 (w4.alloc (.cells #[.int .i64 y, .int .i64 m, .int .i64 d] 24)) w1.heap.size (.int .i64 y) (.int .i64 m) (.int .i64 d)) := KD
        have HX : Hid (C3 (w4.alloc (.cells #[.int .i64 y, .int .i64 m, .int .i64 d] 24)) w4.heap.size (.int .i64 y) (.int .i64 m) (.int .i64 d)) := KX
        obtain ⟨c0, c1, c2⟩ := KD
        obtain ⟨x0, x1, x2⟩ := KX
        clear hv ok M
        go_wp2_with fail
        refine (HS.out _).mono ?_
        rintro e w5 ⟨rfl, b5⟩
        have B5' := bstep B5 b5
        have KD5 := HD.out.on b5
        have KX5 := HX.out.on b5
        clear c0 c1 c2 x0 x1 x2 B5 HD HX b5
        obtain ⟨c0, c1, c2⟩ := KD5
        obtain ⟨x0, x1, x2⟩ := KX5
        have HD : Hid (C3 w5 w1.heap.size (.int .i64 y) (.int .i64 m) (.int .i64 d)) := ⟨c0, c1, c2⟩
        have HX : Hid (C3 w5 w4.heap.size (.int .i64 y) (.int .i64 m) (.int .i64 d)) := ⟨x0, x1, x2⟩
        go_wp2_with fail
        refine (specDateOk y m d _).mono ?_
        rintro e w6 ⟨rfl, b6⟩
        rw [HO.out]
        have B6 := bstep B5' b6
        have KD6 := HD.out.on b6
        have KX6 := HX.out.on b6
        clear c0 c1 c2 x0 x1 x2 B5' HD HX b6
        obtain ⟨c0, c1, c2⟩ := KD6
        obtain ⟨x0, x1, x2⟩ := KX6
        go_wp2_with fail
        refine (drawDateGet _ a' len' cap' (HC.out.below B6)).mono ?_
        rintro e w7 ⟨⟨s, rfl, sz⟩, b7⟩
        have B7 := bstep B6 b7
        obtain ⟨p, q, r, f, hgs, hgt⟩ := dateGet_both s
        have HGS : Hid (getV s = .tuple #[.agg #[.int .i64 p, .int .i64 q, .int .i64 r], .bool f]) := hgs
        have HGT : Hid (f = true → ∀ w0 : World, Tab w0 → Pow w0 → Calls Tryd.prog 10 #[.agg #[.int .i64 p, .int .i64 q, .int .i64 r]] w0 fun e w' => e = .returned (.string s) ∧ Below w0.heap.size w0 w') := hgt
        clear b7 B6 hgs hgt
        go_wp2_with fail
        refine (implDateGet s _ (by omega) (HT.out.on B7)).mono ?_
        rintro e w8 ⟨rfl, b8⟩
        have B8 := bstep B7 b8
        rw [HGS.out]
        have K8 := C3.new w8 (.int .i64 p) (.int .i64 q) (.int .i64 r) 24
        have b8' := (Below.refl w8.heap.size w8).alloc (Nat.le_refl _) (.cells #[.int .i64 p, .int .i64 q, .int .i64 r] 24)
        have B8' := bstep B8 b8'
        clear b8 B7 b8' B8
        go_wp2_with fail
        generalize w8.alloc (.cells #[.int .i64 p, .int .i64 q, .int .i64 r] 24) = W8 at K8 B8' ⊢
        refine (specDateGet s _ (by omega)).mono ?_
        rintro e w9 ⟨rfl, b9⟩
        rw [HGS.out]
        have K9 := C3.new w9 (.int .i64 p) (.int .i64 q) (.int .i64 r) 24
        have b9' := (Below.refl w9.heap.size w9).alloc (Nat.le_refl _) (.cells #[.int .i64 p, .int .i64 q, .int .i64 r] 24)
        have B9 := bstep (bstep B8' b9) b9'
        have K8' := (K8.on b9).on b9'
        obtain ⟨c0, c1, c2⟩ := K8'
        obtain ⟨x0, x1, x2⟩ := K9
        clear b9 b9' B8' K8
        cases f with
        | true =>
          go_wp2_with fail
          refine (HGT.out (by trivial) _ (HT.out.on B9) (HP.out.on B9)).mono ?_
          rintro e w10 ⟨rfl, b10⟩
          have B10 := bstep B9 b10
          go_wp2
          go_ret
          exact ⟨rfl, B10⟩
        | false =>
          go_wp2
          go_ret
          exact ⟨rfl, B9⟩
      · rw [hv]
        have HO : Hid (okD y m d = false) := ok
        obtain ⟨⟨KD, KX⟩, B5⟩ := M 0 0 0
        have HD : Hid (C3 (w4.alloc (.cells #[.int .i64 0, .int .i64 0, .int .i64 0] 24)) w1.heap.size (.int .i64 y) (.int .i64 m) (.int .i64 d)) := KD
        obtain ⟨c0, c1, c2⟩ := KD
        clear hv ok M KX
        go_wp2_with fail
        refine (HS.out _).mono ?_
        rintro e w5 ⟨rfl, b5⟩
        have B5' := bstep B5 b5
        have KD5 := HD.out.on b5
        clear c0 c1 c2 B5 HD b5
        obtain ⟨c0, c1, c2⟩ := KD5
        go_wp2_with fail
        refine (specDateOk y m d _).mono ?_
        rintro e w6 ⟨rfl, b6⟩
        rw [HO.out]
        have B6 := bstep B5' b6
        clear c0 c1 c2 B5' b6
        go_wp2_with fail
        refine (drawDateGet _ a' len' cap' (HC.out.below B6)).mono ?_
        rintro e w7 ⟨⟨s, rfl, sz⟩, b7⟩
        have B7 := bstep B6 b7
        obtain ⟨p, q, r, f, hgs, hgt⟩ := dateGet_both s
        have HGS : Hid (getV s = .tuple #[.agg #[.int .i64 p, .int .i64 q, .int .i64 r], .bool f]) := hgs
        have HGT : Hid (f = true → ∀ w0 : World, Tab w0 → Pow w0 → Calls Tryd.prog 10 #[.agg #[.int .i64 p, .int .i64 q, .int .i64 r]] w0 fun e w' => e = .returned (.string s) ∧ Below w0.heap.size w0 w') := hgt
        clear b7 B6 hgs hgt
        go_wp2_with fail
        refine (implDateGet s _ (by omega) (HT.out.on B7)).mono ?_
        rintro e w8 ⟨rfl, b8⟩
        have B8 := bstep B7 b8
        rw [HGS.out]
        have K8 := C3.new w8 (.int .i64 p) (.int .i64 q) (.int .i64 r) 24
        have b8' := (Below.refl w8.heap.size w8).alloc (Nat.le_refl _) (.cells #[.int .i64 p, .int .i64 q, .int .i64 r] 24)
        have B8' := bstep B8 b8'
        clear b8 B7 b8' B8
        go_wp2_with fail
        generalize w8.alloc (.cells #[.int .i64 p, .int .i64 q, .int .i64 r] 24) = W8 at K8 B8' ⊢
        refine (specDateGet s _ (by omega)).mono ?_
        rintro e w9 ⟨rfl, b9⟩
        rw [HGS.out]
        have K9 := C3.new w9 (.int .i64 p) (.int .i64 q) (.int .i64 r) 24
        have b9' := (Below.refl w9.heap.size w9).alloc (Nat.le_refl _) (.cells #[.int .i64 p, .int .i64 q, .int .i64 r] 24)
        have B9 := bstep (bstep B8' b9) b9'
        have K8' := (K8.on b9).on b9'
        obtain ⟨c0, c1, c2⟩ := K8'
        obtain ⟨x0, x1, x2⟩ := K9
        clear b9 b9' B8' K8
        cases f with
        | true =>
          go_wp2_with fail
          refine (HGT.out (by trivial) _ (HT.out.on B9) (HP.out.on B9)).mono ?_
          rintro e w10 ⟨rfl, b10⟩
          have B10 := bstep B9 b10
          go_wp2
          go_ret
          exact ⟨rfl, B10⟩
        | false =>
          go_wp2
          go_ret
          exact ⟨rfl, B9⟩
    · have l3 : (1048576 : Int) < (len' : Int) := by omega
      go_enter Tryd.func3, Tryd.ntmps3
      go_wp2
      go_ret
      exact ⟨rfl, Below.refl _ _⟩
  · have l3 : (1048576 : Int) < (len : Int) := by omega
    go_enter Tryd.func3, Tryd.ntmps3
    go_wp2
    go_ret
    exact ⟨rfl, Below.refl _ _⟩
end Go.Proofs.YtbbbmdidmnhpmaaDoor
