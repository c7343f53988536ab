/- FnExactDateGet: the law's own walk. -/
import Derived.Test.YtbbbmdidmnhpmaaDoorTe
import Derived.Test.YtbbbmdidmnhpmaaDoorTf
import Derived.Test.YtbbbmdidmnhpmaaDoorExD
namespace Go.Proofs.YtbbbmdidmnhpmaaDoor
open Go.RowKit
set_option linter.unusedVariables false
theorem getV_form (s : ByteArray) : ∃ (y m d : Int) (r : Bool), getV s = .tuple #[.agg #[.int .i64 y, .int .i64 m, .int .i64 d], .bool r] := by
  cases h : getB s with
  | true => exact ⟨_, _, _, _, getV_yes h⟩
  | false => exact ⟨_, _, _, _, getV_no h⟩
set_option maxHeartbeats 4000000 in
theorem lawExDateGet (s : ByteArray) (w : World) (hs : s.size ≤ maxLen) (ht : Tab w) :
    Calls Tryd.prog 6 #[.string s] w fun e w' => e = .returned (.bool true) ∧ Below w.heap.size w w' := by
  unfold maxLen at hs
  by_cases hb : s.size ≤ 1048576
  · obtain ⟨y, m, d, r, hv⟩ := getV_form s
    have HV : Hid (getV s = .tuple #[.agg #[.int .i64 y, .int .i64 m, .int .i64 d], .bool r]) := hv
    have HT : Hid (Tab w) := ht
    clear hv ht
    go_enter Tryd.func6, Tryd.ntmps6
    go_wp2_with fail
    refine (specDateGet s _ hb).mono ?_
    rintro e w1 ⟨rfl, b1⟩
    rw [HV.out]
    have b2 := bstep b1 ((Below.refl w1.heap.size w1).alloc (Nat.le_refl _) (.cells #[.int .i64 y, .int .i64 m, .int .i64 d] 24))
    have C := C3.new w1 (.int .i64 y) (.int .i64 m) (.int .i64 d) 24
    go_wp2_with fail
    generalize w1.alloc (.cells #[.int .i64 y, .int .i64 m, .int .i64 d] 24) = W1 at b2 C ⊢
    refine (implDateGet s _ hb (HT.out.on b2)).mono ?_
    rintro e w2 ⟨rfl, b3⟩
    rw [HV.out]
    have b4 := (Below.refl w2.heap.size w2).alloc (Nat.le_refl _) (.cells #[.int .i64 y, .int .i64 m, .int .i64 d] 24)
    have D := C3.new w2 (.int .i64 y) (.int .i64 m) (.int .i64 d) 24
    obtain ⟨c0, c1, c2⟩ := (C.on b3).on b4
    have B := bstep b2 (bstep b3 b4)
    obtain ⟨d0, d1, d2⟩ := D
    clear C b1 b2 b3 b4
    go_wp2_with fail
    generalize w2.alloc (.cells #[.int .i64 y, .int .i64 m, .int .i64 d] 24) = W2 at B c0 c1 c2 d0 d1 d2 ⊢
    refine (lawEqDate y m d _).mono ?_
    rintro e w3 ⟨rfl, b5⟩
    have B5 := bstep B b5
    clear c0 c1 c2 d0 d1 d2 B b5
    cases r <;> (go_wp2; go_ret; exact ⟨rfl, B5⟩)
  · have hb1 : (1048576 : Int) < (s.size : Int) := by omega
    go_enter Tryd.func6, Tryd.ntmps6
    go_wp2
    go_ret
    exact ⟨rfl, Below.refl _ _⟩
end Go.Proofs.YtbbbmdidmnhpmaaDoor
