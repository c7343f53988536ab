/- FnTimeText: the law's own walk. -/
import Derived.Test.YtbbbmdidmnhpmaaDoorDu
namespace Go.Proofs.YtbbbmdidmnhpmaaDoor
open Go.RowKit
set_option linter.unusedVariables false
set_option maxRecDepth 100000 in
set_option maxHeartbeats 8000000 in
theorem lawTimeText (a : Option Addr) (len cap : Nat) (a' : Option Addr) (len' cap' : Nat) (w : World) (h : IsCode w a len cap) (h' : IsCode w a' len' cap') (ht : Tab w) (hP : Pow w) :
    Calls Tryd.prog 4 #[.slice a len cap, .slice a' len' cap'] w fun e w' => e = .returned (.bool true) ∧ Below w.heap.size w w' := by
  have HT : Hid (Tab w) := ht
  have HP : Hid (Pow w) := hP
  have HC : Hid (IsCode w a' len' cap') := h'
  clear ht hP h'
  by_cases l1 : len ≤ 1048576
  · by_cases l2 : len' ≤ 1048576
    · go_enter Tryd.func4, Tryd.ntmps4
      go_wp2_with fail
      refine (drawTimeText _ a len cap h).mono ?_
      rintro e w1 ⟨⟨n, rfl, n0, n1⟩, B1⟩
      clear h
      obtain ⟨T, tz, hS, hI, hG⟩ := timeText_all n
      have HS : Hid (∀ w0 : World, Calls Tryd.prog 19 #[.int .i64 n] w0 fun e w' => e = .returned (.string T) ∧ Below w0.heap.size w0 w') := hS
      clear hS
      go_wp2_with fail
      refine (hI _ (HT.out.on B1) (HP.out.on B1)).mono ?_
      rintro e w3 ⟨rfl, b3⟩
      have B3 := bstep B1 b3
      clear hI b3 B1
      go_wp2_with fail
      refine (implTimeGet T _ (by omega) (HT.out.on B3)).mono ?_
      rintro e w4 ⟨rfl, b4⟩
      have B4 := bstep B3 b4
      clear b4 B3
      rcases hG with ⟨ok, hv⟩ | ⟨ok, hv⟩
      · rw [hv]
        obtain ⟨q0, q1⟩ := (ti_iff n).1 ok
        clear hv ok
        go_wp2_with fail
        refine (HS.out _).mono ?_
        rintro e w5 ⟨rfl, b5⟩
        have B6 := bstep B4 b5
        clear b5 B4
        go_wp2_with fail
        refine (drawTimeGet _ a' len' cap' (HC.out.below B6)).mono ?_
        rintro e w7 ⟨⟨s, rfl, sz⟩, b7⟩
        have B7 := bstep B6 b7
        obtain ⟨p, f, hgs, hgt⟩ := timeGet_all s
        have HGS : Hid (tgV s = .tuple #[.int .i64 p, .bool f]) := hgs
        have HGT : Hid (f = true → ∀ w0 : World, Tab w0 → Pow w0 → Calls Tryd.prog 17 #[.int .i64 p] w0 fun e w' => e = .returned (.string s) ∧ Below w0.heap.size w0 w') := hgt
        clear b7 B6 hgs hgt
        go_wp2_with fail
        refine (implTimeGet s _ (by omega) (HT.out.on B7)).mono ?_
        rintro e w8 ⟨rfl, b8⟩
        have B8 := bstep B7 b8
        rw [HGS.out]
        clear b8 B7
        go_wp2_with fail
        refine (specTimeGet s _ (by omega)).mono ?_
        rintro e w9 ⟨rfl, b9⟩
        rw [HGS.out]
        have B9 := bstep B8 b9
        clear b9 B8
        cases f with
        | true =>
          go_wp2_with fail
          refine (HGT.out (by trivial) _ (HT.out.on B9) (HP.out.on B9)).mono ?_
          rintro e w10 ⟨rfl, b10⟩
          have B10 := bstep B9 b10
          go_wp2
          go_ret
          exact ⟨rfl, B10⟩
        | false =>
          go_wp2
          go_ret
          exact ⟨rfl, B9⟩
      · rw [hv]
        have q := (ti_not n).1 ok
        clear hv ok
        go_wp2_with fail
        refine (HS.out _).mono ?_
        rintro e w5 ⟨rfl, b5⟩
        have B6 := bstep B4 b5
        clear b5 B4
        by_cases q0 : 0 ≤ n
        · have q1 : 5258964959 < n := by omega
          go_wp2_with fail
          refine (drawTimeGet _ a' len' cap' (HC.out.below B6)).mono ?_
          rintro e w7 ⟨⟨s, rfl, sz⟩, b7⟩
          have B7 := bstep B6 b7
          obtain ⟨p, f, hgs, hgt⟩ := timeGet_all s
          have HGS : Hid (tgV s = .tuple #[.int .i64 p, .bool f]) := hgs
          have HGT : Hid (f = true → ∀ w0 : World, Tab w0 → Pow w0 → Calls Tryd.prog 17 #[.int .i64 p] w0 fun e w' => e = .returned (.string s) ∧ Below w0.heap.size w0 w') := hgt
          clear b7 B6 hgs hgt
          go_wp2_with fail
          refine (implTimeGet s _ (by omega) (HT.out.on B7)).mono ?_
          rintro e w8 ⟨rfl, b8⟩
          have B8 := bstep B7 b8
          rw [HGS.out]
          clear b8 B7
          go_wp2_with fail
          refine (specTimeGet s _ (by omega)).mono ?_
          rintro e w9 ⟨rfl, b9⟩
          rw [HGS.out]
          have B9 := bstep B8 b9
          clear b9 B8
          cases f with
          | true =>
            go_wp2_with fail
            refine (HGT.out (by trivial) _ (HT.out.on B9) (HP.out.on B9)).mono ?_
            rintro e w10 ⟨rfl, b10⟩
            have B10 := bstep B9 b10
            go_wp2
            go_ret
            exact ⟨rfl, B10⟩
          | false =>
            go_wp2
            go_ret
            exact ⟨rfl, B9⟩
        · have q1 : n < 0 := by omega
          go_wp2_with fail
          refine (drawTimeGet _ a' len' cap' (HC.out.below B6)).mono ?_
          rintro e w7 ⟨⟨s, rfl, sz⟩, b7⟩
          have B7 := bstep B6 b7
          obtain ⟨p, f, hgs, hgt⟩ := timeGet_all s
          have HGS : Hid (tgV s = .tuple #[.int .i64 p, .bool f]) := hgs
          have HGT : Hid (f = true → ∀ w0 : World, Tab w0 → Pow w0 → Calls Tryd.prog 17 #[.int .i64 p] w0 fun e w' => e = .returned (.string s) ∧ Below w0.heap.size w0 w') := hgt
          clear b7 B6 hgs hgt
          go_wp2_with fail
          refine (implTimeGet s _ (by omega) (HT.out.on B7)).mono ?_
          rintro e w8 ⟨rfl, b8⟩
          have B8 := bstep B7 b8
          rw [HGS.out]
          clear b8 B7
          go_wp2_with fail
          refine (specTimeGet s _ (by omega)).mono ?_
          rintro e w9 ⟨rfl, b9⟩
          rw [HGS.out]
          have B9 := bstep B8 b9
          clear b9 B8
          cases f with
          | true =>
            go_wp2_with fail
            refine (HGT.out (by trivial) _ (HT.out.on B9) (HP.out.on B9)).mono ?_
            rintro e w10 ⟨rfl, b10⟩
            have B10 := bstep B9 b10
            go_wp2
            go_ret
            exact ⟨rfl, B10⟩
          | false =>
            go_wp2
            go_ret
            exact ⟨rfl, B9⟩
    · have l3 : (1048576 : Int) < (len' : Int) := by omega
      go_enter Tryd.func4, Tryd.ntmps4
      go_wp2
      go_ret
      exact ⟨rfl, Below.refl _ _⟩
  · have l3 : (1048576 : Int) < (len : Int) := by omega
    go_enter Tryd.func4, Tryd.ntmps4
    go_wp2
    go_ret
    exact ⟨rfl, Below.refl _ _⟩
end Go.Proofs.YtbbbmdidmnhpmaaDoor
