/- FnExactDateText: the law's own walk. -/
import Derived.Test.YtbbbmdidmnhpmaaDoorTr
import Derived.Test.YtbbbmdidmnhpmaaDoorExD
namespace Go.Proofs.YtbbbmdidmnhpmaaDoor
open Go.RowKit
set_option linter.unusedVariables false
/-- A date that is one, as counts. -/
theorem okD_nat {y m d : Int} (h : okD y m d = true) : ∃ a b c : Nat, y = a ∧ m = b ∧ d = c ∧ a < 10000 ∧ b < 100 ∧ c < 100 := by
  have k := (okD_iff y m d).1 h
  have := dim_bd y m
  exact ⟨y.toNat, m.toNat, d.toNat, by omega, by omega, by omega, by omega, by omega, by omega⟩
set_option maxHeartbeats 4000000 in
theorem lawExDateText (y m d : Int) (w : World) (ht : Tab w) (hP : Pow w) :
    Calls Tryd.prog 5 #[.agg #[.int .i64 y, .int .i64 m, .int .i64 d]] w fun e w' => e = .returned (.bool true) ∧ Below w.heap.size w w' := by
  have HT : Hid (Tab w) := ht
  have HP : Hid (Pow w) := hP
  have b0 := (Below.refl w.heap.size w).alloc (Nat.le_refl _) (.cells #[.int .i64 y, .int .i64 m, .int .i64 d] 36)
  have K := C3.new w (.int .i64 y) (.int .i64 m) (.int .i64 d) 36
  obtain ⟨T, hS, hI⟩ : ∃ T : ByteArray, (∀ w0 : World, Calls Tryd.prog 12 #[.agg #[.int .i64 y, .int .i64 m, .int .i64 d]] w0 fun e w' => e = .returned (.string T) ∧ Below w0.heap.size w0 w') ∧ (∀ w0 : World, Tab w0 → Pow w0 → Calls Tryd.prog 10 #[.agg #[.int .i64 y, .int .i64 m, .int .i64 d]] w0 fun e w' => e = .returned (.string T) ∧ Below w0.heap.size w0 w') := by
    cases ok : okD y m d with
    | true =>
      obtain ⟨a, b, c, rfl, rfl, rfl, ha, hb, hc⟩ := okD_nat ok
      exact ⟨_, fun w0 => specDateText_yes a b c w0 ok ha hb hc, fun w0 t p => implDateText_yes a b c w0 ok ha hb hc t p⟩
    | false => exact ⟨_, fun w0 => specDateText_no y m d w0 ok, fun w0 t p => implDateText_no y m d w0 ok t⟩
  have HS : Hid (∀ w0 : World, Calls Tryd.prog 12 #[.agg #[.int .i64 y, .int .i64 m, .int .i64 d]] w0 fun e w' => e = .returned (.string T) ∧ Below w0.heap.size w0 w') := hS
  have HI : Hid (∀ w0 : World, Tab w0 → Pow w0 → Calls Tryd.prog 10 #[.agg #[.int .i64 y, .int .i64 m, .int .i64 d]] w0 fun e w' => e = .returned (.string T) ∧ Below w0.heap.size w0 w') := hI
  clear ht hP hS hI
  go_enter Tryd.func5, Tryd.ntmps5
  go_wp2_with fail
  generalize w.alloc (.cells #[.int .i64 y, .int .i64 m, .int .i64 d] 36) = W0 at b0 K ⊢
  refine (lawToDate y m d _).mono ?_
  rintro e w1 ⟨rfl, b1⟩
  go_wp2_with fail
  refine (HS.out _).mono ?_
  rintro e w2 ⟨rfl, b2⟩
  have B2 := bstep (bstep b0 b1) b2
  obtain ⟨c0, c1, c2⟩ := (K.on b1).on b2
  clear b1 b2 b0 K
  go_wp2_with fail
  refine (lawToDate y m d _).mono ?_
  rintro e w3 ⟨rfl, b3⟩
  have B3 := bstep B2 b3
  clear c0 c1 c2 B2 b3
  go_wp2_with fail
  refine (HI.out _ (HT.out.on B3) (HP.out.on B3)).mono ?_
  rintro e w4 ⟨rfl, b4⟩
  have B4 := bstep B3 b4
  clear B3 b4
  go_wp2
  go_ret
  exact ⟨rfl, B4⟩
end Go.Proofs.YtbbbmdidmnhpmaaDoor
