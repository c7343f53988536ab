/- The calendar's contracts at a date that is one, and at one that is none. -/
import Derived.Test.YtllpaojjpefgaagDoorImC
import Derived.Test.YtllpaojjpefgaagDoorSpD
import Derived.Test.YtllpaojjpefgaagDoorDr2
namespace Go.Proofs.YtllpaojjpefgaagDoor
open Go.RowKit
set_option linter.unusedVariables false
theorem implDayOf_ok (y m d : Int) (w : World) (ht : Tab w) (ok : okD y m d = true) :
    Calls Tryd.prog 9 #[.agg #[.int .i64 y, .int .i64 m, .int .i64 d]] w fun e w' => e = .returned (.int .i64 (num y m d)) ∧ Below w.heap.size w w' := by
  have h := implDayOf y m d w ht
  unfold dayOf at h; rwa [if_pos ok] at h
theorem implDayOf_no (y m d : Int) (w : World) (ht : Tab w) (ok : okD y m d = false) :
    Calls Tryd.prog 9 #[.agg #[.int .i64 y, .int .i64 m, .int .i64 d]] w fun e w' => e = .returned (.int .i64 (-1)) ∧ Below w.heap.size w w' := by
  have h := implDayOf y m d w ht
  unfold dayOf at h; rwa [if_neg (by rw [ok]; exact Bool.false_ne_true)] at h
theorem specDayOf_ok (y m d : Int) (w : World) (ok : okD y m d = true) :
    Calls Tryd.prog 10 #[.agg #[.int .i64 y, .int .i64 m, .int .i64 d]] w fun e w' => e = .returned (.int .i64 (num y m d)) ∧ Below w.heap.size w w' := by
  have h := specDayOf y m d w
  unfold sdayOf at h; rwa [if_pos ok] at h
theorem specDayOf_no (y m d : Int) (w : World) (ok : okD y m d = false) :
    Calls Tryd.prog 10 #[.agg #[.int .i64 y, .int .i64 m, .int .i64 d]] w fun e w' => e = .returned (.int .i64 (-1)) ∧ Below w.heap.size w w' := by
  have h := specDayOf y m d w
  unfold sdayOf at h; rwa [if_neg (by rw [ok]; exact Bool.false_ne_true)] at h
theorem implDateOkR (y m d : Int) (w : World) (ht : Tab w) (r : Bool) (ok : okD y m d = r) :
    Calls Tryd.prog 17 #[.agg #[.int .i64 y, .int .i64 m, .int .i64 d]] w fun e w' => e = .returned (.bool r) ∧ Below w.heap.size w w' := by
  subst ok; exact implDateOk y m d w ht
theorem specDateOkR (y m d : Int) (w : World) (r : Bool) (ok : okD y m d = r) :
    Calls Tryd.prog 20 #[.agg #[.int .i64 y, .int .i64 m, .int .i64 d]] w fun e w' => e = .returned (.bool r) ∧ Below w.heap.size w w' := by
  subst ok; exact specDateOk y m d w
end Go.Proofs.YtllpaojjpefgaagDoor
