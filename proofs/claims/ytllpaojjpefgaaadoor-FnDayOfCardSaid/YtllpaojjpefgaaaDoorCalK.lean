/- The calendar's contracts at a date that is one, and at one that is none. -/
import Derived.Test.YtllpaojjpefgaaaDoorImC
import Derived.Test.YtllpaojjpefgaaaDoorSpD
import Derived.Test.YtllpaojjpefgaaaDoorDr2
namespace Go.Proofs.YtllpaojjpefgaaaDoor
open Go.RowKit
set_option linter.unusedVariables false
theorem implDayOf_ok (y m d : Int) (w : World) (ht : Tab w) (ok : okD y m d = true) :
    Calls Tryd.prog 15 #[.agg #[.int .i64 y, .int .i64 m, .int .i64 d]] w fun e w' => e = .returned (.int .i64 (num y m d)) ∧ Below w.heap.size w w' := by
  have h := implDayOf y m d w ht
  unfold dayOf at h; rwa [if_pos ok] at h
theorem implDayOf_no (y m d : Int) (w : World) (ht : Tab w) (ok : okD y m d = false) :
    Calls Tryd.prog 15 #[.agg #[.int .i64 y, .int .i64 m, .int .i64 d]] w fun e w' => e = .returned (.int .i64 (-1)) ∧ Below w.heap.size w w' := by
  have h := implDayOf y m d w ht
  unfold dayOf at h; rwa [if_neg (by rw [ok]; exact Bool.false_ne_true)] at h
theorem specDayOf_ok (y m d : Int) (w : World) (ok : okD y m d = true) :
    Calls Tryd.prog 17 #[.agg #[.int .i64 y, .int .i64 m, .int .i64 d]] w fun e w' => e = .returned (.int .i64 (num y m d)) ∧ Below w.heap.size w w' := by
  have h := specDayOf y m d w
  unfold sdayOf at h; rwa [if_pos ok] at h
theorem specDayOf_no (y m d : Int) (w : World) (ok : okD y m d = false) :
    Calls Tryd.prog 17 #[.agg #[.int .i64 y, .int .i64 m, .int .i64 d]] w fun e w' => e = .returned (.int .i64 (-1)) ∧ Below w.heap.size w w' := by
  have h := specDayOf y m d w
  unfold sdayOf at h; rwa [if_neg (by rw [ok]; exact Bool.false_ne_true)] at h
theorem implDateOkR (y m d : Int) (w : World) (ht : Tab w) (r : Bool) (ok : okD y m d = r) :
    Calls Tryd.prog 12 #[.agg #[.int .i64 y, .int .i64 m, .int .i64 d]] w fun e w' => e = .returned (.bool r) ∧ Below w.heap.size w w' := by
  subst ok; exact implDateOk y m d w ht
theorem specDateOkR (y m d : Int) (w : World) (r : Bool) (ok : okD y m d = r) :
    Calls Tryd.prog 18 #[.agg #[.int .i64 y, .int .i64 m, .int .i64 d]] w fun e w' => e = .returned (.bool r) ∧ Below w.heap.size w w' := by
  subst ok; exact specDateOk y m d w
theorem implDateOf_num (n y m d : Int) (w : World) (ht : Tab w) (ok : okD y m d = true) (hn : num y m d = n) :
    Calls Tryd.prog 19 #[.int .i64 n] w fun e w' => e = .returned (.agg #[.int .i64 y, .int .i64 m, .int .i64 d]) ∧ Below w.heap.size w w' := by
  have hb := num_bd ok
  refine (implDateOf_yes n w ht (by omega) (by omega)).mono fun e w' hh => ⟨?_, hh.2⟩
  obtain ⟨⟨y', m', d', he, ok', hn'⟩, _⟩ := hh
  obtain ⟨rfl, rfl, rfl⟩ := num_inj ok ok' (hn.trans hn'.symm)
  exact he
theorem specDateOf_num (n y m d : Int) (w : World) (ok : okD y m d = true) (hn : num y m d = n) :
    Calls Tryd.prog 21 #[.int .i64 n] w fun e w' => e = .returned (.agg #[.int .i64 y, .int .i64 m, .int .i64 d]) ∧ Below w.heap.size w w' := by
  have hb := num_bd ok
  refine (specDateOf_yes n w (by omega) (by omega)).mono fun e w' hh => ⟨?_, hh.2⟩
  obtain ⟨⟨y', m', d', he, ok', hn'⟩, _⟩ := hh
  obtain ⟨rfl, rfl, rfl⟩ := num_inj ok ok' (hn.trans hn'.symm)
  exact he
end Go.Proofs.YtllpaojjpefgaaaDoor
