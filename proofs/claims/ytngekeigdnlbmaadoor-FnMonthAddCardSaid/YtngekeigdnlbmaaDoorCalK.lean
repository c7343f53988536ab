/- The calendar's contracts at a date that is one, and at one that is none. -/
import Derived.Test.YtngekeigdnlbmaaDoorImC
import Derived.Test.YtngekeigdnlbmaaDoorSpD
import Derived.Test.YtngekeigdnlbmaaDoorDr2
namespace Go.Proofs.YtngekeigdnlbmaaDoor
open Go.RowKit
set_option linter.unusedVariables false
theorem implDayOf_ok (y m d : Int) (w : World) (ht : Tab w) (ok : okD y m d = true) :
    Calls Tryd.prog 53 #[.agg #[.int .i64 y, .int .i64 m, .int .i64 d]] w fun e w' => e = .returned (.int .i64 (num y m d)) ∧ Below w.heap.size w w' := by
  have h := implDayOf y m d w ht
  unfold dayOf at h; rwa [if_pos ok] at h
theorem implDayOf_no (y m d : Int) (w : World) (ht : Tab w) (ok : okD y m d = false) :
    Calls Tryd.prog 53 #[.agg #[.int .i64 y, .int .i64 m, .int .i64 d]] w fun e w' => e = .returned (.int .i64 (-1)) ∧ Below w.heap.size w w' := by
  have h := implDayOf y m d w ht
  unfold dayOf at h; rwa [if_neg (by rw [ok]; exact Bool.false_ne_true)] at h
theorem implDateOkR (y m d : Int) (w : World) (ht : Tab w) (r : Bool) (ok : okD y m d = r) :
    Calls Tryd.prog 13 #[.agg #[.int .i64 y, .int .i64 m, .int .i64 d]] w fun e w' => e = .returned (.bool r) ∧ Below w.heap.size w w' := by
  subst ok; exact implDateOk y m d w ht
theorem specDateOkR (y m d : Int) (w : World) (r : Bool) (ok : okD y m d = r) :
    Calls Tryd.prog 19 #[.agg #[.int .i64 y, .int .i64 m, .int .i64 d]] w fun e w' => e = .returned (.bool r) ∧ Below w.heap.size w w' := by
  subst ok; exact specDateOk y m d w
theorem implDateOf_num (n y m d : Int) (w : World) (ht : Tab w) (ok : okD y m d = true) (hn : num y m d = n) :
    Calls Tryd.prog 52 #[.int .i64 n] w fun e w' => e = .returned (.agg #[.int .i64 y, .int .i64 m, .int .i64 d]) ∧ Below w.heap.size w w' := by
  have hb := num_bd ok
  refine (implDateOf_yes n w ht (by omega) (by omega)).mono fun e w' hh => ⟨?_, hh.2⟩
  obtain ⟨⟨y', m', d', he, ok', hn'⟩, _⟩ := hh
  obtain ⟨rfl, rfl, rfl⟩ := num_inj ok ok' (hn.trans hn'.symm)
  exact he
end Go.Proofs.YtngekeigdnlbmaaDoor
