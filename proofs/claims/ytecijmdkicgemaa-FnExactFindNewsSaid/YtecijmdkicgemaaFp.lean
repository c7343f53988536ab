/- When what is found may be so, in plain lists; the specification's. -/
import Derived.Test.YtecijmdkicgemaaFo
import Derived.Sort.Walk0
import Derived.Lib.Bytealg
namespace Go.Proofs.Ytecijmdkicgemaa
open Go.RowKit
set_option linter.unusedVariables false
def sameS (x y : ByteArray) : Bool := x.toList == y.toList
def aheadB (p q : FO) : Bool := decide (p.2 < q.2) || (p.2 == q.2 && Op.bytesLess p.1.toList q.1.toList)
def fo (l : List FO) (i : Nat) : FO := l.getD i (ByteArray.empty, 0)
structure FOk (l : List FO) : Prop where
  len : l.length ≤ 12
  nm : ∀ i, i < l.length → nmB (fS l i) = true
  ah : ∀ i, i + 1 < l.length → aheadB (fo l i) (fo l (i + 1)) = true
  ds : ∀ i k, k < i → i < l.length → sameS (fS l k) (fS l i) = false
theorem fok_dec (l : List FO) : ∃ r : Bool, r = true ↔ FOk l := by
  classical exact ⟨decide (FOk l), decide_eq_true_iff⟩
theorem fok_not {l : List FO} {r : Bool} (hr : r = true ↔ FOk l) (h : ¬ FOk l) : r = false := by
  cases r with
  | false => rfl
  | true => exact absurd (hr.1 rfl) h
set_option maxHeartbeats 4000000 in
theorem specAhead (p q : FO) (w : World) :
    Calls Try.prog 48 #[.agg #[.string p.1, .int .i64 p.2], .agg #[.string q.1, .int .i64 q.2]] w fun e w' => e = .returned (.bool (aheadB p q)) ∧ Below w.heap.size w w' := by
  obtain ⟨s, x⟩ := p
  obtain ⟨t, y⟩ := q
  have hb : Below w.heap.size w ((w.alloc (.cells #[.string s, .int .i64 x] 71)).alloc (.cells #[.string t, .int .i64 y] 71)) := ((Below.refl _ _).alloc (Nat.le_refl _) _).alloc (by simp) _
  by_cases h1 : x < y
  · have HV : Hid (aheadB (s, x) (t, y) = true) := by unfold Hid aheadB; simp [h1]
    go_enter Try.func48, Try.ntmps48
    go_wp2
    go_ret
    exact ⟨ret_b HV.out.symm, hb⟩
  · by_cases h2 : x = y
    · subst h2
      have HV : Hid (aheadB (s, x) (t, x) = Op.bytesLess s.toList t.toList) := by unfold Hid aheadB; simp
      go_enter Try.func48, Try.ntmps48
      go_wp2
      go_ret
      exact ⟨ret_b HV.out.symm, hb⟩
    · have h3 : (x == y) = false := beq_eq_false_iff_ne.2 h2
      have HV : Hid (aheadB (s, x) (t, y) = false) := by unfold Hid aheadB; simp [h1, h3]
      go_enter Try.func48, Try.ntmps48
      go_wp2
      go_ret
      exact ⟨ret_b HV.out.symm, hb⟩
theorem specAhead_is (s : ByteArray) (x : Int) (t : ByteArray) (y : Int) (b : Bool) (h : aheadB (s, x) (t, y) = b) (w : World) :
    Calls Try.prog 48 #[.agg #[.string s, .int .i64 x], .agg #[.string t, .int .i64 y]] w fun e w' => e = .returned (.bool b) ∧ Below w.heap.size w w' := by
  subst h; exact specAhead (s, x) (t, y) w
theorem specName_is (s : ByteArray) (b : Bool) (h : nmB s = b) (w : World) (hs : s.size ≤ maxLen) :
    Calls Try.prog 47 #[.string s] w fun e w' => e = .returned (.bool b) ∧ w' = w := by
  subst h; exact specName s w hs
end Go.Proofs.Ytecijmdkicgemaa
