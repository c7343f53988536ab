/- The specification's functions of chapter 1: what each answers. -/
import Derived.Test.YtllpaojjpefgaagDoorSpC
import Derived.Deep.QuietTactic
import Derived.BigQuiet
import Derived.Deep.RegionWith
import Derived.Deep.LoopGhost
namespace Go.Proofs.YtllpaojjpefgaagDoor
open Go.RowKit
set_option linter.unusedVariables false

def inB (n a b : Int) : Bool := decide (a ≤ n ∧ n ≤ b)
theorem in_yes {n a b : Int} (h0 : a ≤ n) (h1 : n ≤ b) : inB n a b = true := by unfold inB; simp; omega
theorem in_no {n a b : Int} (h : n < a ∨ b < n) : inB n a b = false := by unfold inB; simp; omega
theorem in_iff (n a b : Int) : inB n a b = true ↔ a ≤ n ∧ n ≤ b := by unfold inB; exact decide_eq_true_iff
theorem in_not (n a b : Int) : inB n a b = false ↔ ¬ (a ≤ n ∧ n ≤ b) := by unfold inB; exact decide_eq_false_iff_not
theorem specIn (n a b : Int) (w : World) :
    Calls Tryd.prog 21 #[.int .i64 n, .int .i64 a, .int .i64 b] w fun e w' => e = .returned (.bool (inB n a b)) ∧ w' = w := by
  by_cases h0 : a ≤ n
  · go_enter Tryd.func21, Tryd.ntmps21
    go_wp2
    go_ret
    exact ⟨ret_b (by unfold inB; simp [h0]), rfl⟩
  · go_enter Tryd.func21, Tryd.ntmps21
    go_wp2
    go_ret
    exact ⟨ret_b (by unfold inB; simp; omega), rfl⟩
theorem specInR (n a b : Int) (w : World) (r : Bool) (hr : inB n a b = r) :
    Calls Tryd.prog 21 #[.int .i64 n, .int .i64 a, .int .i64 b] w fun e w' => e = .returned (.bool r) ∧ w' = w := by
  subst hr; exact specIn n a b w
set_option maxHeartbeats 1000000 in
theorem specDateOk (y m d : Int) (w : World) :
    Calls Tryd.prog 20 #[.agg #[.int .i64 y, .int .i64 m, .int .i64 d]] w fun e w' => e = .returned (.bool (okD y m d)) ∧ Below w.heap.size w w' := by
  have HB : Hid (∀ n, Below w.heap.size w ((w.alloc (.cells #[.int .i64 y, .int .i64 m, .int .i64 d] 24)).drewN n)) := fun n => Below.drewN' ((Below.refl _ _).alloc (Nat.le_refl _) _) n
  cases h : inB y 1 9999 with
  | true =>
    have hy := (in_iff _ _ _).1 h
    cases h' : inB m 1 12 with
    | true =>
      have hm := (in_iff _ _ _).1 h'
      have HD : Hid (inB d 1 (dim y m) = okD y m d) := by
        unfold Hid; rw [Bool.eq_iff_iff, okD_iff, in_iff]; omega
      go_enter Tryd.func20, Tryd.ntmps20
      go_wp2
      go_quiet ((first | (go_at_call 21; exact Calls.quiet_of_same (specInR _ _ _ _ _ (by first | exact h | exact h' | rfl))) | (go_at_call 23; exact Calls.quiet_of_same (specDays _ _ _ (by omega) (by omega) (by omega) (by omega)))))
      go_wp2
      go_ret
      exact ⟨ret_b HD.out, HB.out _⟩
    | false =>
      have hm := (in_not _ _ _).1 h'
      have HD : Hid (okD y m d = false) := (okD_not _ _ _).2 (by omega)
      clear hm
      go_enter Tryd.func20, Tryd.ntmps20
      go_wp2
      go_quiet ((go_at_call 21; exact Calls.quiet_of_same (specInR _ _ _ _ _ (by first | exact h | exact h'))))
      go_wp2
      go_ret
      exact ⟨ret_b HD.out.symm, HB.out _⟩
  | false =>
    have hm := (in_not _ _ _).1 h
    have HD : Hid (okD y m d = false) := (okD_not _ _ _).2 (by omega)
    clear hm
    go_enter Tryd.func20, Tryd.ntmps20
    go_wp2
    go_quiet ((go_at_call 21; exact Calls.quiet_of_same (specInR _ _ _ _ _ (by exact h))))
    go_wp2
    go_ret
    exact ⟨ret_b HD.out.symm, HB.out _⟩
def sdayOf (y m d : Int) : Int := if okD y m d = true then num y m d else -1
set_option maxHeartbeats 1000000 in
theorem specDayOf (y m d : Int) (w : World) :
    Calls Tryd.prog 10 #[.agg #[.int .i64 y, .int .i64 m, .int .i64 d]] w fun e w' => e = .returned (.int .i64 (sdayOf y m d)) ∧ Below w.heap.size w w' := by
  have hb0 : Below w.heap.size w (w.alloc (.cells #[.int .i64 y, .int .i64 m, .int .i64 d] 24)) := (Below.refl _ _).alloc (Nat.le_refl _) _
  cases ok : okD y m d with
  | true =>
    have HD : Hid (sdayOf y m d = num y m d) := by unfold Hid sdayOf; rw [if_pos ok]
    obtain ⟨k1, k2, k3, k4, k5, k6⟩ := (okD_iff y m d).1 ok
    have db := dim_bd y m
    have HOK : Hid (okD y m d = true) := ok
    clear ok
    go_enter Tryd.func10, Tryd.ntmps10
    go_wp2_with fail
    refine (specDateOk y m d _).mono ?_
    rintro e w1 ⟨rfl, hb1⟩
    rw [HOK.out]
    obtain ⟨hc, hf⟩ := bcell hb1
    have hs1 := hb1.size
    simp at hs1
    go_wp2_with fail
    refine (specDay y m d _ k1 k2 k3 k4 (by omega) (by omega)).mono ?_
    rintro e w2 ⟨rfl, hw2⟩
    have hb2 : Below w1.heap.size w1 w2 := by rw [hw2]; exact (Below.refl _ _).alloc (Nat.le_refl _) _
    have hb := bstep (bstep hb0 hb1) hb2
    clear hc hf hw2
    go_wp2
    go_ret
    exact ⟨ret_i HD.out.symm, hb⟩
  | false =>
    have HD : Hid (sdayOf y m d = -1) := by unfold Hid sdayOf; rw [if_neg (by rw [ok]; exact Bool.false_ne_true)]
    have HOK : Hid (okD y m d = false) := ok
    clear ok
    go_enter Tryd.func10, Tryd.ntmps10
    go_wp2_with fail
    refine (specDateOk y m d _).mono ?_
    rintro e w1 ⟨rfl, hb1⟩
    rw [HOK.out]
    have hb := bstep hb0 hb1
    go_wp2
    go_ret
    exact ⟨ret_i HD.out.symm, hb⟩
end Go.Proofs.YtllpaojjpefgaagDoor
