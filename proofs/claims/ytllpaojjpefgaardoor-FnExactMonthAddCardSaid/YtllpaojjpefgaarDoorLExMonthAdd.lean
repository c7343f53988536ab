/- FnExactMonthAdd: the law's own walk. -/
import Derived.Test.YtllpaojjpefgaarDoorMoC
import Derived.Test.YtllpaojjpefgaarDoorExD
namespace Go.Proofs.YtllpaojjpefgaarDoor
open Go.RowKit
set_option linter.unusedVariables false
set_option maxHeartbeats 1000000 in
theorem lawExMonthAdd (y m d n : Int) (w : World) (h : (Lit.int .i64 n).wf = true) (ht : Tab w) :
    Calls Tryd.prog 3 #[.agg #[.int .i64 y, .int .i64 m, .int .i64 d], .int .i64 n] w fun e w' => e = .returned (.bool true) ∧ Below w.heap.size w w' := by
  clear h
  have hb0 : Below w.heap.size w (w.alloc (.cells #[.int .i64 y, .int .i64 m, .int .i64 d] 23)) := (Below.refl _ _).alloc (Nat.le_refl _) _
  have hT0 := ht.on hb0
  clear ht
  go_enter Tryd.func3, Tryd.ntmps3
  go_wp2_with fail
  refine (lawToDate y m d _).mono ?_
  rintro e w1 ⟨rfl, hb1⟩
  go_wp2_with fail
  refine (specMonthAdd y m d n _).mono ?_
  rintro e w2 ⟨rfl, hb2⟩
  have hb := bstep hb1 hb2
  obtain ⟨hc, hf⟩ := bcell hb
  have hs := hb.size
  simp at hs
  have hs1 : w.heap.size < w2.heap.size := by omega
  have hT2 := hT0.on hb
  have hbx := bstep hb0 hb
  clear hb1 hb2
  generalize hY : maY y m d n = a
  generalize hM : maM y m d n = b
  generalize hD : maD y m d n = c
  have HH : Hid (maY y m d n = a ∧ maM y m d n = b ∧ maD y m d n = c) := ⟨hY, hM, hD⟩
  clear hY hM hD
  have hb3 : Below w2.heap.size w2 (w2.alloc (.cells #[.int .i64 a, .int .i64 b, .int .i64 c] 24)) := (Below.refl _ _).alloc (Nat.le_refl _) _
  have hT3 := hT2.on hb3
  go_wp2_with fail
  refine (lawToDate y m d _).mono ?_
  rintro e w4 ⟨rfl, hb4⟩
  have hT4 := hT3.on hb4
  go_wp2_with fail
  refine (implMonthAdd y m d n _ hT4).mono ?_
  rintro e w5 ⟨rfl, hb5⟩
  rw [HH.out.1, HH.out.2.1, HH.out.2.2]
  have hb45 := bstep hb4 hb5
  have hbw := bstep (bstep hbx hb3) hb45
  clear hc hf
  obtain ⟨hc, hf⟩ := bcell hb45
  have hs5 := hb45.size
  simp at hs5
  have hs6 : w2.heap.size < w5.heap.size := by omega
  have c0 : w5.cell? ⟨w2.heap.size, 0, none⟩ = some (.int .i64 a) := by rw [hc _ _ (by simp)]; simp
  have c1 : w5.cell? ⟨w2.heap.size, 1, none⟩ = some (.int .i64 b) := by rw [hc _ _ (by simp)]; simp
  have c2 : w5.cell? ⟨w2.heap.size, 2, none⟩ = some (.int .i64 c) := by rw [hc _ _ (by simp)]; simp
  clear hc hf hb3 hb4 hb5 hb45 hbx hb hb0 hT0 hT2 hT3 hT4
  go_wp2_with fail
  refine (lawEqDate a b c _).mono ?_
  rintro e w6 ⟨rfl, hb6⟩
  have hbe := (hbw.alloc hbw.size (.cells #[.int .i64 a, .int .i64 b, .int .i64 c] 24)).trans (hb6.mono (by have := hbw.size; simp; omega))
  clear hb6
  go_wp2
  go_ret
  exact ⟨rfl, hbe⟩
end Go.Proofs.YtllpaojjpefgaarDoor
