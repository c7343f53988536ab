/- FnExactDayOf: the law's own walk. -/
import Derived.Test.YtllpaojjpefgaaqDoorImC
import Derived.Test.YtllpaojjpefgaaqDoorSpD
import Derived.Test.YtllpaojjpefgaaqDoorExD
namespace Go.Proofs.YtllpaojjpefgaaqDoor
open Go.RowKit
set_option linter.unusedVariables false
set_option maxHeartbeats 1000000 in
theorem lawExDayOf (y m d : Int) (w : World) (ht : Tab w) :
    Calls Tryd.prog 5 #[.agg #[.int .i64 y, .int .i64 m, .int .i64 d]] w fun e w' => e = .returned (.bool true) ∧ Below w.heap.size w w' := by
  have hb0 : Below w.heap.size w (w.alloc (.cells #[.int .i64 y, .int .i64 m, .int .i64 d] 25)) := (Below.refl _ _).alloc (Nat.le_refl _) _
  have hT0 := ht.on hb0
  clear ht
  have HY : Hid (dayOf y m d = sdayOf y m d) := rfl
  go_enter Tryd.func5, Tryd.ntmps5
  go_wp2_with fail
  refine (lawToDate y m d _).mono ?_
  rintro e w1 ⟨rfl, hb1⟩
  go_wp2_with fail
  refine (specDayOf y m d _).mono ?_
  rintro e w2 ⟨rfl, hb2⟩
  have hb := bstep hb1 hb2
  obtain ⟨hc, hf⟩ := bcell hb
  have hs := hb.size
  simp at hs
  go_wp2_with fail
  refine (lawToDate y m d _).mono ?_
  rintro e w3 ⟨rfl, hb3⟩
  go_wp2_with fail
  refine (implDayOf y m d _ (hT0.on (bstep hb hb3))).mono ?_
  rintro e w4 ⟨rfl, hb4⟩
  rw [HY.out]
  have hbw := bstep (bstep (bstep hb0 hb) hb3) hb4
  clear hc hf
  go_wp2
  go_ret
  exact ⟨rfl, hbw⟩
end Go.Proofs.YtllpaojjpefgaaqDoor
