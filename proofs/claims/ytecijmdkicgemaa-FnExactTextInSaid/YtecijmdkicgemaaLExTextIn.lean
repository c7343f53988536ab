/- FnExactTextIn: the law's own walk. -/
import Derived.Test.YtecijmdkicgemaaTj
namespace Go.Proofs.Ytecijmdkicgemaa
open Go.RowKit
set_option linter.unusedVariables false
set_option maxRecDepth 100000 in
set_option maxHeartbeats 4000000 in
theorem lawExTextIn (s p : ByteArray) (m : Int) (w : World) (hm : w.cell? ⟨0, 0, none⟩ = some (.int .i64 m)) (hs : s.size ≤ maxLen) (hp : p.size ≤ maxLen) :
    Calls Try.prog 3 #[.string s, .string p] w fun e w' => e = .returned (.bool true) ∧ Below w.heap.size w w' := by
  have hm0 : 0 < w.heap.size := cell_lt hm
  by_cases hl : s.size ≤ 1048576
  · have hl1 : ¬ (1048576 : Int) < (s.size : Int) := by omega
    by_cases hk : p.size ≤ 1048576
    · have hk1 : ¬ (1048576 : Int) < (p.size : Int) := by omega
      go_enter Try.func3, Try.ntmps3
      go_wp2_with fail
      refine (specTextIn s p w hl hk).mono ?_
      rintro e w1 ⟨rfl, b1⟩
      have m1 : w1.cell? ⟨0, 0, none⟩ = some (.int .i64 m) := (b1.cell (p := ⟨0, 0, none⟩) hm0).trans hm
      go_wp2_with fail
      refine (implTextIn s p m w1 m1 hl hk).mono ?_
      rintro e w2 ⟨rfl, b2⟩
      have b3 := bstep b1 b2
      generalize inB' s p = t
      go_wp2
      go_ret
      exact ⟨rfl, b3⟩
    · have hk1 : (1048576 : Int) < (p.size : Int) := by omega
      go_enter Try.func3, Try.ntmps3
      go_wp2
      go_ret
      exact ⟨rfl, Below.refl _ _⟩
  · have hl1 : (1048576 : Int) < (s.size : Int) := by omega
    go_enter Try.func3, Try.ntmps3
    go_wp2
    go_ret
    exact ⟨rfl, Below.refl _ _⟩
end Go.Proofs.Ytecijmdkicgemaa
