/- FnExactWeekOf: the law's own walk. -/
import Derived.Test.YtllpaojjpefgaarImC
import Derived.Test.YtllpaojjpefgaarSpD
namespace Go.Proofs.Ytllpaojjpefgaar
open Go.RowKit
set_option linter.unusedVariables false
set_option maxHeartbeats 1000000 in
theorem lawExWeekOf (n : Int) (w : World) (h : (Lit.int .i64 n).wf = true) :
    Calls Try.prog 3 #[.int .i64 n] w fun e w' => e = .returned (.bool true) ∧ Below w.heap.size w w' := by
  clear h
  by_cases hn : 0 ≤ n ∧ n ≤ 3652058
  · obtain ⟨n0, n1⟩ := hn
    go_enter Try.func3, Try.ntmps3
    go_wp2_with fail
    refine (specWeekOf_yes n _ n0 n1).mono ?_
    rintro e w1 ⟨⟨y, rfl, hy⟩, hb1⟩
    have A : Hid (swkY n y) := hy
    clear hy
    go_wp2_with fail
    refine (implWeekOf_yes n _ n0 n1).mono ?_
    rintro e w1' ⟨⟨y', rfl, hy'⟩, rfl⟩
    have e : y = y' := year_uniq A.out.1 hy'.1 A.out.2.2.1 A.out.2.2.2 hy'.2.2.1 hy'.2.2.2
    subst e
    clear hy' A
    go_wp2
    go_ret
    exact ⟨rfl, hb1⟩
  · have HN : Hid (n < 0 ∨ 3652058 < n) := by unfold Hid; omega
    clear hn
    go_enter Try.func3, Try.ntmps3
    go_wp2_with fail
    refine (specWeekOf_no n _ HN.out).mono ?_
    rintro e w1 ⟨rfl, rfl⟩
    go_wp2_with fail
    refine (implWeekOf_no n _ HN.out).mono ?_
    rintro e w1' ⟨rfl, rfl⟩
    go_wp2
    go_ret
    exact ⟨rfl, Below.refl _ _⟩
end Go.Proofs.Ytllpaojjpefgaar
