/- What the specification draws: numbers, years, dates and days, each within its bounds. -/
import Derived.Test.YtecijmdkicgemaaRd
import Derived.Test.YtecijmdkicgemaaSpC
namespace Go.Proofs.Ytecijmdkicgemaa
open Go.RowKit
set_option linter.unusedVariables false

theorem getD_mem (xs : List Int) (i : Nat) (h : i < xs.length) : xs[i]?.getD 0 ∈ xs := by simp [h]



theorem ints_at (xs : List Int) (i : Nat) (h : i < xs.length) : ((xs.map (fun x => Value.int .i64 x)).toArray)[i]? = some (.int .i64 (xs.getD i 0)) := by
  simp [h]


end Go.Proofs.Ytecijmdkicgemaa
