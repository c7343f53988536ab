/- Two dates held against each other. -/
import Derived.Test.YtbbbmdidmnhpmaaDoorBs
import Derived.Laws.StructEq
namespace Go.Proofs.YtbbbmdidmnhpmaaDoor
open Go.RowKit
set_option linter.unusedVariables false
theorem dFields : Tryd.prog.underlying 24 = some (.struct (Tryd.prog.fieldsOf 24)) := by kernel_rfl
theorem dHeld : Tryd.prog.stoodInHeld 24 = false := by kernel_rfl
theorem dGuard : Tryd.prog.eqGuardType Tryd.prog.depth 24 = false := by kernel_rfl
theorem run_date_eql (y m d y' m' d' : Int) (w : World) : (binOp .eql 24 (.agg #[.int .i64 y, .int .i64 m, .int .i64 d]) (.agg #[.int .i64 y', .int .i64 m', .int .i64 d'])).run Tryd.prog w = .ok (.bool (y == y' && (m == m' && d == d'))) w := by
  rw [run_eql_struct, run_equalIn_agg _ _ _ _ _ dFields dHeld]
  go_simp
  by_cases h1 : y = y' <;> by_cases h2 : m = m' <;> by_cases h3 : d = d' <;> simp [h1, h2, h3]
theorem run_date_neq (y m d y' m' d' : Int) (w : World) : (binOp .neq 24 (.agg #[.int .i64 y, .int .i64 m, .int .i64 d]) (.agg #[.int .i64 y', .int .i64 m', .int .i64 d'])).run Tryd.prog w = .ok (.bool !(y == y' && (m == m' && d == d'))) w := by
  rw [run_neq_struct, run_equalIn_agg _ _ _ _ _ dFields dHeld]
  go_simp
  by_cases h1 : y = y' <;> by_cases h2 : m = m' <;> by_cases h3 : d = d' <;> simp [h1, h2, h3]
theorem run_date_guard (op : BinOp) (x y : Operand) (xs ys : Array Value) (w : World) : (eqGuard op 24 x y (.agg xs) (.agg ys)).run Tryd.prog w = .ok () w := run_eqGuard_agg w op _ x y xs ys dGuard
end Go.Proofs.YtbbbmdidmnhpmaaDoor
