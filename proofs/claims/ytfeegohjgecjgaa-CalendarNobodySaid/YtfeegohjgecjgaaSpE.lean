/- Two spans compared. -/
import Derived.Test.YtfeegohjgecjgaaSpA
import Derived.Laws.StructEq
namespace Go.Proofs.Ytfeegohjgecjgaa
open Go.RowKit
theorem span_struct : Try.prog.underlying 30 = some (.struct (Try.prog.fieldsOf 30)) := by kernel_rfl
theorem span_held : Try.prog.stoodInHeld 30 = false := by kernel_rfl
theorem span_guard : Try.prog.eqGuardType Try.prog.depth 30 = false := by kernel_rfl
theorem guard_span (op : BinOp) (x y : Operand) (xs ys : Array Value) (w : World) : (eqGuard op 30 x y (.agg xs) (.agg ys)).run Try.prog w = .ok () w := run_eqGuard_agg w op _ x y xs ys span_guard
theorem eq_span (f t f' t' : Int) (w : World) : (Op.equalIn 10000 30 (.agg #[.int .i64 f, .int .i64 t]) (.agg #[.int .i64 f', .int .i64 t'])).run Try.prog w = .ok (f == f' && t == t') w := by
  rw [run_equalIn_agg w 9999 _ _ _ span_struct span_held]
  have h : Try.prog.underlying 2 = some (.int .i64) := Try.underlying2
  simp [Op.eqFields, go_sem, h, Try.underlying30]
  cases hf : f == f' <;> cases ht : t == t' <;> simp_all [go_sem]
theorem eql_span (f t f' t' : Int) (w : World) : (binOp .eql 30 (.agg #[.int .i64 f, .int .i64 t]) (.agg #[.int .i64 f', .int .i64 t'])).run Try.prog w = .ok (.bool (f == f' && t == t')) w := by
  rw [run_eql_struct, eq_span]; rfl
theorem neq_span (f t f' t' : Int) (w : World) : (binOp .neq 30 (.agg #[.int .i64 f, .int .i64 t]) (.agg #[.int .i64 f', .int .i64 t'])).run Try.prog w = .ok (.bool (!(f == f' && t == t'))) w := by
  rw [run_neq_struct, eq_span]; rfl
end Go.Proofs.Ytfeegohjgecjgaa
