/-
  Two ranges compared by '!=': the model's own comparison of structs, as equations.
-/
import Derived.Test.YtdcjinhaifjokaaToSpan
import Derived.Laws.StructEq
namespace Go.Proofs.Ytdcjinhaifjokaa
open Go.RowKit

theorem neq_span (lo hi lo' hi' : Int) (w : World) : (binOp .neq 32 (.agg #[.int .i64 lo, .int .i64 hi]) (.agg #[.int .i64 lo', .int .i64 hi'])).run Try.prog w = .ok (.bool (!spEq lo hi lo' hi')) w := by
  have u3 := Try.underlying3
  have a3 : ∀ w, (isAgg 3).run Try.prog w = .ok false w := fun w => by kernel_rfl
  have z3 : ∀ w, (Go.sizeOf 3).run Try.prog w = .ok 1 w := fun w => by kernel_rfl
  have hS : Try.prog.underlying 32 = some (.struct (Try.prog.fieldsOf 32)) := by kernel_rfl
  have hp : Try.prog.stoodInHeld 32 = false := by kernel_rfl
  rw [run_neq_struct, show (10000 : Nat) = 9999 + 1 from rfl, run_equalIn_agg w 9999 32 _ _ hS hp]
  simp only [Program.fieldsOf, Try.underlying32]
  unfold spEq
  by_cases h1 : lo = lo' <;> by_cases h2 : hi = hi' <;> go_simp
theorem guard_span (op : BinOp) (a b : Operand) (x y : Array Value) (w : World) : (eqGuard op 32 a b (.agg x) (.agg y)).run Try.prog w = .ok () w :=
  run_eqGuard_agg w op _ a b x y (by kernel_rfl)

end Go.Proofs.Ytdcjinhaifjokaa
