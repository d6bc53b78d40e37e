/-
  The model's l2Long, l1Min: what each returns.
-/
import Derived.Test.YtamhndnfaaifcaaText
import Derived.Deep.DeepCutAuto
namespace Go.Proofs.Ytamhndnfaaifcaa
open Go.RowKit

theorem ret_str {a b : List UInt8} (h : a = b) : Ending.returned (.string (mkB a)) = .returned (.string (mkB b)) := by rw [h]
theorem ret_sb {a b : List UInt8} {x y : Bool} (h : a = b) (h' : x = y) : Ending.returned (.tuple #[.string (mkB a), .bool x]) = .returned (.tuple #[.string (mkB b), .bool y]) := by rw [h, h']

set_option maxHeartbeats 400000 in
theorem lmin_any (a b : Int) (w : World) :
    Calls Try.prog 65 #[.int .i64 a, .int .i64 b] w fun e w' => e = .returned (.int .i64 (min a b)) ∧ w = w' := by
  by_cases h : a < b
  · rw [Int.min_eq_left (by omega)]
    go_enter Try.func65, Try.ntmps65
    go_wp2
    go_ret
    exact ⟨rfl, rfl⟩
  · rw [Int.min_eq_right (by omega)]
    go_enter Try.func65, Try.ntmps65
    go_wp2
    go_ret
    exact ⟨rfl, rfl⟩

/-- A string and a byte more. -/
theorem add_mk (a b : List UInt8) (h : a.length + b.length ≤ 9223372036854775807) (w : World) : (Op.stringOp .add (mkB a) (mkB b)).run Try.prog w = .ok (.string (mkB (a ++ b))) w := by
  rw [run_string_add_sum w _ _ (by rw [mkB_size, mkB_size]; exact h), mkB_app]


end Go.Proofs.Ytamhndnfaaifcaa
