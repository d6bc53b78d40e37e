/-
  The model's l2Long, l1Min: what each returns.
-/
import Derived.Test.YteglfdcoeogilabText
import Derived.Deep.DeepCutAuto
namespace Go.Proofs.Yteglfdcoeogilab
open Go.RowKit

theorem ret_str {a b : List UInt8} (h : a = b) : Ending.returned (.string (mkB a)) = .returned (.string (mkB b)) := by rw [h]
theorem ret_sb {a b : List UInt8} {x y : Bool} (h : a = b) (h' : x = y) : Ending.returned (.tuple #[.string (mkB a), .bool x]) = .returned (.tuple #[.string (mkB b), .bool y]) := by rw [h, h']


/-- A string and a byte more. -/
theorem add_mk (a b : List UInt8) (h : a.length + b.length ≤ 9223372036854775807) (w : World) : (Op.stringOp .add (mkB a) (mkB b)).run Try.prog w = .ok (.string (mkB (a ++ b))) w := by
  rw [run_string_add_sum w _ _ (by rw [mkB_size, mkB_size]; exact h), mkB_app]


end Go.Proofs.Yteglfdcoeogilab
