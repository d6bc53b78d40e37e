/-
  Contract of eqSpan: whether two ranges are the same.
-/
import Derived.Test.YtldafphfnkamjaaSpan
namespace Go.Proofs.Ytldafphfnkamjaa
open Go.RowKit

def spEq (a b c d : Int) : Bool := decide (a = c ∧ b = d)

set_option maxHeartbeats 400000 in
theorem eqSpan_any (a b c d : Int) (w : World) :
    Calls Try.prog 15 #[.agg #[.int .i64 a, .int .i64 b], .agg #[.int .i64 c, .int .i64 d]] w fun e w' => e = .returned (.bool (spEq a b c d)) ∧ Below w.heap.size w w' := by
  by_cases h1 : a = c <;> by_cases h2 : b = d
  all_goals
    go_enter Try.func15, Try.ntmps15
    go_wp2
    go_ret
    exact ⟨ret_bool (by unfold spEq; simp [h1, h2]), ((Below.refl _ _).alloc (Nat.le_refl _) _).alloc (by simp) _⟩

end Go.Proofs.Ytldafphfnkamjaa
