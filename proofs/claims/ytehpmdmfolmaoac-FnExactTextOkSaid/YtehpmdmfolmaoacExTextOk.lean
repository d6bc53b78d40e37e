/-
  laws.FnExactTextOk returns true at every string: both sides return the same Bool. No condition.
-/
import Derived.Test.YtehpmdmfolmaoacText
namespace Go.Proofs.Ytehpmdmfolmaoac.exTextOk
open Go.RowKit

set_option maxHeartbeats 400000 in
theorem walk (s : ByteArray) (w : World) (h : s.size ≤ maxLen) :
    Calls Try.prog 4 #[.string s] w fun e w' => e = .returned (.bool true) ∧ Below w.heap.size w w' := by
  unfold maxLen at h
  by_cases hL : s.size ≤ 1048576
  · have hn : (tokB s.data.toList != tokB s.data.toList) = false := by simp
    go_enter Try.func4, Try.ntmps4
    go_wp2_with fail
    refine (specTextOk_any s (by omega) _).mono ?_; rintro e w1 ⟨rfl, rfl⟩
    go_wp2_with fail
    refine (implTextOk_any s (by omega) _).mono ?_; rintro e w1 ⟨rfl, rfl⟩
    go_wp2
    go_ret
    exact ⟨rfl, Below.refl _ _⟩
  · go_enter Try.func4, Try.ntmps4
    go_wp2
    go_ret
    exact ⟨rfl, Below.refl _ _⟩

end Go.Proofs.Ytehpmdmfolmaoac.exTextOk
