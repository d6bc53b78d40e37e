/-
  laws.FnExactTextCut returns true at every string and number: both sides return the same text and Bool. No condition.
-/
import Derived.Test.YtehpmdmfolmaoacSpecCut
import Derived.Test.YtehpmdmfolmaoacImplCut
namespace Go.Proofs.Ytehpmdmfolmaoac.exTextCut
open Go.RowKit

set_option maxRecDepth 100000 in
set_option maxHeartbeats 400000 in
theorem walk (s : ByteArray) (n : Int) (w : World) (h : s.size ≤ maxLen) :
    Calls Try.prog 7 #[.string s, .int .i64 n] w fun e w' => e = .returned (.bool true) ∧ Below w.heap.size w w' := by
  unfold maxLen at h
  obtain ⟨l, rfl, hl⟩ := mkB_of s
  have hsz : (mkB l).size = l.length := mkB_size l
  by_cases hL : l.length ≤ 1048576
  · clear h hl
    generalize hX : tcS l n = X
    generalize hY : tcB l n = Y
    have HX := Lib.hid hX
    have HY := Lib.hid hY
    clear hX hY
    have hs := specTextCut_any l n (by omega) w
    have hi := implTextCut_any l n (by omega) w
    rw [HX.out, HY.out] at hs hi
    have H1 := Lib.hid hs
    have H2 := Lib.hid hi
    clear hs hi HX HY
    go_enter Try.func7, Try.ntmps7
    go_wp2_with fail
    refine H1.out.mono ?_; rintro e w1 ⟨rfl, rfl⟩
    go_wp2_with fail
    refine H2.out.mono ?_; rintro e w1 ⟨rfl, hb⟩
    have hx : (X == X) = true := by simp
    have hy : (Y != Y) = false := by simp
    go_wp2
    clear hsz hx hy
    go_ret
    exact ⟨rfl, hb⟩
  · rw [hsz] at h
    clear hl
    go_enter Try.func7, Try.ntmps7
    go_wp2
    go_ret
    exact ⟨rfl, Below.refl _ _⟩

end Go.Proofs.Ytehpmdmfolmaoac.exTextCut
