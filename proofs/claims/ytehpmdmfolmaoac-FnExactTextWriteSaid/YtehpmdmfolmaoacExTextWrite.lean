/-
  laws.FnExactTextWrite returns true at every string, place and data: both sides return the same text and Bool. No condition.
-/
import Derived.Test.YtehpmdmfolmaoacImplWrite
namespace Go.Proofs.Ytehpmdmfolmaoac.exTextWrite
open Go.RowKit

set_option maxRecDepth 100000 in
set_option maxHeartbeats 400000 in
theorem walk (s : ByteArray) (n : Int) (s2 : ByteArray) (w : World) (h : s.size ≤ maxLen) (h2 : s2.size ≤ maxLen) :
    Calls Try.prog 6 #[.string s, .int .i64 n, .string s2] w fun e w' => e = .returned (.bool true) ∧ Below w.heap.size w w' := by
  unfold maxLen at h h2
  obtain ⟨l, rfl, hl⟩ := mkB_of s
  obtain ⟨d, rfl, hd⟩ := mkB_of s2
  have hsz : (mkB l).size = l.length := mkB_size l
  have hsz2 : (mkB d).size = d.length := mkB_size d
  rw [hsz] at h
  rw [hsz2] at h2
  clear hl hd
  by_cases hL : l.length ≤ 1048576
  · by_cases hD : d.length ≤ 1048576
    · generalize hX : twS l n d = X
      generalize hY : twB l n d = Y
      have HX := Lib.hid hX
      have HY := Lib.hid hY
      clear hX hY
      have hs := fun W => specTextWrite_any l n d (by omega) (by omega) W
      have hi := fun W => implTextWrite_any l n d (by omega) (by omega) W
      rw [HX.out, HY.out] at hs hi
      have H1 := Lib.hid hs
      have H2 := Lib.hid hi
      clear hs hi HX HY h h2
      go_enter Try.func6, Try.ntmps6
      go_wp2_with fail
      refine (H1.out _).mono ?_; rintro e w1 ⟨rfl, hb1⟩
      go_wp2_with fail
      refine (H2.out _).mono ?_; rintro e w2 ⟨rfl, hb2⟩
      have hx : (X == X) = true := by simp
      have hy : (Y != Y) = false := by simp
      go_wp2
      go_ret
      exact ⟨rfl, hb1.trans (hb2.mono hb1.size)⟩
    · go_enter Try.func6, Try.ntmps6
      go_wp2
      go_ret
      exact ⟨rfl, Below.refl _ _⟩
  · go_enter Try.func6, Try.ntmps6
    go_wp2
    go_ret
    exact ⟨rfl, Below.refl _ _⟩

end Go.Proofs.Ytehpmdmfolmaoac.exTextWrite
