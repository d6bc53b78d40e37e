/-
  laws.FnExactTextRead returns true at every string and pair of numbers: both sides return the same text. No condition.
-/
import Derived.Test.YtehpmdmfolmaoacRead
namespace Go.Proofs.Ytehpmdmfolmaoac.exTextRead
open Go.RowKit

set_option maxRecDepth 100000 in
set_option maxHeartbeats 400000 in
theorem walk (s : ByteArray) (lo hi : Int) (w : World) (h : s.size ≤ maxLen) :
    Calls Try.prog 5 #[.string s, .agg #[.int .i64 lo, .int .i64 hi]] w fun e w' => e = .returned (.bool true) ∧ Below w.heap.size w w' := by
  unfold maxLen at h
  obtain ⟨l, rfl, hl⟩ := mkB_of s
  have hsz : (mkB l).size = l.length := mkB_size l
  have k := new_box w lo hi 31
  have hal : Below w.heap.size w (w.alloc (.cells #[.int .i64 lo, .int .i64 hi] 31)) := (Below.refl _ _).alloc (Nat.le_refl _) _
  rw [hsz] at h
  clear hl
  by_cases hL : l.length ≤ 1048576
  · generalize hX : trS l lo hi = X
    have HX := Lib.hid hX
    clear hX
    have hs := fun W => specTextRead_any l lo hi (by omega) W
    have hi' := fun W => implTextRead_any l lo hi (by omega) W
    rw [HX.out] at hs hi'
    have H1 := Lib.hid hs
    have H2 := Lib.hid hi'
    clear hs hi' HX h
    obtain ⟨x1, x2, -, -⟩ := id k
    go_enter Try.func5, Try.ntmps5
    go_wp2_with fail
    refine (toSpan_any lo hi _).mono ?_; rintro e w1 ⟨rfl, hb1⟩
    have e1 := hal.trans (hb1.mono hal.size)
    clear x1 x2
    obtain ⟨x1, x2, -, -⟩ := k.keep hb1
    go_wp2_with fail
    refine (H1.out _).mono ?_; rintro e w2 ⟨rfl, hb2⟩
    have e2 := e1.trans (hb2.mono e1.size)
    clear x1 x2
    obtain ⟨x1, x2, -, -⟩ := (k.keep hb1).keep hb2
    go_wp2_with fail
    refine (toSpan_any lo hi _).mono ?_; rintro e w3 ⟨rfl, hb3⟩
    have e3 := e2.trans (hb3.mono e2.size)
    go_wp2_with fail
    refine (H2.out _).mono ?_; rintro e w4 ⟨rfl, hb4⟩
    have e4 := e3.trans (hb4.mono e3.size)
    clear x1 x2
    go_wp2
    go_ret
    exact ⟨rfl, e4⟩
  · go_enter Try.func5, Try.ntmps5
    go_wp2
    go_ret
    exact ⟨rfl, hal⟩

end Go.Proofs.Ytehpmdmfolmaoac.exTextRead
