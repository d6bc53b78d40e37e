/-
  laws.FnExactLayBack returns true at every layout and number: both sides return the same. No condition.
-/
import Derived.Test.YteglfdcoeogilabLayFn
namespace Go.Proofs.Yteglfdcoeogilab.exLayBack
open Go.RowKit

set_option maxRecDepth 100000 in
set_option maxHeartbeats 400000 in
theorem walk (lo hi obj a : Int) (w : World) :
    Calls Try.prog 6 #[.agg #[.int .i64 lo, .int .i64 hi], .int .i64 obj, .int .i64 a] w fun e w' => e = .returned (.bool true) ∧ Below w.heap.size w w' := by
  have k := new_box w lo hi 41
  have hal : Below w.heap.size w (w.alloc (.cells #[.int .i64 lo, .int .i64 hi] 41)) := (Below.refl _ _).alloc (Nat.le_refl _) _
  obtain ⟨B, hB⟩ : ∃ B, lbF lo hi obj a = B := ⟨_, rfl⟩
  have H1 := fun W => specLayBack_any lo hi obj a W
  have H2 := fun W => implLayBack_any lo hi obj a W
  rw [hB] at H1 H2
  clear hB
  obtain ⟨x1, x2, -, -⟩ := id k
  go_enter Try.func6, Try.ntmps6
  go_wp2_with fail
  refine (toLay_any lo hi _).mono ?_; rintro e w1 ⟨rfl, hb1⟩
  have e1 := hal.trans (hb1.mono hal.size)
  clear x1 x2
  obtain ⟨x1, x2, -, -⟩ := k.keep hb1
  go_wp2_with fail
  refine (H1 _).mono ?_; rintro e w2 ⟨rfl, hb2⟩
  have e2 := e1.trans (hb2.mono e1.size)
  clear x1 x2
  obtain ⟨x1, x2, -, -⟩ := (k.keep hb1).keep hb2
  go_wp2_with fail
  refine (toLay_any lo hi _).mono ?_; rintro e w3 ⟨rfl, hb3⟩
  have e3 := e2.trans (hb3.mono e2.size)
  clear x1 x2
  go_wp2_with fail
  refine (H2 _).mono ?_; rintro e w4 ⟨rfl, hb4⟩
  have e4 := e3.trans (hb4.mono e3.size)
  go_wp2
  go_ret
  exact ⟨rfl, e4⟩

end Go.Proofs.Yteglfdcoeogilab.exLayBack
