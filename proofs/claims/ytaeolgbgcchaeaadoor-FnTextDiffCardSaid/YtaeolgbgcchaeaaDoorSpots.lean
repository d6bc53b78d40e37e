/-
  Contracts of the bit sets (Span.spots, spotsOf) and of the model's coverage (l1In, l1Has).
-/
import Derived.Test.YtaeolgbgcchaeaaDoorRow2
import Derived.Test.YtaeolgbgcchaeaaDoorBitsMath
namespace Go.Proofs.YtaeolgbgcchaeaaDoor
open Go.RowKit

theorem ret_u64 {a b : Int} (h : a = b) : Ending.returned (.int .u64 a) = .returned (.int .u64 b) := by rw [h]

set_option maxHeartbeats 1000000 in
theorem spots_any (lo hi : Int) (w : World) (h : spanOkB lo hi = true) :
    Calls Tryd.prog 40 #[.agg #[.int .i64 lo, .int .i64 hi]] w fun e w' => e = .returned (.int .u64 ((msk (lo, hi) : Nat) : Int)) ∧ Below w.heap.size w w' := by
  have hm := msk_walk (lo, hi) h
  have HM := Lib.hid hm
  obtain ⟨h0, h1, h2⟩ := spanOkB_iff.1 h
  clear hm h
  go_enter Tryd.func40, Tryd.ntmps40
  go_wp2_with fail
  have k := new_box w lo hi 33
  have d1 : ∀ x : BelowOf (w.alloc (.cells #[.int .i64 lo, .int .i64 hi] 33)), x.w.cell? ⟨w.heap.size, 0, none⟩ = some (.int .i64 lo) := fun x => x.cell k.1
  have d2 : ∀ x : BelowOf (w.alloc (.cells #[.int .i64 lo, .int .i64 hi] 33)), x.w.cell? ⟨w.heap.size, 1, none⟩ = some (.int .i64 hi) := fun x => x.cell k.2.1
  refine wp_region_calm (by kernel_rfl) (by kernel_rfl) ?_
  repeat (go_big_quiet_step (fail))
  refine wpQuiet_nil ?_
  rintro _ ⟨x, rfl⟩
  have hb2 := x.below
  clear d1 d2
  go_wp2
  go_ret
  exact ⟨ret_u64 HM.out, ((Below.refl _ _).alloc (Nat.le_refl _) _).trans (hb2.mono (by simp))⟩


theorem inB_step (L : List Rng) (at' : Int) (k : Nat) (h : k < L.length) : inB (L.drop k) at' = ((decide ((L.getD k (0, 0)).1 ≤ at') && decide (at' < (L.getD k (0, 0)).2)) || inB (L.drop (k + 1)) at') := by
  rw [drop_cons L k h]; rfl


end Go.Proofs.YtaeolgbgcchaeaaDoor
