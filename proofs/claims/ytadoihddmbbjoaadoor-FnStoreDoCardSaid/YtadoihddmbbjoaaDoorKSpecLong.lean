/-
  The model's l2Long, l1Min: what each returns.
-/
import Derived.Test.YtadoihddmbbjoaaDoorKText
import Derived.Deep.DeepCutAuto
namespace Go.Proofs.YtadoihddmbbjoaaDoor
open Go.RowKit

theorem ret_str {a b : List UInt8} (h : a = b) : Ending.returned (.string (mkB a)) = .returned (.string (mkB b)) := by rw [h]
theorem ret_sb {a b : List UInt8} {x y : Bool} (h : a = b) (h' : x = y) : Ending.returned (.tuple #[.string (mkB a), .bool x]) = .returned (.tuple #[.string (mkB b), .bool y]) := by rw [h, h']

set_option maxHeartbeats 400000 in
theorem lmin_any (a b : Int) (w : World) :
    Calls Tryd.prog 78 #[.int .i64 a, .int .i64 b] w fun e w' => e = .returned (.int .i64 (min a b)) ∧ w = w' := by
  by_cases h : a < b
  · rw [Int.min_eq_left (by omega)]
    go_enter Tryd.func78, Tryd.ntmps78
    go_wp2
    go_ret
    exact ⟨rfl, rfl⟩
  · rw [Int.min_eq_right (by omega)]
    go_enter Tryd.func78, Tryd.ntmps78
    go_wp2
    go_ret
    exact ⟨rfl, rfl⟩

/-- A string and a byte more. -/
theorem add_mk (a b : List UInt8) (h : a.length + b.length ≤ 9223372036854775807) (w : World) : (Op.stringOp .add (mkB a) (mkB b)).run Tryd.prog w = .ok (.string (mkB (a ++ b))) w := by
  rw [run_string_add_sum w _ _ (by rw [mkB_size, mkB_size]; exact h), mkB_app]

set_option maxHeartbeats 1000000 in
theorem l2Long_any (l : List UInt8) (n : Nat) (hn : n ≤ 1000000) (w : World) :
    Calls Tryd.prog 77 #[.string (mkB l), .int .i64 n] w fun e w' => e = .returned (.string (mkB (padL l n))) ∧ w = w' := by
  go_enter Tryd.func77, Tryd.ntmps77
  go_wp2
  go_loopg [0] (n - l.length) (fun g t wr => ∃ k : Nat, g = n - l.length - k ∧ k ≤ n - l.length ∧ t = .string (mkB (l ++ List.replicate k 46)) ∧ w = wr)
  case atStart => exact ⟨0, by omega, Nat.zero_le _, by simp, rfl⟩
  case round =>
    obtain ⟨k, rfl, hk, rfl, rfl⟩ := hrel
    have hX : (l ++ List.replicate k 46).length = l.length + k := by simp
    have hsz : (mkB (l ++ List.replicate k 46)).size = l.length + k := by rw [mkB_size, hX]
    by_cases hlt : l.length + k < n
    · have hadd : (Op.stringOp .add (mkB (l ++ List.replicate k 46)) ⟨#[46]⟩).run Tryd.prog w = .ok (.string (mkB (l ++ List.replicate (k + 1) 46))) w := by
        have e : l ++ List.replicate (k + 1) 46 = (l ++ List.replicate k 46) ++ [46] := by rw [List.append_assoc, ← List.replicate_succ']
        rw [e]
        exact add_mk (l ++ List.replicate k 46) [46] (by rw [hX]; simp; omega) w
      clear hX
      go_wp2
      go_roundg (n - l.length - (k + 1))
      case measure => omega
      case rel => exact ⟨k + 1, rfl, by omega, rfl, rfl⟩
    · have hp : Hid (padL l n = l ++ List.replicate k 46) := by show _ = _; unfold padL; rw [show n - l.length = k by omega]
      clear hX
      go_wp2
      go_ret
      exact ⟨ret_str hp.out.symm, rfl⟩

end Go.Proofs.YtadoihddmbbjoaaDoor
