/-
  LockOk of the program.
-/
import Derived.Test.YteabigobnjebaaaLocksOf
namespace Go.Proofs.Yteabigobnjebaaa
open Go.RowKit

set_option maxHeartbeats 1000000 in
theorem implLockOk_any (v : Value) (T : List HoldT) (w : World) (h : Hds w v T) :
    Calls Try.prog 21 #[v] w fun e w' => e = .returned (.bool (lockOkB T)) ∧ Below w.heap.size w w' := by
  have K := Lib.hid (locksOf_any v T w h)
  clear h
  by_cases hq : lockOkB T = true
  · have HQ := Lib.hid hq
    clear hq
    go_enter Try.func21, Try.ntmps21
    go_wp2_with fail
    refine K.out.mono ?_; rintro e w1 hp
    unfold LkPost at hp
    rw [if_pos HQ.out] at hp
    obtain ⟨v', gs, cs, Rs, rfl, -, -, hb⟩ := hp
    go_wp2
    go_ret
    exact ⟨ret_bool HQ.out.symm, hb⟩
  · have HQ : Hid (lockOkB T = false) := by show _ = _; simpa using hq
    clear hq
    go_enter Try.func21, Try.ntmps21
    go_wp2_with fail
    refine K.out.mono ?_; rintro e w1 hp
    unfold LkPost at hp
    rw [if_neg (by rw [HQ.out]; simp)] at hp
    obtain ⟨rfl, hb⟩ := hp
    go_wp2
    go_ret
    exact ⟨ret_bool HQ.out.symm, hb⟩

end Go.Proofs.Yteabigobnjebaaa
