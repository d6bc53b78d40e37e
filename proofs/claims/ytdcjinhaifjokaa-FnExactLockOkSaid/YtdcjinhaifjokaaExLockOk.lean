/-
  laws.FnExactLockOk returns true at every input: the walk of the law. No condition.
-/
import Derived.Test.YtdcjinhaifjokaaImplOk
import Derived.Test.YtdcjinhaifjokaaClear
import Derived.Test.YtdcjinhaifjokaaToHold
namespace Go.Proofs.Ytdcjinhaifjokaa.exLockOk
open Go.RowKit

theorem eqT_refl (T : List HoldT) : eqT T T = true := by unfold eqT; simp

set_option maxHeartbeats 2000000 in
theorem walk (v : Value) (T : List HoldT)  (w : World) (h : Hds w v T) :
    Calls Try.prog 3 #[v] w fun e w' => e = .returned (.bool true) ∧ Below w.heap.size w w' := by
  have Z1 := Lib.hid (szHoldS_any v T 1048576 w h (by omega) (by omega))
  have B1 := szTab_bd T 1048576 (by omega)
  have HT := Lib.hid h
  have tl := totT_le T
  have tt := eqT_refl T
  clear h
  generalize szTab T 1048576 = z at *
  by_cases hz : z < 0
  · clear tl tt
    go_enter Try.func3, Try.ntmps3
    go_wp2_with fail
    refine Z1.out.mono ?_; rintro e w1 ⟨rfl, hb1⟩
    go_wp2
    go_ret
    exact ⟨rfl, hb1⟩
  · have l1 : Hid (T.length ≤ 1048576) := by show _ ≤ _; omega
    have l3 : Hid (∀ i, i < T.length → (T.getD i hd0).1.length ≤ 1048576 ∧ (T.getD i hd0).2.length ≤ 1048576) := fun i hi => by have := tl i hi; omega
    have hTT := Lib.hid tt
    clear tl tt
    go_enter Try.func3, Try.ntmps3
    go_wp2_with fail
    refine Z1.out.mono ?_; rintro e w1 ⟨rfl, e2⟩
    clear Z1
    go_wp2_with fail
    refine (toHoldS_any v T _ (HT.out.keep e2) l1.out l3.out).mono ?_; rintro e w3 ⟨n3, R3, S3, rfl, h3⟩
    have g3 := Lib.hid (h3.hds l1.out l3.out)
    have e3 := e2.trans (h3.2.2.2.mono e2.size)
    clear h3 e2
    go_wp2_with fail
    refine (specLockOk_any _ T _ g3.out).mono ?_; rintro e w4 ⟨rfl, hb4⟩
    have e4 := e3.trans (hb4.mono e3.size)
    clear e3
    go_wp2_with fail
    refine (toHoldS_any v T _ (HT.out.keep e4) l1.out l3.out).mono ?_; rintro e w6 ⟨n6, R6, S6, rfl, h6⟩
    have g6 := Lib.hid (h6.hds l1.out l3.out)
    have e6 := e4.trans (h6.2.2.2.mono e4.size)
    clear h6 e4 g3
    go_wp2_with fail
    refine (implLockOk_any _ T _ g6.out).mono ?_; rintro e w7 ⟨rfl, hb7⟩
    have e7 := e6.trans (hb7.mono e6.size)
    clear e6
    have g7 := Lib.hid (g6.out.keep hb7)
    have hd : (lockOkB T != lockOkB T) = false := by simp
    clear g6 hb7
    go_wp2_with fail
    refine (toHoldS_any v T _ (HT.out.keep e7) l1.out l3.out).mono ?_; rintro e w9 ⟨n9, R9, S9, rfl, h9⟩
    have g9 := Lib.hid (h9.hds l1.out l3.out)
    have g8 := Lib.hid (g7.out.keep (h9.2.2.2))
    have e9 := e7.trans (h9.2.2.2.mono e7.size)
    clear h9 e7 g7
    go_wp2_with fail
    refine (eqHoldS_any _ _ T T _ g8.out g9.out).mono ?_; rintro e w10 ⟨rfl, hb10⟩
    have e10 := e9.trans (hb10.mono e9.size)
    have htt := hTT.out
    go_wp2
    go_ret
    exact ⟨rfl, e10⟩

end Go.Proofs.Ytdcjinhaifjokaa.exLockOk
