/-
  laws.FnExactLockSame returns true at every two tables: the walk of the law. No condition.
-/
import Derived.Test.YtdcjinhaifjokaaLockSame
namespace Go.Proofs.Ytdcjinhaifjokaa.exLockSame
open Go.RowKit

theorem eqT_refl (T : List HoldT) : eqT T T = true := by unfold eqT; simp

set_option maxHeartbeats 2000000 in
theorem walk (v : Value) (T : List HoldT) (u : Value) (U : List HoldT) (w : World) (h : Hds w v T) (h' : Hds w u U) :
    Calls Try.prog 10 #[v, u] w fun e w' => e = .returned (.bool true) ∧ Below w.heap.size w w' := by
  have Z1 := Lib.hid (szHoldS_any v T 1048576 w h (by omega) (by omega))
  have B1 := szTab_bd T 1048576 (by omega)
  have HT := Lib.hid h
  have HU := Lib.hid h'
  have tl := totT_le T
  have ul := totT_le U
  have tt := eqT_refl T
  have uu := eqT_refl U
  clear h h'
  generalize szTab T 1048576 = z at *
  by_cases hz : z < 0
  · clear tl ul tt uu
    go_enter Try.func10, Try.ntmps10
    go_wp2_with fail
    refine Z1.out.mono ?_; rintro e w1 ⟨rfl, hb1⟩
    go_wp2
    go_ret
    exact ⟨rfl, hb1⟩
  · have B2 := szTab_bd U z (by omega)
    have Z2 := fun w1 (hb : Below w.heap.size w w1) => szHoldS_any u U z w1 (HU.out.keep hb) (by omega) (by omega)
    have Z2 := Lib.hid Z2
    generalize szTab U z = y at *
    by_cases hy : y < 0
    · clear tl ul tt uu
      go_enter Try.func10, Try.ntmps10
      go_wp2_with fail
      refine Z1.out.mono ?_; rintro e w1 ⟨rfl, hb1⟩
      go_wp2_with fail
      refine (Z2.out _ hb1).mono ?_; rintro e w2 ⟨rfl, hb2⟩
      go_wp2
      go_ret
      exact ⟨rfl, hb1.trans (hb2.mono hb1.size)⟩
    · have l1 : Hid (T.length ≤ 1048576) := by show _ ≤ _; omega
      have l2 : Hid (U.length ≤ 1048576) := by show _ ≤ _; omega
      have l3 : Hid (∀ i, i < T.length → (T.getD i hd0).1.length ≤ 1048576 ∧ (T.getD i hd0).2.length ≤ 1048576) := fun i hi => by have := tl i hi; omega
      have l4 : Hid (∀ i, i < U.length → (U.getD i hd0).1.length ≤ 1048576 ∧ (U.getD i hd0).2.length ≤ 1048576) := fun i hi => by have := ul i hi; omega
      have hTT := Lib.hid tt
      have hUU := Lib.hid uu
      clear tl ul tt uu
      go_enter Try.func10, Try.ntmps10
      go_wp2_with fail
      refine Z1.out.mono ?_; rintro e w1 ⟨rfl, hb1⟩
      go_wp2_with fail
      refine (Z2.out _ hb1).mono ?_; rintro e w2 ⟨rfl, hb2⟩
      have e2 := hb1.trans (hb2.mono hb1.size)
      clear hb1 hb2 Z1 Z2
      go_wp2_with fail
      refine (toHoldS_any v T _ (HT.out.keep e2) l1.out l3.out).mono ?_; rintro e w3 ⟨n3, R3, S3, rfl, h3⟩
      have g3 := Lib.hid (h3.hds l1.out l3.out)
      have e3 := e2.trans (h3.2.2.2.mono e2.size)
      clear h3 e2
      go_wp2_with fail
      refine (toHoldS_any u U _ (HU.out.keep e3) l2.out l4.out).mono ?_; rintro e w4 ⟨n4, R4, S4, rfl, h4⟩
      have g4 := Lib.hid (h4.hds l2.out l4.out)
      have g3' := Lib.hid (g3.out.keep (h4.2.2.2))
      have e4 := e3.trans (h4.2.2.2.mono e3.size)
      clear h4 e3 g3
      go_wp2_with fail
      refine (specLockSame_any _ _ T U _ g3'.out g4.out).mono ?_; rintro e w5 ⟨rfl, hb5⟩
      have e5 := e4.trans (hb5.mono e4.size)
      clear e4 hb5 g3' g4
      go_wp2_with fail
      refine (toHoldS_any v T _ (HT.out.keep e5) l1.out l3.out).mono ?_; rintro e w6 ⟨n6, R6, S6, rfl, h6⟩
      have g6 := Lib.hid (h6.hds l1.out l3.out)
      have e6 := e5.trans (h6.2.2.2.mono e5.size)
      clear h6 e5
      go_wp2_with fail
      refine (toHoldS_any u U _ (HU.out.keep e6) l2.out l4.out).mono ?_; rintro e w7 ⟨n7, R7, S7, rfl, h7⟩
      have g7 := Lib.hid (h7.hds l2.out l4.out)
      have g6' := Lib.hid (g6.out.keep (h7.2.2.2))
      have e7 := e6.trans (h7.2.2.2.mono e6.size)
      clear h7 e6 g6
      go_wp2_with fail
      refine (implLockSame_any _ _ T U _ g6'.out g7.out).mono ?_; rintro e w8 ⟨rfl, hb8⟩
      have e8 := e7.trans (hb8.mono e7.size)
      have g6 := Lib.hid (g6'.out.keep hb8)
      have g8 := Lib.hid (g7.out.keep hb8)
      have hd : (eqT T U != eqT T U) = false := by simp
      clear e7 hb8 g6' g7
      go_wp2_with fail
      refine (toHoldS_any v T _ (HT.out.keep e8) l1.out l3.out).mono ?_; rintro e w9 ⟨n9, R9, S9, rfl, h9⟩
      have g9 := Lib.hid (h9.hds l1.out l3.out)
      have g6' := Lib.hid (g6.out.keep (h9.2.2.2))
      have g8' := Lib.hid (g8.out.keep (h9.2.2.2))
      have e9 := e8.trans (h9.2.2.2.mono e8.size)
      clear h9 e8 g6 g8
      go_wp2_with fail
      refine (eqHoldS_any _ _ T T _ g6'.out g9.out).mono ?_; rintro e w10 ⟨rfl, hb10⟩
      have e10 := e9.trans (hb10.mono e9.size)
      have g8 := Lib.hid (g8'.out.keep hb10)
      have htt := hTT.out
      clear e9 hb10 g8' g9 g6'
      go_wp2_with fail
      refine (toHoldS_any u U _ (HU.out.keep e10) l2.out l4.out).mono ?_; rintro e w11 ⟨n11, R11, S11, rfl, h11⟩
      have g11 := Lib.hid (h11.hds l2.out l4.out)
      have g8' := Lib.hid (g8.out.keep (h11.2.2.2))
      have e11 := e10.trans (h11.2.2.2.mono e10.size)
      clear h11 e10 g8
      go_wp2_with fail
      refine (eqHoldS_any _ _ U U _ g8'.out g11.out).mono ?_; rintro e w12 ⟨rfl, hb12⟩
      have huu := hUU.out
      go_wp2
      go_ret
      exact ⟨rfl, e11.trans (hb12.mono e11.size)⟩

end Go.Proofs.Ytdcjinhaifjokaa.exLockSame
