/-
  laws.FnExactLockMay returns true at every input: the walk of the law. No condition.
-/
import Derived.Test.YtdcjinhaifjokaaImplMay
import Derived.Test.YtdcjinhaifjokaaSpecMay
import Derived.Test.YtdcjinhaifjokaaToHold
import Derived.Test.YtdcjinhaifjokaaToSpan
import Derived.Deep.RegionHeld3
namespace Go.Proofs.Ytdcjinhaifjokaa.exLockMay
open Go.RowKit

theorem eqT_refl (T : List HoldT) : eqT T T = true := by unfold eqT; simp

set_option maxHeartbeats 4000000 in
theorem walk (v : Value) (T : List HoldT) (who : Int) (wr : Bool) (lo hi : Int) (w : World) (h : Hds w v T) :
    Calls Try.prog 4 #[v, .int .i64 who, .bool wr, .agg #[.int .i64 lo, .int .i64 hi]] w fun e w' => e = .returned (.bool true) ∧ Below w.heap.size w w' := by
  have k := new_box w lo hi 30
  have hal : Below w.heap.size w (w.alloc (.cells #[.int .i64 lo, .int .i64 hi] 30)) := (Below.refl _ _).alloc (Nat.le_refl _) _
  have Z1 := Lib.hid (szHoldS_any v T 1048576 _ (h.keep hal) (by omega) (by omega))
  have B1 := szTab_bd T 1048576 (by omega)
  have HT0 := Lib.hid (h.keep hal)
  have tl := totT_le T
  have tt := eqT_refl T
  clear h
  generalize szTab T 1048576 = z at *
  by_cases hz : z < 0
  · clear tl tt
    go_enter Try.func4, Try.ntmps4
    go_wp2_with fail
    refine Z1.out.mono ?_; rintro e w1 ⟨rfl, hb1⟩
    go_wp2
    go_ret
    exact ⟨rfl, hal.trans (hb1.mono hal.size)⟩
  · have l1 : Hid (T.length ≤ 1048576) := by show _ ≤ _; omega
    have l3 : Hid (∀ i, i < T.length → (T.getD i hd0).1.length ≤ 1048576 ∧ (T.getD i hd0).2.length ≤ 1048576) := fun i hi => by have := tl i hi; omega
    have hTT := Lib.hid tt
    clear tl tt
    go_enter Try.func4, Try.ntmps4
    go_wp2_with fail
    refine Z1.out.mono ?_; rintro e W ⟨rfl, hbz⟩
    clear Z1
    have HT := Lib.hid (HT0.out.keep hbz)
    have e2 := hal.trans (hbz.mono hal.size)
    have k2 := k.keep hbz
    clear HT0 k hal
    obtain ⟨x1, x2, -, -⟩ := id k2
    go_wp2_with fail
    go_region_held3 (fun w' => w'.cell? ⟨w.heap.size, 0, none⟩ = some (.int .i64 lo) ∧ w'.cell? ⟨w.heap.size, 1, none⟩ = some (.int .i64 hi))
      (refine ⟨?_, ?_⟩ <;> first | (go_keep; done) | (refine cell_keep hb ?_; first | (go_keep; done) | (go_simp; done)))
      (first
        | (go_at_call 14; refine (toHoldS_any v T _ (HT.out.keep (Below.refl _ _).drew) l1.out l3.out).mono ?_; rintro e w' ⟨n3, R3, S3, rfl, h3⟩; have HR := Lib.hid (h3.hds l1.out l3.out); have hb := h3.2.2.2; clear h3; have hbW := (Below.drew (Below.refl _ _)).trans hb)
        | (go_at_call 18; refine (toSpan_any lo hi _).mono ?_; rintro e w' ⟨rfl, hb⟩; have HR2 := Lib.hid (HR.out.keep hb); have hbW2 := hbW.trans (hb.mono hbW.size))
        | (go_at_call 17; refine (specLockMay_any _ T who wr lo hi _ HR2.out).mono ?_; rintro e w' ⟨rfl, hb⟩; have hbW3 := hbW2.trans (hb.mono hbW2.size)))
    have e1 := e2.trans (hbW3.mono e2.size)
    have HS1 := Lib.hid (HT.out.keep hbW3)
    have k1 := k2.keep hbW3
    clear k2 x1 x2 HR HR2 hbW hbW2 HT
    obtain ⟨x1, x2, -, -⟩ := id k1
    go_wp2_with fail
    refine (toHoldS_any v T _ HS1.out l1.out l3.out).mono ?_; rintro e w6 ⟨n6, R6, S6, rfl, h6⟩
    have g6 := Lib.hid (h6.hds l1.out l3.out)
    have e6 := e1.trans (h6.2.2.2.mono e1.size)
    have HS6 := Lib.hid (HS1.out.keep h6.2.2.2)
    have k6 := k1.keep h6.2.2.2
    clear h6 x1 x2 k1 e1 HS1
    obtain ⟨x1, x2, -, -⟩ := id k6
    go_wp2_with fail
    refine (toSpan_any lo hi _).mono ?_; rintro e w5 ⟨rfl, hb5⟩
    have g5 := Lib.hid (g6.out.keep hb5)
    have e5 := e6.trans (hb5.mono e6.size)
    have HS5 := Lib.hid (HS6.out.keep hb5)
    clear x1 x2 k6 e6 HS6 g6
    go_wp2_with fail
    refine (implLockMay_any _ T who wr lo hi _ g5.out).mono ?_; rintro e w7 ⟨rfl, hb7⟩
    have e7 := e5.trans (hb7.mono e5.size)
    have g7 := Lib.hid (g5.out.keep hb7)
    have HS7 := Lib.hid (HS5.out.keep hb7)
    have hd : (mayB T who wr lo hi != mayB T who wr lo hi) = false := by simp
    clear g5 hb7 e5 HS5
    go_wp2_with fail
    refine (toHoldS_any v T _ HS7.out l1.out l3.out).mono ?_; rintro e w9 ⟨n9, R9, S9, rfl, h9⟩
    have g9 := Lib.hid (h9.hds l1.out l3.out)
    have g8 := Lib.hid (g7.out.keep (h9.2.2.2))
    have e9 := e7.trans (h9.2.2.2.mono e7.size)
    clear h9 e7 g7
    go_wp2_with fail
    refine (eqHoldS_any _ _ T T _ g8.out g9.out).mono ?_; rintro e w10 ⟨rfl, hb10⟩
    have e10 := e9.trans (hb10.mono e9.size)
    have htt := hTT.out
    go_wp2
    go_ret
    exact ⟨rfl, e10⟩

end Go.Proofs.Ytdcjinhaifjokaa.exLockMay
