/-
  laws.FnExactLayLong returns true at every layout and list of numbers: both sides return the same, and the argument is as it was. No condition.
-/
import Derived.Test.YteglfdcoeogilabToInt
namespace Go.Proofs.Yteglfdcoeogilab.exLayLong
open Go.RowKit

set_option maxRecDepth 100000 in
set_option maxHeartbeats 1000000 in
theorem walk (lo hi : Int) (v : Value) (n : Nat) (L : Nat → Int) (w : World) (h : Vls w v n (ints L)) :
    Calls Try.prog 9 #[.agg #[.int .i64 lo, .int .i64 hi], v] w fun e w' => e = .returned (.bool true) ∧ Below w.heap.size w w' := by
  have k := new_box w lo hi 41
  have hal : Below w.heap.size w (w.alloc (.cells #[.int .i64 lo, .int .i64 hi] 41)) := (Below.refl _ _).alloc (Nat.le_refl _) _
  have HV := Lib.hid (h.keep hal)
  obtain ⟨a, cap, rfl, hl, hm, -⟩ := h
  unfold maxLen at hm
  by_cases hL : n ≤ 1048576
  · obtain ⟨B, hB⟩ : ∃ B, llF lo hi n L = B := ⟨_, rfl⟩
    have H1 : Hid (∀ W u, Vls W u n (ints L) → Calls Try.prog 32 #[.agg #[.int .i64 lo, .int .i64 hi], u] W fun e w' => e = .returned (.int .i64 B) ∧ Below W.heap.size W w') := fun W u hu => by
      have := specLayLong_any lo hi u n L W hu; rwa [hB] at this
    have H2 : Hid (∀ W u, Vls W u n (ints L) → Calls Try.prog 19 #[.agg #[.int .i64 lo, .int .i64 hi], u] W fun e w' => e = .returned (.int .i64 B) ∧ Below W.heap.size W w') := fun W u hu => by
      have := implLayLong_any lo hi u n L W hu; rwa [hB] at this
    have H3 : Hid (∀ W, Vls W (.slice a n cap) n (ints L) → Calls Try.prog 33 #[.slice a n cap] W (ToR W n (ints L))) := fun W hu => toIntS_any _ n L W hu hL
    clear hB
    obtain ⟨x1, x2, -, -⟩ := id k
    go_enter Try.func9, Try.ntmps9
    go_wp2_with fail
    refine (toLay_any lo hi _).mono ?_; rintro e w1 ⟨rfl, hb1⟩
    have e1 := hal.trans (hb1.mono hal.size)
    have V1 := Lib.hid (HV.out.keep hb1)
    have k1 := k.keep hb1
    clear x1 x2 HV
    go_wp2_with fail
    refine (H3.out _ V1.out).mono ?_; rintro e w2 ⟨nb, rfl, hnb, hr2, hb2⟩
    have e2 := e1.trans (hb2.mono e1.size)
    have V2 := Lib.hid (V1.out.keep hb2)
    have R2 := Lib.hid (hr2.vls (Nat.le_refl _) (by unfold maxLen; omega))
    have k2 := k1.keep hb2
    clear hr2 V1 hnb
    go_wp2_with fail
    refine (H1.out _ _ R2.out).mono ?_; rintro e w3 ⟨rfl, hb3⟩
    have e3 := e2.trans (hb3.mono e2.size)
    have V3 := Lib.hid (V2.out.keep hb3)
    have k3 := k2.keep hb3
    clear V2 R2
    go_wp2_with fail
    refine (H3.out _ V3.out).mono ?_; rintro e w4 ⟨nc, rfl, hnc, hr4, hb4⟩
    have e4 := e3.trans (hb4.mono e3.size)
    have V4 := Lib.hid (V3.out.keep hb4)
    have R4 := Lib.hid (hr4.vls (Nat.le_refl _) (by unfold maxLen; omega))
    have k4 := k3.keep hb4
    obtain ⟨x1, x2, -, -⟩ := id k4
    clear hr4 V3 hnc
    go_wp2_with fail
    refine (toLay_any lo hi _).mono ?_; rintro e w5 ⟨rfl, hb5⟩
    have e5 := e4.trans (hb5.mono e4.size)
    have V5 := Lib.hid (V4.out.keep hb5)
    have R5 := Lib.hid (R4.out.keep hb5)
    clear x1 x2 V4 R4
    go_wp2_with fail
    refine (H2.out _ _ R5.out).mono ?_; rintro e w6 ⟨rfl, hb6⟩
    have e6 := e5.trans (hb6.mono e5.size)
    have V6 := Lib.hid (V5.out.keep hb6)
    have R6 := Lib.hid (R5.out.keep hb6)
    clear V5 R5
    go_wp2_with fail
    refine (H3.out _ V6.out).mono ?_; rintro e w7 ⟨nd, rfl, hnd, hr7, hb7⟩
    have e7 := e6.trans (hb7.mono e6.size)
    have R7 := Lib.hid (R6.out.keep hb7)
    have S7 := Lib.hid (hr7.vls (Nat.le_refl _) (by unfold maxLen; omega))
    clear hr7 V6 hnd
    go_wp2_with fail
    refine (eqIntS_any _ _ n L _ R7.out S7.out).mono ?_; rintro e w8 ⟨rfl, hb8⟩
    have e8 := e7.trans (hb8.mono e7.size)
    go_wp2
    go_ret
    exact ⟨rfl, e8⟩
  · go_enter Try.func9, Try.ntmps9
    go_wp2
    go_ret
    exact ⟨rfl, hal⟩

end Go.Proofs.Yteglfdcoeogilab.exLayLong
