/-
  laws.FnExactSpansHave returns true at every list and range: the walk of the law. No condition.
-/
import Derived.Test.YtcnjceobjmbffabHave
import Derived.Deep.RegionHeld3
namespace Go.Proofs.Ytcnjceobjmbffab.exSpansHave
open Go.RowKit

theorem eqB_refl (L : List Rng) : eqB L L = true := by unfold eqB; simp

set_option maxHeartbeats 4000000 in
theorem walk (v : Value) (L : List Rng) (lo hi : Int) (w : World) (h : Spn w v L) :
    Calls Try.prog 3 #[v, .agg #[.int .i64 lo, .int .i64 hi]] w fun e w' => e = .returned (.bool true) ∧ Below w.heap.size w w' := by
  have k := new_box w lo hi 24
  have hal : Below w.heap.size w (w.alloc (.cells #[.int .i64 lo, .int .i64 hi] 24)) := (Below.refl _ _).alloc (Nat.le_refl _) _
  have hsz := szSpanS_any v L _ (h.keep hal)
  have HS0 := Lib.hid (h.keep hal)
  clear h
  by_cases hL : L.length ≤ 1048576
  · rw [if_pos hL] at hsz
    have hm : L.length ≤ maxLen := by unfold maxLen; omega
    have HM := Lib.hid hm
    have HZ := Lib.hid hsz
    have he := eqB_refl L
    clear hsz hm
    go_enter Try.func3, Try.ntmps3
    go_wp2_with fail
    refine HZ.out.mono ?_; rintro e w' ⟨rfl, rfl⟩
    clear HZ
    generalize (w.alloc (.cells #[.int .i64 lo, .int .i64 hi] 24)) = W at *
    obtain ⟨x1, x2, -, -⟩ := id k
    go_wp2_with fail
    go_region_held3 (fun w' => w'.cell? ⟨w.heap.size, 0, none⟩ = some (.int .i64 lo) ∧ w'.cell? ⟨w.heap.size, 1, none⟩ = some (.int .i64 hi))
      (refine ⟨?_, ?_⟩ <;> first | (go_keep; done) | (refine cell_keep hb ?_; first | (go_keep; done) | (go_simp; done)))
      (first
        | (go_at_call 7; refine (toSpanS_any v L _ (HS0.out.keep (Below.refl _ _).drew) hL).mono ?_; rintro e w' ⟨nb, rfl, hn, hr, hb⟩; have HR := Lib.hid hr; clear hr; have hbW := (Below.drew (Below.refl _ _)).trans hb)
        | (go_at_call 8; refine (toSpan_any lo hi _).mono ?_; rintro e w' ⟨rfl, hb⟩; have HR2 := Lib.hid (HR.out.keep hb); have hbW2 := hbW.trans (hb.mono hbW.size))
        | (go_at_call 6; refine (specSpansHave_any _ L lo hi _ (HR2.out.spn HM.out)).mono ?_; rintro e w' ⟨rfl, hb⟩; have hbW3 := hbW2.trans (hb.mono hbW2.size)))
    have e1 := hal.trans (hbW3.mono hal.size)
    have HS1 := Lib.hid (HS0.out.keep hbW3)
    have k1 := k.keep hbW3
    clear k x1 x2 HR HR2 hbW hbW2
    go_wp2_with fail
    refine (toSpanS_any v L _ HS1.out hL).mono ?_; rintro e w3 ⟨b3, rfl, hn3, hr3, hb3⟩
    have H3 := Lib.hid hr3
    have e3 := e1.trans (hb3.mono e1.size)
    have HS3 := Lib.hid (HS1.out.keep hb3)
    have k3 := k1.keep hb3
    obtain ⟨x1, x2, -, -⟩ := id k3
    clear hr3
    go_wp2_with fail
    refine (toSpan_any lo hi _).mono ?_; rintro e w4 ⟨rfl, hb4⟩
    have H4 := Lib.hid (H3.out.keep hb4)
    have e4 := e3.trans (hb4.mono e3.size)
    have HS4 := Lib.hid (HS3.out.keep hb4)
    clear x1 x2
    go_wp2_with fail
    refine (implSpansHave_any _ L lo hi _ (H4.out.spn HM.out)).mono ?_; rintro e w5 ⟨rfl, hb5⟩
    have H5 := Lib.hid (H4.out.keep hb5)
    have e5 := e4.trans (hb5.mono e4.size)
    have HS5 := Lib.hid (HS4.out.keep hb5)
    have hd : (haveB L (lo, hi) != haveB L (lo, hi)) = false := by simp
    go_wp2_with fail
    refine (toSpanS_any v L _ HS5.out hL).mono ?_; rintro e w6 ⟨b6, rfl, hn6, hr6, hb6⟩
    have H6 := Lib.hid (H5.out.keep hb6)
    have H7 := Lib.hid hr6
    have e6 := e5.trans (hb6.mono e5.size)
    clear hr6
    go_wp2_with fail
    refine (eqSpanS_any _ _ L L _ (H6.out.spn HM.out) (H7.out.spn HM.out)).mono ?_; rintro e w7 ⟨rfl, hb7⟩
    have e7 := e6.trans (hb7.mono e6.size)
    go_wp2
    go_ret
    exact ⟨rfl, e7⟩
  · rw [if_neg hL] at hsz
    have HZ := Lib.hid hsz
    clear hsz
    go_enter Try.func3, Try.ntmps3
    go_wp2_with fail
    refine HZ.out.mono ?_; rintro e w' ⟨rfl, rfl⟩
    go_wp2
    go_ret
    exact ⟨rfl, hal⟩

end Go.Proofs.Ytcnjceobjmbffab.exSpansHave
