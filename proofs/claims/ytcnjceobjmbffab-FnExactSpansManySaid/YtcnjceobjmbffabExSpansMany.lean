/-
  laws.FnExactSpansMany returns true at every list of ranges: the walk of the law. No condition.
-/
import Derived.Test.YtcnjceobjmbffabMany
namespace Go.Proofs.Ytcnjceobjmbffab.exSpansMany
open Go.RowKit

theorem eqB_refl (L : List Rng) : eqB L L = true := by unfold eqB; simp

set_option maxHeartbeats 1000000 in
theorem walk (v : Value) (L : List Rng) (w : World) (h : Spn w v L) :
    Calls Try.prog 4 #[v] w fun e w' => e = .returned (.bool true) ∧ Below w.heap.size w w' := by
  have hsz := szSpanS_any v L w h
  by_cases hL : L.length ≤ 1048576
  · rw [if_pos hL] at hsz
    have hm : L.length ≤ maxLen := by unfold maxLen; omega
    have HM := Lib.hid hm
    have HZ := Lib.hid hsz
    have HS := Lib.hid h
    have he := eqB_refl L
    clear hsz h hm
    go_enter Try.func4, Try.ntmps4
    go_wp2_with fail
    refine HZ.out.mono ?_; rintro e w' ⟨rfl, rfl⟩
    go_wp2_with fail
    refine (toSpanS_any v L _ HS.out hL).mono ?_; rintro e w1 ⟨b1, rfl, hn1, hr1, hb1⟩
    have H1 := Lib.hid hr1
    clear hr1
    go_wp2_with fail
    refine (specSpansMany_any _ L _ (H1.out.spn HM.out)).mono ?_; rintro e w2 ⟨rfl, hb2⟩
    have e2 := hb1.trans (hb2.mono hb1.size)
    have HS2 := Lib.hid (HS.out.keep e2)
    go_wp2_with fail
    refine (toSpanS_any v L _ HS2.out hL).mono ?_; rintro e w3 ⟨b3, rfl, hn3, hr3, hb3⟩
    have H3 := Lib.hid hr3
    have e3 := e2.trans (hb3.mono e2.size)
    clear hr3
    go_wp2_with fail
    refine (implSpansMany_any _ L _ (H3.out.spn HM.out)).mono ?_; rintro e w4 ⟨rfl, hb4⟩
    have H4 := Lib.hid (H3.out.keep hb4)
    have e4 := e3.trans (hb4.mono e3.size)
    have HS4 := Lib.hid (HS.out.keep e4)
    have hd : (manyB L != manyB L) = false := by simp
    go_wp2_with fail
    refine (toSpanS_any v L _ HS4.out hL).mono ?_; rintro e w5 ⟨b5, rfl, hn5, hr5, hb5⟩
    have H5 := Lib.hid (H4.out.keep hb5)
    have H6 := Lib.hid hr5
    have e5 := e4.trans (hb5.mono e4.size)
    clear hr5
    go_wp2_with fail
    refine (eqSpanS_any _ _ L L _ (H5.out.spn HM.out) (H6.out.spn HM.out)).mono ?_; rintro e w6 ⟨rfl, hb6⟩
    have e6 := e5.trans (hb6.mono e5.size)
    go_wp2
    go_ret
    exact ⟨rfl, e6⟩
  · rw [if_neg hL] at hsz
    have HZ := Lib.hid hsz
    clear hsz h
    go_enter Try.func4, Try.ntmps4
    go_wp2_with fail
    refine HZ.out.mono ?_; rintro e w' ⟨rfl, rfl⟩
    go_wp2
    go_ret
    exact ⟨rfl, Below.refl _ _⟩

end Go.Proofs.Ytcnjceobjmbffab.exSpansMany
