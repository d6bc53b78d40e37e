/-
  laws.FnExactSpansMeet returns true at every list and range: the walk of the law. Condition: the table behind math/bits.TrailingZeros64.
-/
import Derived.Test.YtehpmdmfolmaoabDoorRow
import Derived.Test.YtehpmdmfolmaoabDoorEq
import Derived.Test.YtehpmdmfolmaoabDoorSpecMeet
import Derived.Deep.RegionHeld3
namespace Go.Proofs.YtehpmdmfolmaoabDoor.exSpansMeet
open Go.RowKit

theorem eqB_refl (L : List Rng) : eqB L L = true := by unfold eqB; simp
theorem setL_len (f : Nat → Bool) (L : List Rng) (lo hi : Int) : (setL f L lo hi).length ≤ 48 := by
  unfold setL
  split
  · exact rg_len _ _
  · simp

set_option maxHeartbeats 8000000 in
theorem walk (v : Value) (L : List Rng) (lo hi : Int) (w : World) (h : Spn w v L) (hT : TabAt w) (hg0 : 0 < w.heap.size) :
    Calls Tryd.prog 6 #[v, .agg #[.int .i64 lo, .int .i64 hi]] w fun e w' => e = .returned (.bool true) ∧ Below w.heap.size w w' := by
  have k := new_box w lo hi 37
  have hal : Below w.heap.size w (w.alloc (.cells #[.int .i64 lo, .int .i64 hi] 37)) := (Below.refl _ _).alloc (Nat.le_refl _) _
  have hsz := szSpanS_any v L _ (h.keep hal)
  have HS0 := Lib.hid (h.keep hal)
  have HT0 := Lib.hid ((Lib.hid hT).keep hal)
  have hg1 : 0 < (w.alloc (.cells #[.int .i64 lo, .int .i64 hi] 37)).heap.size := Nat.lt_of_lt_of_le hg0 hal.size
  clear h hT
  by_cases hL : L.length ≤ 1048576
  · rw [if_pos hL] at hsz
    have hm : L.length ≤ maxLen := by unfold maxLen; omega
    have HM := Lib.hid hm
    have HZ := Lib.hid hsz
    have he := eqB_refl L
    have HG := setL_len (meetF L lo hi) L lo hi
    have heG := eqB_refl (setL (meetF L lo hi) L lo hi)
    generalize hGG : setL (meetF L lo hi) L lo hi = G at *
    have HGG := Lib.hid hGG
    clear hsz hm hGG
    go_enter Tryd.func6, Tryd.ntmps6
    go_wp2_with fail
    refine HZ.out.mono ?_; rintro e w' ⟨rfl, rfl⟩
    clear HZ
    generalize (w.alloc (.cells #[.int .i64 lo, .int .i64 hi] 37)) = W at *
    obtain ⟨x1, x2, -, -⟩ := id k
    go_wp2_with fail
    go_region_held3 (fun w' => w'.cell? ⟨w.heap.size, 0, none⟩ = some (.int .i64 lo) ∧ w'.cell? ⟨w.heap.size, 1, none⟩ = some (.int .i64 hi))
      (refine ⟨?_, ?_⟩ <;> first | (go_keep; done) | (refine cell_keep hb ?_; first | (go_keep; done) | (go_simp; done)))
      (first
        | (go_at_call 17; refine (toSpanS_any v L _ (HS0.out.keep (Below.refl _ _).drew) hL).mono ?_; rintro e w' ⟨nb, rfl, hn, hr, hb⟩; have HR := Lib.hid hr; clear hr; have hbW := (Below.drew (Below.refl _ _)).trans hb)
        | (go_at_call 18; refine (toSpan_any lo hi _).mono ?_; rintro e w' ⟨rfl, hb⟩; have HR2 := Lib.hid (HR.out.keep hb); have hbW2 := hbW.trans (hb.mono hbW.size))
        | (go_at_call 25; refine (specSpansMeet_any _ L lo hi _ (HR2.out.spn HM.out)).mono ?_; rintro e w' hrg; obtain ⟨v0, rfl, hr0, hb⟩ := Rww.of_rgs hrg; rw [HGG.out] at hr0; have hbW3 := hbW2.trans (hb.mono hbW2.size); have HV := Lib.hid hr0; clear hr0 hrg))
    have E1 : Below W.heap.size W w' := hbW3.mono (by simp)
    have V1 := HV
    clear x1 x2 HR HR2 hbW hbW2 hbW3 HV
    obtain ⟨x1, x2, -, -⟩ := k.keep E1
    go_wp2_with fail
    refine (toSpanS_any v L _ (HS0.out.keep E1) hL).mono ?_; rintro e w3 ⟨b3, rfl, hn3, hr3, hb3⟩
    have H3 := Lib.hid (Rww.of_row hn3 (Nat.le_refl _) HM.out hr3)
    have V3 := Lib.hid (V1.out.keep hb3)
    have E3 := E1.trans (hb3.mono E1.size)
    have s3 := hb3.size
    clear hr3 x1 x2 V1
    obtain ⟨x1, x2, -, -⟩ := k.keep E3
    go_wp2_with fail
    refine (toSpan_any lo hi _).mono ?_; rintro e w4 ⟨rfl, hb4⟩
    have H4 := Lib.hid (H3.out.keep hb4)
    have V4 := Lib.hid (V3.out.keep hb4)
    have E4 := E3.trans (hb4.mono E3.size)
    have s4 := hb4.size
    clear x1 x2 H3 V3
    go_wp2_with fail
    refine (implSpansMeet_any _ L lo hi _ H4.out.spn (HT0.keep E4) (Nat.lt_of_lt_of_le hg1 E4.size)).mono ?_; rintro e w5 hro
    obtain ⟨vg, rfl, hrg, hb5⟩ := Rww.of_rgo hro
    rw [HGG.out] at hrg
    have G5 := Lib.hid hrg
    have H5 := Lib.hid (H4.out.keep hb5)
    have V5 := Lib.hid (V4.out.keep hb5)
    have E5 := E4.trans (hb5.mono E4.size)
    have s5 := hb5.size
    clear hro hrg H4 V4
    go_wp2_with fail
    refine (eqSpanS_any _ _ G G _ G5.out.spn V5.out.spn).mono ?_; rintro e w6 ⟨rfl, hb6⟩
    have G6 := Lib.hid (G5.out.keep hb6)
    have H6 := Lib.hid (H5.out.keep hb6)
    have V6 := Lib.hid (V5.out.keep hb6)
    have E6 := E5.trans (hb6.mono E5.size)
    have s6 := hb6.size
    clear G5 H5 V5
    go_wp2_with fail
    refine (toSpanS_any v L _ (HS0.out.keep E6) hL).mono ?_; rintro e w7 ⟨b7, rfl, hn7, hr7, hb7⟩
    have Q7 := Lib.hid (Rww.of_row hn7 (Nat.le_refl _) HM.out hr7)
    have G7 := Lib.hid (G6.out.keep hb7)
    have H7 := Lib.hid (H6.out.keep hb7)
    have V7 := Lib.hid (V6.out.keep hb7)
    have E7 := E6.trans (hb7.mono E6.size)
    have s7 := hb7.size
    clear hr7 G6 H6 V6
    go_wp2_with fail
    refine (eqSpanS_any _ _ L L _ H7.out.spn Q7.out.spn).mono ?_; rintro e w8 ⟨rfl, hb8⟩
    have G8 := Lib.hid (G7.out.keep hb8)
    have H8 := Lib.hid (H7.out.keep hb8)
    have V8 := Lib.hid (V7.out.keep hb8)
    have E8 := E7.trans (hb8.mono E7.size)
    have s8 := hb8.size
    clear G7 H7 V7 Q7
    go_wp2_with fail
    refine (mark_rww H8.out 1 hL (by omega) (by omega)).mono ?_; rintro e w9 ⟨rfl, hr9, ap9⟩
    have G9 := Lib.hid (G8.out.apart ap9 (.inr (by omega)))
    have V9 := Lib.hid (V8.out.apart ap9 (.inl (by omega)))
    have E9 := E8.trans ((ap9.below (by omega)).mono E1.size)
    have s9 := (ap9.below (by omega)).size
    clear G8 H8 V8 hr9
    go_wp2_with fail
    refine (eqSpanS_any _ _ G G _ G9.out.spn V9.out.spn).mono ?_; rintro e w10 ⟨rfl, hb10⟩
    have G10 := Lib.hid (G9.out.keep hb10)
    have V10 := Lib.hid (V9.out.keep hb10)
    have E10 := E9.trans (hb10.mono E9.size)
    have s10 := hb10.size
    clear G9 V9
    go_wp2_with fail
    refine (mark_rww G10.out 1 (by omega) (by omega) (by omega)).mono ?_; rintro e w11 ⟨rfl, hr11, ap11⟩
    have G11 := Lib.hid hr11
    have V11 := Lib.hid (V10.out.apart ap11 (.inl (by omega)))
    have E11 := E10.trans ((ap11.below (by omega)).mono E4.size)
    clear G10 V10 hr11
    go_wp2_with fail
    refine (held_rww 1 G11.out (by omega) (by omega) (by omega)).mono ?_; rintro e w12 ⟨rfl, rfl⟩
    obtain ⟨x1, x2, -, -⟩ := k.keep E11
    have hg11 := Nat.lt_of_lt_of_le hg1 E11.size
    have HT11 := Lib.hid (HT0.keep E11)
    have HS11 := Lib.hid (HS0.out.keep E11)
    go_wp2_with fail
    go_region_held3 (fun w' => w'.cell? ⟨w.heap.size, 0, none⟩ = some (.int .i64 lo) ∧ w'.cell? ⟨w.heap.size, 1, none⟩ = some (.int .i64 hi))
      (refine ⟨?_, ?_⟩ <;> first | (go_keep; done) | (refine cell_keep hb ?_; first | (go_keep; done) | (go_simp; done)))
      (first
        | (go_at_call 17; refine (toSpanS_any v L _ (HS11.out.keep (Below.refl _ _).drew) hL).mono ?_; rintro e w' ⟨nb, rfl, hn, hr, hb⟩; have HR := Lib.hid hr; clear hr; have hbW := (Below.drew (Below.refl _ _)).trans hb)
        | (go_at_call 18; refine (toSpan_any lo hi _).mono ?_; rintro e w' ⟨rfl, hb⟩; have HR2 := Lib.hid (HR.out.keep hb); have hbW2 := hbW.trans (hb.mono hbW.size))
        | (go_at_call 26; refine (implSpansMeet_any _ L lo hi _ (HR2.out.spn HM.out) (HT11.keep hbW2) (Nat.lt_of_lt_of_le hg11 hbW2.size)).mono ?_; rintro e w' hrg; obtain ⟨vh, rfl, hr0, hb⟩ := Rww.of_rgo hrg; rw [HGG.out] at hr0; have hbW3 := hbW2.trans (hb.mono hbW2.size); have HH := Lib.hid hr0; clear hr0 hrg))
    have hbW4 : Below w11.heap.size w11 w' := hbW3.mono (by simp)
    have G13 := Lib.hid (G11.out.keep hbW4)
    have V13 := Lib.hid (V11.out.keep hbW4)
    have E13 := E11.trans (hbW4.mono E11.size)
    clear x1 x2 HR HR2 hbW hbW2 hbW3 hbW4 G11 V11
    go_wp2_with fail
    refine (eqSpanS_any _ _ G G _ HH.out.spn V13.out.spn).mono ?_; rintro e w14 ⟨rfl, hb14⟩
    have G14 := Lib.hid (G13.out.keep hb14)
    have E14 := E13.trans (hb14.mono E13.size)
    clear G13 V13 HH
    go_wp2_with fail
    refine (held_rww 1 G14.out (by omega) (by omega) (by omega)).mono ?_; rintro e w15 ⟨rfl, rfl⟩
    go_wp2
    go_ret
    exact ⟨rfl, hal.trans (E14.mono hal.size)⟩
  · rw [if_neg hL] at hsz
    have HZ := Lib.hid hsz
    clear hsz
    go_enter Tryd.func6, Tryd.ntmps6
    go_wp2_with fail
    refine HZ.out.mono ?_; rintro e w' ⟨rfl, rfl⟩
    go_wp2
    go_ret
    exact ⟨rfl, hal⟩

end Go.Proofs.YtehpmdmfolmaoabDoor.exSpansMeet
