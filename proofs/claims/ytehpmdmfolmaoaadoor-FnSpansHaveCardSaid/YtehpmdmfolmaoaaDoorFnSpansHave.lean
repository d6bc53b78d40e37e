/-
  laws.FnSpansHave returns true at every code: the walk of the law. Condition: the table behind math/bits.TrailingZeros64.
-/
import Derived.Test.YtehpmdmfolmaoaaDoorDrawHave
import Derived.Test.YtehpmdmfolmaoaaDoorHaveMath
import Derived.Test.YtehpmdmfolmaoaaDoorRgoSpn
import Derived.Deep.RegionHeld3
namespace Go.Proofs.YtehpmdmfolmaoaaDoor.fnSpansHave
open Go.RowKit

theorem manyB_bd {L : List Rng} (h : L.length ≤ 13) : 0 ≤ manyB L ∧ manyB L ≤ 1000 := by
  unfold manyB
  by_cases hk : spansOkB L = true
  · rw [if_pos hk]
    simp only [spansOkB, Bool.and_eq_true, decide_eq_true_eq] at hk
    have := lens_bd L (-1) hk.2 (by omega)
    omega
  · rw [if_neg hk]; omega

set_option maxRecDepth 100000 in
set_option maxHeartbeats 4000000 in
theorem walk (v : Value) (len : Nat) (w : World) (h : Byt w v len) (hT : TabAt w) (hg0 : 0 < w.heap.size) :
    Calls Tryd.prog 6 #[v] w fun e w' => e = .returned (.bool true) ∧ Below w.heap.size w w' := by
  have HB := Lib.hid h
  have HT := Lib.hid hT
  have hlen : len ≤ 9223372036854775807 := by obtain ⟨z, a, cap, -, h1, h2, -⟩ := h; unfold maxLen at h2; omega
  obtain ⟨z, a, cap, rfl, -, -, -⟩ := h
  clear hT
  by_cases hL : len ≤ 1048576
  · go_enter Tryd.func6, Tryd.ntmps6
    go_wp2_with fail
    refine (drawSpansHave_any _ len _ HB.out).mono ?_; rintro e w1 ⟨g, cap1, L, lo, hi, rfl, hs1, hL13, -, hb1⟩
    have hal : Below w1.heap.size w1 (w1.alloc (.cells #[.int .i64 lo, .int .i64 hi] 25)) := (Below.refl _ _).alloc (Nat.le_refl _) _
    have ks := new_box w1 lo hi 25
    have HS1 := Lib.hid (hs1.keep hal)
    have HT1 := Lib.hid ((HT.out.keep hb1).keep hal)
    have E1 := hb1.trans (hal.mono hb1.size)
    generalize hBs : w1.heap.size = Bs at *
    obtain ⟨x1, x2, -, -⟩ := id ks
    have hm1 := manyB_bd hL13
    have hm2 := manyB_bd (L := setL (meetF L lo hi) L lo hi) (by have := setL_len12 (meetF L lo hi) L lo hi; omega)
    have hF := fun h1 h2 => And.intro (have_hs (L := L) (lo := lo) (hi := hi) h1 h2) (And.intro (many_mk h1) (many_have (L := L) (lo := lo) (hi := hi) h1 h2))
    have hO : ¬ (spansOkB L = true ∧ spanOkB lo hi = true) → haveB L (lo, hi) = false := fun hn => by
      unfold haveB
      by_cases h1 : spansOkB L = true
      · have h2 : spanOkB lo hi = false := by simpa using fun h2 => hn ⟨h1, h2⟩
        simp [h2]
      · simp [h1]
    generalize hoL : spansOkB L = o at *
    have HoL := Lib.hid hoL
    generalize hps : spanOkB lo hi = ps at *
    have HPS := Lib.hid hps
    generalize hH : haveB L (lo, hi) = H at *
    have HH := Lib.hid hH
    generalize hM : manyB L = M at *
    have HM := Lib.hid hM
    generalize hG : setL (meetF L lo hi) L lo hi = G at *
    have HG := Lib.hid hG
    generalize hMG : manyB G = mG at *
    have HMG := Lib.hid hMG
    have q1 : (H != H) = false := by simp
    have q2 : (M != M) = false := by simp
    have q3 : (H == H) = true := by simp
    have q4 : (M == M) = true := by simp
    clear hs1 hb1 hal HB HT hoL hH hM hG hMG
    go_wp2_with fail
    refine (implSpansHave_any _ L lo hi _ HS1.out).mono ?_; rintro e w2 ⟨rfl, hb2⟩
    rw [HH.out]
    have HS2 := Lib.hid (HS1.out.keep hb2)
    have HT2 := Lib.hid (HT1.out.keep hb2)
    have ks2 := ks.keep hb2
    have E2 := E1.trans (hb2.mono E1.size)
    clear x1 x2
    clear hb2 HS1 HT1
    obtain ⟨x1, x2, -, -⟩ := id ks2
    clear ks
    go_wp2_with fail
    refine (implSpansMany_any _ L _ HS2.out).mono ?_; rintro e w3 ⟨rfl, hb3⟩
    rw [HM.out]
    have HS3 := Lib.hid (HS2.out.keep hb3)
    have HT3 := Lib.hid (HT2.out.keep hb3)
    have ks3 := ks2.keep hb3
    have E3 := E2.trans (hb3.mono E2.size)
    clear x1 x2
    clear hb3 HS2 HT2
    obtain ⟨x1, x2, -, -⟩ := id ks3
    clear ks2
    go_wp2_with fail
    refine (specSpansHave_any _ L lo hi _ HS3.out).mono ?_; rintro e w4 ⟨rfl, hb4⟩
    rw [HH.out]
    have HS4 := Lib.hid (HS3.out.keep hb4)
    have HT4 := Lib.hid (HT3.out.keep hb4)
    have ks4 := ks3.keep hb4
    have E4 := E3.trans (hb4.mono E3.size)
    clear x1 x2
    clear hb4 HS3 HT3
    obtain ⟨x1, x2, -, -⟩ := id ks4
    clear ks3
    go_wp2_with fail
    refine (specSpansMany_any _ L _ HS4.out).mono ?_; rintro e w5 ⟨rfl, hb5⟩
    rw [HM.out]
    have HS5 := Lib.hid (HS4.out.keep hb5)
    have HT5 := Lib.hid (HT4.out.keep hb5)
    have ks5 := ks4.keep hb5
    have E5 := E4.trans (hb5.mono E4.size)
    clear x1 x2
    clear hb5 HS4 HT4
    obtain ⟨x1, x2, -, -⟩ := id ks5
    clear ks4
    go_wp2_with fail
    refine (specSpansOk_any _ L _ HS5.out).mono ?_; rintro e w6 ⟨rfl, hb6⟩
    rw [HoL.out]
    have HS6 := Lib.hid (HS5.out.keep hb6)
    have HT6 := Lib.hid (HT5.out.keep hb6)
    have ks6 := ks5.keep hb6
    have E6 := E5.trans (hb6.mono E5.size)
    clear x1 x2
    clear hb6 HS5 HT5
    obtain ⟨x1, x2, -, -⟩ := id ks6
    clear ks5
    cases o
    · have hH0 : H = false := hO (by simp)
      subst hH0
      go_wp2
      go_ret
      exact ⟨rfl, E6⟩
    · skip
      go_wp2_with fail
      refine (specSpanOk_any lo hi _).mono ?_; rintro e w7 ⟨rfl, hb7⟩
      rw [HPS.out]
      have HS7 := Lib.hid (HS6.out.keep hb7)
      have HT7 := Lib.hid (HT6.out.keep hb7)
      have ks7 := ks6.keep hb7
      have E7 := E6.trans (hb7.mono E6.size)
      clear x1 x2
      clear hb7 HS6 HT6
      obtain ⟨x1, x2, -, -⟩ := id ks7
      clear ks6
      cases ps
      · have hH0 : H = false := hO (by simp)
        subst hH0
        go_wp2
        go_ret
        exact ⟨rfl, E7⟩
      · obtain ⟨f1, f2, f3⟩ := hF (by first | rfl | trivial) (by first | rfl | trivial)
        have hb := spanOkB_iff.1 HPS.out
        have F1 := Lib.hid f1
        have F2 := Lib.hid f2
        have F3 := Lib.hid f3
        clear hF hO f1 f2 f3 hps
        go_wp2
        go_loopg [7, 8, 9] 48 (fun g s7 s8 s9 wr => ∃ k : Nat, g = 48 - k ∧ k ≤ 48 ∧ s7 = .bool (hs L lo hi k) ∧ s8 = .int .i64 (mk L k : Nat) ∧ s9 = .int .i64 k ∧ Below w7.heap.size w7 wr)
        case atStart => exact ⟨0, rfl, Nat.zero_le _, rfl, rfl, rfl, Below.refl _ _⟩
        case round =>
          obtain ⟨k, rfl, hk, rfl, rfl, rfl, hbr⟩ := hrel
          have HSr := Lib.hid (HS7.out.keep hbr)
          have hmk := mk_le L k
          clear x1 x2
          obtain ⟨x1, x2, -, -⟩ := ks7.keep hbr
          by_cases hlt : k < 48
          · generalize hk1 : hs L lo hi k = hk
            cases hk
            · cases ha : inB L (k : Int)
              · by_cases h1 : lo ≤ (k : Int)
                · by_cases h2 : (k : Int) < hi
                  · have hh : hs L lo hi (k + 1) = false := by unfold hs; simp [hk1]
                    have hm : mk L (k + 1) = mk L k := by show mk L k + (inB L (k : Int)).toNat = _; rw [ha]; rfl
                    go_wp2_with fail
                    refine (wpIn_any _ L k _ HSr.out).mono ?_; rintro e w' ⟨rfl, rfl⟩
                    rw [ha]
                    go_wp2
                    go_roundg (48 - (k + 1))
                    case measure => omega
                    case rel => exact ⟨k + 1, rfl, by omega, by rw [hh], by rw [hm] <;> go_num, by go_num, hbr⟩
                  · have hh : hs L lo hi (k + 1) = false := by unfold hs; simp [hk1]
                    have hm : mk L (k + 1) = mk L k := by show mk L k + (inB L (k : Int)).toNat = _; rw [ha]; rfl
                    go_wp2_with fail
                    refine (wpIn_any _ L k _ HSr.out).mono ?_; rintro e w' ⟨rfl, rfl⟩
                    rw [ha]
                    go_wp2
                    go_roundg (48 - (k + 1))
                    case measure => omega
                    case rel => exact ⟨k + 1, rfl, by omega, by rw [hh], by rw [hm] <;> go_num, by go_num, hbr⟩
                · have hh : hs L lo hi (k + 1) = false := by unfold hs; simp [hk1]
                  have hm : mk L (k + 1) = mk L k := by show mk L k + (inB L (k : Int)).toNat = _; rw [ha]; rfl
                  go_wp2_with fail
                  refine (wpIn_any _ L k _ HSr.out).mono ?_; rintro e w' ⟨rfl, rfl⟩
                  rw [ha]
                  go_wp2
                  go_roundg (48 - (k + 1))
                  case measure => omega
                  case rel => exact ⟨k + 1, rfl, by omega, by rw [hh], by rw [hm] <;> go_num, by go_num, hbr⟩
              · by_cases h1 : lo ≤ (k : Int)
                · by_cases h2 : (k : Int) < hi
                  · have hh : hs L lo hi (k + 1) = false := by unfold hs; simp [hk1]
                    have hm : mk L (k + 1) = mk L k + 1 := by show mk L k + (inB L (k : Int)).toNat = _; rw [ha]; rfl
                    go_wp2_with fail
                    refine (wpIn_any _ L k _ HSr.out).mono ?_; rintro e w' ⟨rfl, rfl⟩
                    rw [ha]
                    go_wp2
                    go_roundg (48 - (k + 1))
                    case measure => omega
                    case rel => exact ⟨k + 1, rfl, by omega, by rw [hh], by rw [hm] <;> go_num, by go_num, hbr⟩
                  · have hh : hs L lo hi (k + 1) = false := by unfold hs; simp [hk1]
                    have hm : mk L (k + 1) = mk L k + 1 := by show mk L k + (inB L (k : Int)).toNat = _; rw [ha]; rfl
                    go_wp2_with fail
                    refine (wpIn_any _ L k _ HSr.out).mono ?_; rintro e w' ⟨rfl, rfl⟩
                    rw [ha]
                    go_wp2
                    go_roundg (48 - (k + 1))
                    case measure => omega
                    case rel => exact ⟨k + 1, rfl, by omega, by rw [hh], by rw [hm] <;> go_num, by go_num, hbr⟩
                · have hh : hs L lo hi (k + 1) = false := by unfold hs; simp [hk1]
                  have hm : mk L (k + 1) = mk L k + 1 := by show mk L k + (inB L (k : Int)).toNat = _; rw [ha]; rfl
                  go_wp2_with fail
                  refine (wpIn_any _ L k _ HSr.out).mono ?_; rintro e w' ⟨rfl, rfl⟩
                  rw [ha]
                  go_wp2
                  go_roundg (48 - (k + 1))
                  case measure => omega
                  case rel => exact ⟨k + 1, rfl, by omega, by rw [hh], by rw [hm] <;> go_num, by go_num, hbr⟩
            · cases ha : inB L (k : Int)
              · by_cases h1 : lo ≤ (k : Int)
                · by_cases h2 : (k : Int) < hi
                  · have hh : hs L lo hi (k + 1) = false := by unfold hs; simp [hk1, h1, h2, ha]
                    have hm : mk L (k + 1) = mk L k := by show mk L k + (inB L (k : Int)).toNat = _; rw [ha]; rfl
                    go_wp2_with fail
                    refine (wpIn_any _ L k _ HSr.out).mono ?_; rintro e w' ⟨rfl, rfl⟩
                    rw [ha]
                    go_wp2_with fail
                    refine (wpIn_any _ L k _ HSr.out).mono ?_; rintro e w' ⟨rfl, rfl⟩
                    rw [ha]
                    go_wp2
                    go_roundg (48 - (k + 1))
                    case measure => omega
                    case rel => exact ⟨k + 1, rfl, by omega, by rw [hh], by rw [hm] <;> go_num, by go_num, hbr⟩
                  · have hh : hs L lo hi (k + 1) = true := by unfold hs; simp [hk1, h2]
                    have hm : mk L (k + 1) = mk L k := by show mk L k + (inB L (k : Int)).toNat = _; rw [ha]; rfl
                    go_wp2_with fail
                    refine (wpIn_any _ L k _ HSr.out).mono ?_; rintro e w' ⟨rfl, rfl⟩
                    rw [ha]
                    go_wp2
                    go_roundg (48 - (k + 1))
                    case measure => omega
                    case rel => exact ⟨k + 1, rfl, by omega, by rw [hh], by rw [hm] <;> go_num, by go_num, hbr⟩
                · have hh : hs L lo hi (k + 1) = true := by unfold hs; simp [hk1, h1]
                  have hm : mk L (k + 1) = mk L k := by show mk L k + (inB L (k : Int)).toNat = _; rw [ha]; rfl
                  go_wp2_with fail
                  refine (wpIn_any _ L k _ HSr.out).mono ?_; rintro e w' ⟨rfl, rfl⟩
                  rw [ha]
                  go_wp2
                  go_roundg (48 - (k + 1))
                  case measure => omega
                  case rel => exact ⟨k + 1, rfl, by omega, by rw [hh], by rw [hm] <;> go_num, by go_num, hbr⟩
              · by_cases h1 : lo ≤ (k : Int)
                · by_cases h2 : (k : Int) < hi
                  · have hh : hs L lo hi (k + 1) = true := by unfold hs; simp [hk1, h1, h2, ha]
                    have hm : mk L (k + 1) = mk L k + 1 := by show mk L k + (inB L (k : Int)).toNat = _; rw [ha]; rfl
                    go_wp2_with fail
                    refine (wpIn_any _ L k _ HSr.out).mono ?_; rintro e w' ⟨rfl, rfl⟩
                    rw [ha]
                    go_wp2_with fail
                    refine (wpIn_any _ L k _ HSr.out).mono ?_; rintro e w' ⟨rfl, rfl⟩
                    rw [ha]
                    go_wp2
                    go_roundg (48 - (k + 1))
                    case measure => omega
                    case rel => exact ⟨k + 1, rfl, by omega, by rw [hh], by rw [hm] <;> go_num, by go_num, hbr⟩
                  · have hh : hs L lo hi (k + 1) = true := by unfold hs; simp [hk1, h2]
                    have hm : mk L (k + 1) = mk L k + 1 := by show mk L k + (inB L (k : Int)).toNat = _; rw [ha]; rfl
                    go_wp2_with fail
                    refine (wpIn_any _ L k _ HSr.out).mono ?_; rintro e w' ⟨rfl, rfl⟩
                    rw [ha]
                    go_wp2
                    go_roundg (48 - (k + 1))
                    case measure => omega
                    case rel => exact ⟨k + 1, rfl, by omega, by rw [hh], by rw [hm] <;> go_num, by go_num, hbr⟩
                · have hh : hs L lo hi (k + 1) = true := by unfold hs; simp [hk1, h1]
                  have hm : mk L (k + 1) = mk L k + 1 := by show mk L k + (inB L (k : Int)).toNat = _; rw [ha]; rfl
                  go_wp2_with fail
                  refine (wpIn_any _ L k _ HSr.out).mono ?_; rintro e w' ⟨rfl, rfl⟩
                  rw [ha]
                  go_wp2
                  go_roundg (48 - (k + 1))
                  case measure => omega
                  case rel => exact ⟨k + 1, rfl, by omega, by rw [hh], by rw [hm] <;> go_num, by go_num, hbr⟩
          · obtain rfl : k = 48 := by omega
            have HTr := Lib.hid (HT7.out.keep hbr)
            have Er := E7.trans (hbr.mono E7.size)
            have kr := ks7.keep hbr
            rw [← F1.out, ← F2.out]
            have f3 := F3.out
            have hb2 : 0 ≤ hi - lo ∧ hi - lo ≤ 48 := by omega
            have hw : IntKind.i64.wrap (hi - lo) = hi - lo := by first | (rw [IntKind.wrap_i64]; omega) | exact IntWalk.wrap64_in _ ⟨by omega, by omega⟩ | (rw [IntKind.wrap_i64]; exact IntWalk.wrap64_in _ ⟨by omega, by omega⟩)
            clear HS7 HT7 ks7 hbr F1 F2 F3 hm1
            obtain ⟨t1, t2, -, -⟩ := id kr
            have hgr : 0 < wr.heap.size := Nat.lt_of_lt_of_le hg0 Er.size
            clear x1 x2
            cases H
            all_goals
              go_wp2_with fail
              go_region_held3 (fun w' => w'.cell? ⟨Bs, 0, none⟩ = some (.int .i64 lo) ∧ w'.cell? ⟨Bs, 1, none⟩ = some (.int .i64 hi))
                (refine ⟨?_, ?_⟩ <;> first | (go_keep; done) | (refine cell_keep hb ?_; first | (go_keep; done) | (go_simp; done)))
                (first
                  | (go_at_call 23; refine (implSpansMeet_any _ L lo hi _ (HSr.out.keep (Below.refl _ _).drew) (HTr.out.keep (Below.refl _ _).drew) hgr).mono ?_; rintro e wx hr; obtain ⟨y, rfl, hx, hb⟩ := hr.spn; rw [HG.out] at hx; have HX := Lib.hid hx; obtain ⟨ya, yc, rfl, -, -⟩ := hx.form; have hbW := (Below.drew (Below.refl _ _)).trans hb; clear hx hr)
                  | (go_at_call 24; refine (implSpansMany_any _ _ _ HX.out).mono ?_; rintro e wy ⟨rfl, hb⟩; rw [HMG.out]; have hbX := hbW.trans (hb.mono hbW.size)))
              go_wp2
              go_ret
              exact ⟨rfl, Er.trans (hbX.mono Er.size)⟩
  · go_enter Tryd.func6, Tryd.ntmps6
    go_wp2
    go_ret
    exact ⟨rfl, Below.refl _ _⟩

end Go.Proofs.YtehpmdmfolmaoaaDoor.fnSpansHave
