/-
  laws.FnSpansMeet returns true at every code: the walk of the law. Condition: the table behind math/bits.TrailingZeros64.
-/
import Derived.Test.YtehpmdmfolmaoaaDoorDrawBoth
import Derived.Test.YtehpmdmfolmaoaaDoorWp
import Derived.Test.YtehpmdmfolmaoaaDoorWpIn
import Derived.Test.YtehpmdmfolmaoaaDoorRgoSpn
import Derived.Test.YtehpmdmfolmaoaaDoorMany
import Derived.Test.YtehpmdmfolmaoaaDoorCutMath
import Derived.Test.YtehpmdmfolmaoaaDoorSpecMeet
import Derived.Deep.RegionHeld3
namespace Go.Proofs.YtehpmdmfolmaoaaDoor.fnSpansMeet
open Go.RowKit

theorem cnt_split (f g : Nat → Bool) : ∀ n : Nat, cnt (fun i => f i && !g i) n + cnt (fun i => f i && g i) n = cnt f n
  | 0 => rfl
  | n + 1 => by
    have := cnt_split (fun i => f (i + 1)) (fun i => g (i + 1)) n
    unfold cnt
    cases f 0 <;> cases g 0 <;> simp <;> omega
theorem manyB_cnt {L : List Rng} (h : spansOkB L = true) : manyB L = ((cnt (fun i => inB L (i : Int)) 48 : Nat) : Int) := by
  have hk : okFrom (-1) L = true := by simp only [spansOkB, Bool.and_eq_true] at h; exact h.2
  have hc := cnt_lens L (-1) 0 48 hk (by omega) (by omega)
  unfold manyB
  rw [if_pos h, ← hc]
  simp

theorem meet_facts {L : List Rng} {lo hi : Int} (h1 : spansOkB L = true) (h2 : spanOkB lo hi = true) :
    (∀ i : Int, inB (setL (meetF L lo hi) L lo hi) i = (inB L i && (decide (lo ≤ i) && decide (i < hi)))) ∧
      ((setL (cutF L lo hi) L lo hi = [] ∧ (setL (meetF L lo hi) L lo hi).length < L.length) ∨
        manyB (setL (cutF L lo hi) L lo hi) + manyB (setL (meetF L lo hi) L lo hi) = manyB L) := by
  have hk : okFrom (-1) L = true := by simp only [spansOkB, Bool.and_eq_true] at h1; exact h1.2
  have e := cts_rg h1 h2
  have hG5 : spansOkB (setL (meetF L lo hi) L lo hi) = true := setL_ok _ _ _ _
  have hK5 : spansOkB (setL (cutF L lo hi) L lo hi) = true := setL_ok _ _ _ _
  refine ⟨fun i => by rw [mts_set h1 h2, mts_in], ?_⟩
  by_cases hl : (cts lo hi L).length ≤ 12
  · right
    have hK : setL (cutF L lo hi) L lo hi = cts lo hi L := by
      unfold setL
      rw [h1, h2, spansOkB_rg, e]
      simp [hl]
    rw [manyB_cnt hK5, manyB_cnt hG5, manyB_cnt h1, hK, mts_set h1 h2]
    have := cnt_split (fun i => inB L (i : Int)) (fun i => decide (lo ≤ (i : Int)) && decide ((i : Int) < hi)) 48
    rw [← this]
    rw [cnt_congr (f := fun i => inB (cts lo hi L) (i : Int)) (g := fun i => inB L (i : Int) && !(decide (lo ≤ (i : Int)) && decide ((i : Int) < hi))) fun i _ => ?_,
      cnt_congr (f := fun i => inB (mts lo hi L) (i : Int)) (g := fun i => inB L (i : Int) && (decide (lo ≤ (i : Int)) && decide ((i : Int) < hi))) fun i _ => ?_]
    · omega
    · exact mts_in lo hi _ L
    · show inB (cts lo hi L) (i : Int) = _
      rw [cts_in]
      have e1 : decide ((i : Int) < lo) = !decide (lo ≤ (i : Int)) := by rw [Bool.eq_iff_iff]; simp
      have e2 : decide (hi ≤ (i : Int)) = !decide ((i : Int) < hi) := by rw [Bool.eq_iff_iff]; simp
      rw [e1, e2, Bool.not_and]
  · left
    constructor
    · unfold setL
      rw [h1, h2, spansOkB_rg, e]
      simp [hl]
    · rw [mts_set h1 h2]
      have h3 := mts_len lo hi L
      by_cases h4 : (mts lo hi L).length = L.length
      · have := cts_two lo hi L _ hk h4
        omega
      · omega

theorem manyB_bd {L : List Rng} (h : L.length ≤ 13) : 0 ≤ manyB L ∧ manyB L ≤ 1000 := by
  unfold manyB
  by_cases hk : spansOkB L = true
  · rw [if_pos hk]
    simp only [spansOkB, Bool.and_eq_true, decide_eq_true_eq] at hk
    have := lens_bd L (-1) hk.2 (by omega)
    omega
  · rw [if_neg hk]; omega

set_option maxRecDepth 100000 in
set_option maxHeartbeats 4000000 in
theorem walk (v : Value) (len : Nat) (w : World) (h : Byt w v len) (hT : TabAt w) (hg0 : 0 < w.heap.size) :
    Calls Tryd.prog 5 #[v] w fun e w' => e = .returned (.bool true) ∧ Below w.heap.size w w' := by
  have HB := Lib.hid h
  have HT := Lib.hid hT
  have hlen : len ≤ 9223372036854775807 := by obtain ⟨z, a, cap, -, h1, h2, -⟩ := h; unfold maxLen at h2; omega
  obtain ⟨z, a, cap, rfl, -, -, -⟩ := h
  clear hT
  by_cases hL : len ≤ 1048576
  · go_enter Tryd.func5, Tryd.ntmps5
    go_wp2_with fail
    refine (drawSpansMeet_any _ len _ HB.out).mono ?_; rintro e w1 ⟨g, cap1, L, lo, hi, rfl, hs1, hL13, -, hb1⟩
    have HS1 := Lib.hid hs1
    have HT1 := Lib.hid (HT.out.keep hb1)
    have hz1 := hb1.size
    clear hs1
    go_wp2_with fail
    have k1 := new_box w1 lo hi 25
    have hal : Below w1.heap.size w1 (w1.alloc (.cells #[.int .i64 lo, .int .i64 hi] 25)) := (Below.refl _ _).alloc (Nat.le_refl _) _
    have HS2 := Lib.hid (HS1.out.keep hal)
    have HT2 := Lib.hid (HT1.out.keep hal)
    have E2 := hb1.trans (hal.mono hb1.size)
    have hg2 : 0 < (w1.alloc (.cells #[.int .i64 lo, .int .i64 hi] 25)).heap.size := Nat.lt_of_lt_of_le hg0 E2.size
    clear HS1 HT1
    refine (implSpansMeet_any _ L lo hi _ HS2.out HT2.out hg2).mono ?_; rintro e w3 hr; obtain ⟨x, rfl, hx, hb3⟩ := hr.spn
    have HS3 := Lib.hid (HS2.out.keep hb3)
    have HT3 := Lib.hid (HT2.out.keep hb3)
    have E3 := E2.trans (hb3.mono E2.size)
    have hg3 : 0 < w3.heap.size := Nat.lt_of_lt_of_le hg2 hb3.size
    have k3 := k1.keep hb3
    have hlen12 := setL_len12 (meetF L lo hi) L lo hi
    have hlenK := setL_len12 (cutF L lo hi) L lo hi
    have hF := fun h1 h2 => meet_facts (L := L) (lo := lo) (hi := hi) h1 h2
    have hO := fun h => setL_out (f := meetF L lo hi) (L := L) (lo := lo) (hi := hi) h
    have hOG := setL_ok (meetF L lo hi) L lo hi
    have hm1 := manyB_bd (L := setL (meetF L lo hi) L lo hi) (by omega)
    have hm2 := manyB_bd hL13
    have hm3 := manyB_bd (L := setL (cutF L lo hi) L lo hi) (by omega)
    generalize hKK : setL (cutF L lo hi) L lo hi = K at *
    have HKK := Lib.hid hKK
    clear hKK
    generalize hGG : setL (meetF L lo hi) L lo hi = G at *
    have HGG := Lib.hid hGG
    have HX3 := Lib.hid hx
    have HOG := Lib.hid hOG
    obtain ⟨xa, xc, rfl, xc1, xc2⟩ := hx.form
    generalize hB1 : w1.heap.size = B1 at *
    clear hr hb3 k1 hal HS2 HT2 hx hGG hOG
    obtain ⟨y1, y2, -, -⟩ := id k3
    have heG := Lib.hid (eqB_refl G)
    generalize hoL : spansOkB L = o at *
    have HoL := Lib.hid hoL
    clear hoL
    go_wp2_with fail
    refine (specSpansMeet_any _ L lo hi _ HS3.out).mono ?_; rintro e w4 hr; obtain ⟨u, rfl, hu, hb⟩ := hr.spn; rw [HGG.out] at hu
    have HU := Lib.hid hu
    have HS4 := Lib.hid (HS3.out.keep hb)
    have HX4 := Lib.hid (HX3.out.keep hb)
    have hbW := hb
    clear hu hr
    go_wp2_with fail
    refine (wpSpans_any _ _ G G _ HX4.out HU.out).mono ?_; rintro e w5 ⟨rfl, hb⟩
    rw [heG.out]
    have HX5 := Lib.hid (HX4.out.keep hb)
    have hbW2 := hbW.trans (hb.mono hbW.size)
    go_wp2_with fail
    refine (implSpansOk_any _ G _ HX5.out).mono ?_; rintro e w' ⟨rfl, hb⟩
    rw [HOG.out]
    have E4 : Below w3.heap.size w3 w' := hbW2.trans (hb.mono hbW2.size)
    clear HU HS4 HX4 hbW HX5 hbW2
    have HS7 := Lib.hid (HS3.out.keep E4)
    have HX7 := Lib.hid (HX3.out.keep E4)
    have HT7 := Lib.hid (HT3.out.keep E4)
    have hg7 : 0 < w'.heap.size := Nat.lt_of_lt_of_le hg3 E4.size
    have k7 := k3.keep E4
    obtain ⟨z1, z2, -, -⟩ := id k7
    have E7 := E3.trans (E4.mono E3.size)
    clear y1 y2 HS3 HX3 HT3
    cases o
    · have hG0 : G = [] := hO fun h => absurd h.1 (by simp)
      subst hG0
      go_wp2_with fail
      refine (specSpansOk_any _ L _ HS7.out).mono ?_; rintro e w8 ⟨rfl, hb8⟩
      rw [HoL.out]
      have E8 := E7.trans (hb8.mono E7.size)
      go_wp2
      go_ret
      exact ⟨rfl, E8⟩
    · cases hp : spanOkB lo hi
      · have hG0 : G = [] := hO fun h => absurd h.2 (by simp [hp])
        subst hG0
        have HP := Lib.hid hp
        clear hp
        go_wp2_with fail
        refine (specSpansOk_any _ L _ HS7.out).mono ?_; rintro e w8 ⟨rfl, hb8⟩
        rw [HoL.out]
        have E8 := E7.trans (hb8.mono E7.size)
        obtain ⟨u1, u2, -, -⟩ := k7.keep hb8
        clear z1 z2
        go_wp2_with fail
        refine (specSpanOk_any lo hi _).mono ?_; rintro e w9 ⟨rfl, hb9⟩
        rw [HP.out]
        have E9 := E8.trans (hb9.mono E8.size)
        go_wp2
        go_ret
        exact ⟨rfl, E9⟩
      · obtain ⟨hin, hsum⟩ := hF rfl hp
        have HIN := Lib.hid hin
        have HP := Lib.hid hp
        have HSUM := Lib.hid hsum
        clear hin hF hO hp hsum
        go_wp2_with fail
        refine (specSpansOk_any _ L _ HS7.out).mono ?_; rintro e w8 ⟨rfl, hb8⟩
        rw [HoL.out]
        have E8 := E7.trans (hb8.mono E7.size)
        have HS8 := Lib.hid (HS7.out.keep hb8)
        have HX8 := Lib.hid (HX7.out.keep hb8)
        have HT8 := Lib.hid (HT7.out.keep hb8)
        have hg8 : 0 < w8.heap.size := Nat.lt_of_lt_of_le hg7 hb8.size
        have k8 := k7.keep hb8
        obtain ⟨u1, u2, -, -⟩ := id k8
        clear HS7 HX7 HT7 z1 z2 k7 k3
        go_wp2_with fail
        refine (specSpanOk_any lo hi _).mono ?_; rintro e w9 ⟨rfl, hb9⟩
        rw [HP.out]
        have E9 := E8.trans (hb9.mono E8.size)
        have HS9 := Lib.hid (HS8.out.keep hb9)
        have HX9 := Lib.hid (HX8.out.keep hb9)
        have HT9 := Lib.hid (HT8.out.keep hb9)
        have hg9 : 0 < w9.heap.size := Nat.lt_of_lt_of_le hg8 hb9.size
        have k9 := k8.keep hb9
        clear HS8 HX8 HT8 u1 u2 k8
        go_wp2
        go_loopg [6] 48 (fun g s6 wr => ∃ k : Nat, g = 48 - k ∧ k ≤ 48 ∧ s6 = .int .i64 k ∧ Below w9.heap.size w9 wr)
        case atStart => exact ⟨0, rfl, Nat.zero_le _, rfl, Below.refl _ _⟩
        case round =>
          obtain ⟨k, rfl, hk, rfl, hbr⟩ := hrel
          have HSr := Lib.hid (HS9.out.keep hbr)
          have HXr := Lib.hid (HX9.out.keep hbr)
          obtain ⟨u1, u2, -, -⟩ := k9.keep hbr
          by_cases hlt : k < 48
          · have hG := HIN.out (k : Int)
            by_cases ha : inB L (k : Int) = true
            · by_cases h1 : lo ≤ (k : Int)
              · by_cases h2 : (k : Int) < hi
                · have hGk : inB G (k : Int) = true := by rw [hG, ha]; simp [h1, h2]
                  go_wp2_with fail
                  refine (wpIn_any _ G k _ HXr.out).mono ?_; rintro e w' ⟨rfl, rfl⟩
                  rw [hGk]
                  go_wp2_with fail
                  refine (wpIn_any _ L k _ HSr.out).mono ?_; rintro e w' ⟨rfl, rfl⟩
                  rw [ha]
                  go_wp2
                  go_roundg (48 - (k + 1))
                  case measure => omega
                  case rel => exact ⟨k + 1, rfl, by omega, by go_num, hbr⟩
                · have hGk : inB G (k : Int) = false := by rw [hG, ha]; simp [h2]
                  go_wp2_with fail
                  refine (wpIn_any _ G k _ HXr.out).mono ?_; rintro e w' ⟨rfl, rfl⟩
                  rw [hGk]
                  go_wp2_with fail
                  refine (wpIn_any _ L k _ HSr.out).mono ?_; rintro e w' ⟨rfl, rfl⟩
                  rw [ha]
                  go_wp2
                  go_roundg (48 - (k + 1))
                  case measure => omega
                  case rel => exact ⟨k + 1, rfl, by omega, by go_num, hbr⟩
              · have hGk : inB G (k : Int) = false := by rw [hG, ha]; simp [h1]
                go_wp2_with fail
                refine (wpIn_any _ G k _ HXr.out).mono ?_; rintro e w' ⟨rfl, rfl⟩
                rw [hGk]
                go_wp2_with fail
                refine (wpIn_any _ L k _ HSr.out).mono ?_; rintro e w' ⟨rfl, rfl⟩
                rw [ha]
                go_wp2
                go_roundg (48 - (k + 1))
                case measure => omega
                case rel => exact ⟨k + 1, rfl, by omega, by go_num, hbr⟩
            · replace ha : inB L (k : Int) = false := by simpa using ha
              have hGk : inB G (k : Int) = false := by rw [hG, ha]; rfl
              go_wp2_with fail
              refine (wpIn_any _ G k _ HXr.out).mono ?_; rintro e w' ⟨rfl, rfl⟩
              rw [hGk]
              go_wp2_with fail
              refine (wpIn_any _ L k _ HSr.out).mono ?_; rintro e w' ⟨rfl, rfl⟩
              rw [ha]
              go_wp2
              go_roundg (48 - (k + 1))
              case measure => omega
              case rel => exact ⟨k + 1, rfl, by omega, by go_num, hbr⟩
          · obtain rfl : k = 48 := by omega
            have HTr := Lib.hid (HT9.out.keep hbr)
            have hgr : 0 < wr.heap.size := Nat.lt_of_lt_of_le hg9 hbr.size
            have Er := E9.trans (hbr.mono E9.size)
            clear HS9 HX9 HT9 k9 hbr
            have hsum := HSUM.out
            clear HSUM
            generalize hMG : manyB G = mG at *
            generalize hML : manyB L = mL at *
            generalize hMK : manyB K = mK at *
            have HMG := Lib.hid hMG
            have HML := Lib.hid hML
            have HMK := Lib.hid hMK
            clear hMG hML hMK
            go_wp2_with fail
            refine (implSpansCut_any _ L lo hi _ HSr.out HTr.out hgr).mono ?_; rintro e v2 hr; obtain ⟨x2, rfl, hx2, hv2⟩ := hr.spn
            rw [HKK.out] at hx2
            have HKv := Lib.hid hx2
            obtain ⟨ya, yc, rfl, yc1, yc2⟩ := hx2.form
            have HXw := Lib.hid (HXr.out.keep hv2)
            have HSw := Lib.hid (HSr.out.keep hv2)
            have Ew := Er.trans (hv2.mono Er.size)
            clear hx2 hr HXr HSr HTr u1 u2 hv2
            go_wp2_with fail
            refine (implSpansMany_any _ L _ HSw.out).mono ?_; rintro e v3 ⟨rfl, hv3⟩
            rw [HML.out]
            have HXz := Lib.hid (HXw.out.keep hv3)
            have HKz := Lib.hid (HKv.out.keep hv3)
            have Ez := Ew.trans (hv3.mono Ew.size)
            clear HXw HSw HKv hv3
            by_cases hk0 : K = []
            · by_cases hlt2 : (G.length : Int) < (L.length : Int)
              · subst hk0
                clear hsum
                go_wp2
                go_ret
                exact ⟨rfl, Ez⟩
              · have hs2 : mK + mG = mL := by
                  rcases hsum with h | h
                  · omega
                  · exact h
                subst hk0
                clear hsum
                subst hs2
                go_wp2_with fail
                refine (implSpansMany_any _ _ _ HKz.out).mono ?_; rintro e v4 ⟨rfl, hv4⟩
                rw [HMK.out]
                have HXy := Lib.hid (HXz.out.keep hv4)
                have Ey := Ez.trans (hv4.mono Ez.size)
                go_wp2_with fail
                refine (implSpansMany_any _ _ _ HXy.out).mono ?_; rintro e v5 ⟨rfl, hv5⟩
                rw [HMG.out]
                go_wp2
                go_ret
                exact ⟨rfl, Ey.trans (hv5.mono Ey.size)⟩
            · have hs2 : mK + mG = mL := by
                rcases hsum with h | h
                · exact absurd h.1 hk0
                · exact h
              have hl0 : ((K.length : Int) == 0) = false := by
                have : K.length ≠ 0 := fun e => hk0 (List.eq_nil_of_length_eq_zero e)
                simp; omega
              clear hsum
              subst hs2
              go_wp2_with fail
              refine (implSpansMany_any _ _ _ HKz.out).mono ?_; rintro e v4 ⟨rfl, hv4⟩
              rw [HMK.out]
              have HXy := Lib.hid (HXz.out.keep hv4)
              have Ey := Ez.trans (hv4.mono Ez.size)
              go_wp2_with fail
              refine (implSpansMany_any _ _ _ HXy.out).mono ?_; rintro e v5 ⟨rfl, hv5⟩
              rw [HMG.out]
              go_wp2
              go_ret
              exact ⟨rfl, Ey.trans (hv5.mono Ey.size)⟩
  · go_enter Tryd.func5, Tryd.ntmps5
    go_wp2
    go_ret
    exact ⟨rfl, Below.refl _ _⟩

end Go.Proofs.YtehpmdmfolmaoaaDoor.fnSpansMeet
