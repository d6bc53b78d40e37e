/-
  laws.FnSpansCut returns true at every code: the walk of the law. Condition: the table behind math/bits.TrailingZeros64.
-/
import Derived.Test.YtehpmdmfolmaoaaDoorDrawBoth
import Derived.Test.YtehpmdmfolmaoaaDoorWp
import Derived.Test.YtehpmdmfolmaoaaDoorWpIn
import Derived.Test.YtehpmdmfolmaoaaDoorRgoSpn
import Derived.Test.YtehpmdmfolmaoaaDoorMany
import Derived.Deep.RegionHeld3
namespace Go.Proofs.YtehpmdmfolmaoaaDoor.fnSpansCut
open Go.RowKit

theorem cnt_mono {f g : Nat → Bool} : ∀ {n : Nat}, (∀ i, i < n → f i = true → g i = true) → cnt f n ≤ cnt g n
  | 0, _ => Nat.le_refl _
  | n + 1, h => by
    have := cnt_mono (f := fun i => f (i + 1)) (g := fun i => g (i + 1)) (n := n) fun i hi => h (i + 1) (by omega)
    have h0 := h 0 (by omega)
    unfold cnt
    cases h1 : f 0 <;> cases h2 : g 0 <;> simp [h1, h2] at h0 ⊢ <;> omega
theorem manyB_cnt {L : List Rng} (h : spansOkB L = true) : manyB L = ((cnt (fun i => inB L (i : Int)) 48 : Nat) : Int) := by
  have hk : okFrom (-1) L = true := by simp only [spansOkB, Bool.and_eq_true] at h; exact h.2
  have hc := cnt_lens L (-1) 0 48 hk (by omega) (by omega)
  unfold manyB
  rw [if_pos h, ← hc]
  simp

theorem cut_facts {L : List Rng} {lo hi : Int} (h1 : spansOkB L = true) {G : List Rng} (hG : setL (cutF L lo hi) L lo hi = G) :
    (G ≠ [] → ∀ i : Nat, i < 48 → inB G (i : Int) = cutF L lo hi i) ∧ setL (meetF G lo hi) G lo hi = [] ∧ manyB G ≤ manyB L := by
  have hin : G ≠ [] → ∀ i : Nat, i < 48 → inB G (i : Int) = cutF L lo hi i := fun hne i hi' => by
    obtain ⟨_, _, _, h4⟩ := setL_ne (hG ▸ hne : setL (cutF L lo hi) L lo hi ≠ [])
    rw [hG] at h4
    rw [h4]; exact (inB_rg _ 48 (Nat.le_refl _)).1 i hi'
  have h5 : spansOkB G = true := hG ▸ setL_ok _ _ _ _
  refine ⟨hin, ?_, ?_⟩
  · have hr : rg (meetF G lo hi) 48 = [] := rg_none fun i hi' => by
      by_cases hne : G = []
      · subst hne; rfl
      · unfold meetF
        rw [hin hne i hi']
        unfold cutF
        cases inB L (i : Int)
        · simp
        · simp; omega
    unfold setL
    rw [hr]
    split <;> rfl
  · rw [manyB_cnt h5, manyB_cnt h1]
    have : cnt (fun i => inB G (i : Int)) 48 ≤ cnt (fun i => inB L (i : Int)) 48 := cnt_mono fun i hi' hx => by
      by_cases hne : G = []
      · subst hne; exact absurd hx (by simp [inB])
      · replace hx : inB G (i : Int) = true := hx
        rw [hin hne i hi'] at hx
        unfold cutF at hx
        simp only [Bool.and_eq_true] at hx
        exact hx.1
    omega

set_option maxRecDepth 100000 in
set_option maxHeartbeats 4000000 in
theorem walk (v : Value) (len : Nat) (w : World) (h : Byt w v len) (hT : TabAt w) (hg0 : 0 < w.heap.size) :
    Calls Tryd.prog 4 #[v] w fun e w' => e = .returned (.bool true) ∧ Below w.heap.size w w' := by
  have HB := Lib.hid h
  have HT := Lib.hid hT
  have hlen : len ≤ 9223372036854775807 := by obtain ⟨z, a, cap, -, h1, h2, -⟩ := h; unfold maxLen at h2; omega
  obtain ⟨z, a, cap, rfl, -, -, -⟩ := h
  clear hT
  by_cases hL : len ≤ 1048576
  · go_enter Tryd.func4, Tryd.ntmps4
    go_wp2_with fail
    refine (drawSpansCut_any _ len _ HB.out).mono ?_; rintro e w1 ⟨g, cap1, L, lo, hi, rfl, hs1, hL13, -, hb1⟩
    have HS1 := Lib.hid hs1
    have HT1 := Lib.hid (HT.out.keep hb1)
    have hz1 := hb1.size
    clear hs1
    go_wp2_with fail
    have k1 := new_box w1 lo hi 25
    have hal : Below w1.heap.size w1 (w1.alloc (.cells #[.int .i64 lo, .int .i64 hi] 25)) := (Below.refl _ _).alloc (Nat.le_refl _) _
    have HS2 := Lib.hid (HS1.out.keep hal)
    have HT2 := Lib.hid (HT1.out.keep hal)
    have E2 := hb1.trans (hal.mono hb1.size)
    have hg2 : 0 < (w1.alloc (.cells #[.int .i64 lo, .int .i64 hi] 25)).heap.size := Nat.lt_of_lt_of_le hg0 E2.size
    clear HS1 HT1
    refine (implSpansCut_any _ L lo hi _ HS2.out HT2.out hg2).mono ?_; rintro e w3 hr; obtain ⟨x, rfl, hx, hb3⟩ := hr.spn
    have HS3 := Lib.hid (HS2.out.keep hb3)
    have HT3 := Lib.hid (HT2.out.keep hb3)
    have E3 := E2.trans (hb3.mono E2.size)
    have hg3 : 0 < w3.heap.size := Nat.lt_of_lt_of_le hg2 hb3.size
    have k3 := k1.keep hb3
    have hlen12 := setL_len12 (cutF L lo hi) L lo hi
    have hF := fun h1 => cut_facts (L := L) (lo := lo) (hi := hi) h1 rfl
    have hO := fun h => setL_out (f := cutF L lo hi) (L := L) (lo := lo) (hi := hi) h
    have hOG := setL_ok (cutF L lo hi) L lo hi
    have hm1 : 0 ≤ manyB (setL (cutF L lo hi) L lo hi) ∧ manyB (setL (cutF L lo hi) L lo hi) ≤ 1000 := by
      unfold manyB
      rw [if_pos hOG]
      simp only [spansOkB, Bool.and_eq_true, decide_eq_true_eq] at hOG
      have := lens_bd _ (-1) hOG.2 (by omega)
      omega
    have hm2 : 0 ≤ manyB L ∧ manyB L ≤ 1000 := by
      unfold manyB
      by_cases hk : spansOkB L = true
      · rw [if_pos hk]
        simp only [spansOkB, Bool.and_eq_true, decide_eq_true_eq] at hk
        have := lens_bd L (-1) hk.2 (by omega)
        omega
      · rw [if_neg hk]; omega
    generalize hGG : setL (cutF L lo hi) L lo hi = G at *
    have HGG := Lib.hid hGG
    have HX3 := Lib.hid hx
    have HOG := Lib.hid hOG
    obtain ⟨xa, xc, rfl, xc1, xc2⟩ := hx.form
    generalize hB1 : w1.heap.size = B1 at *
    clear hr hb3 k1 hal HS2 HT2 hx hGG hOG
    obtain ⟨y1, y2, -, -⟩ := id k3
    have heG := Lib.hid (eqB_refl G)
    generalize hoL : spansOkB L = o at *
    have HoL := Lib.hid hoL
    clear hoL
    go_wp2_with fail
    refine (specSpansCut_any _ L lo hi _ HS3.out).mono ?_; rintro e w4 hr; obtain ⟨u, rfl, hu, hb⟩ := hr.spn; rw [HGG.out] at hu
    have HU := Lib.hid hu
    have HS4 := Lib.hid (HS3.out.keep hb)
    have HX4 := Lib.hid (HX3.out.keep hb)
    have hbW := hb
    clear hu hr
    go_wp2_with fail
    refine (wpSpans_any _ _ G G _ HX4.out HU.out).mono ?_; rintro e w5 ⟨rfl, hb⟩
    rw [heG.out]
    have HX5 := Lib.hid (HX4.out.keep hb)
    have hbW2 := hbW.trans (hb.mono hbW.size)
    go_wp2_with fail
    refine (implSpansOk_any _ G _ HX5.out).mono ?_; rintro e w' ⟨rfl, hb⟩
    rw [HOG.out]
    have E4 : Below w3.heap.size w3 w' := hbW2.trans (hb.mono hbW2.size)
    clear HU HS4 HX4 hbW HX5 hbW2
    have HS7 := Lib.hid (HS3.out.keep E4)
    have HX7 := Lib.hid (HX3.out.keep E4)
    have HT7 := Lib.hid (HT3.out.keep E4)
    have hg7 : 0 < w'.heap.size := Nat.lt_of_lt_of_le hg3 E4.size
    have k7 := k3.keep E4
    obtain ⟨z1, z2, -, -⟩ := id k7
    have E7 := E3.trans (E4.mono E3.size)
    clear y1 y2 HS3 HX3 HT3
    cases o
    · have hG0 : G = [] := hO fun h => absurd h.1 (by simp)
      subst hG0
      go_wp2_with fail
      refine (specSpansOk_any _ L _ HS7.out).mono ?_; rintro e w8 ⟨rfl, hb8⟩
      rw [HoL.out]
      have E8 := E7.trans (hb8.mono E7.size)
      go_wp2
      go_ret
      exact ⟨rfl, E8⟩
    · cases hp : spanOkB lo hi
      · have hG0 : G = [] := hO fun h => absurd h.2 (by simp [hp])
        subst hG0
        have HP := Lib.hid hp
        clear hp
        go_wp2_with fail
        refine (specSpansOk_any _ L _ HS7.out).mono ?_; rintro e w8 ⟨rfl, hb8⟩
        rw [HoL.out]
        have E8 := E7.trans (hb8.mono E7.size)
        obtain ⟨u1, u2, -, -⟩ := k7.keep hb8
        clear z1 z2
        go_wp2_with fail
        refine (specSpanOk_any lo hi _).mono ?_; rintro e w9 ⟨rfl, hb9⟩
        rw [HP.out]
        have E9 := E8.trans (hb9.mono E8.size)
        go_wp2
        go_ret
        exact ⟨rfl, E9⟩
      · obtain ⟨hin, hmt, hml⟩ := hF rfl
        have HIN := Lib.hid hin
        have HMT := Lib.hid hmt
        have HP := Lib.hid hp
        clear hin hmt hF hO hp
        go_wp2_with fail
        refine (specSpansOk_any _ L _ HS7.out).mono ?_; rintro e w8 ⟨rfl, hb8⟩
        rw [HoL.out]
        have E8 := E7.trans (hb8.mono E7.size)
        have HS8 := Lib.hid (HS7.out.keep hb8)
        have HX8 := Lib.hid (HX7.out.keep hb8)
        have HT8 := Lib.hid (HT7.out.keep hb8)
        have hg8 : 0 < w8.heap.size := Nat.lt_of_lt_of_le hg7 hb8.size
        have k8 := k7.keep hb8
        obtain ⟨u1, u2, -, -⟩ := id k8
        clear HS7 HX7 HT7 z1 z2 k7 k3
        go_wp2_with fail
        refine (specSpanOk_any lo hi _).mono ?_; rintro e w9 ⟨rfl, hb9⟩
        rw [HP.out]
        have E9 := E8.trans (hb9.mono E8.size)
        have HS9 := Lib.hid (HS8.out.keep hb9)
        have HX9 := Lib.hid (HX8.out.keep hb9)
        have HT9 := Lib.hid (HT8.out.keep hb9)
        have hg9 : 0 < w9.heap.size := Nat.lt_of_lt_of_le hg8 hb9.size
        have k9 := k8.keep hb9
        clear HS8 HX8 HT8 u1 u2 k8
        go_wp2
        go_loopg [6] 48 (fun g s6 wr => ∃ k : Nat, g = 48 - k ∧ k ≤ 48 ∧ s6 = .int .i64 k ∧ Below w9.heap.size w9 wr)
        case atStart => exact ⟨0, rfl, Nat.zero_le _, rfl, Below.refl _ _⟩
        case round =>
          obtain ⟨k, rfl, hk, rfl, hbr⟩ := hrel
          have HSr := Lib.hid (HS9.out.keep hbr)
          have HXr := Lib.hid (HX9.out.keep hbr)
          obtain ⟨u1, u2, -, -⟩ := k9.keep hbr
          by_cases hlt : k < 48
          · by_cases hG0 : G = []
            · subst hG0
              go_wp2
              go_roundg (48 - (k + 1))
              case measure => omega
              case rel => exact ⟨k + 1, rfl, by omega, by go_num, hbr⟩
            · have hG := HIN.out hG0 k hlt
              have hl0 : (0 : Int) < (G.length : Int) := by
                have : G.length ≠ 0 := fun e => hG0 (List.eq_nil_of_length_eq_zero e)
                omega
              unfold cutF at hG
              by_cases ha : inB L (k : Int) = true
              · by_cases h1 : (k : Int) < lo
                · have hGk : inB G (k : Int) = true := by rw [hG, ha]; simp; omega
                  go_wp2_with fail
                  refine (wpIn_any _ G k _ HXr.out).mono ?_; rintro e w' ⟨rfl, rfl⟩
                  rw [hGk]
                  go_wp2_with fail
                  refine (wpIn_any _ L k _ HSr.out).mono ?_; rintro e w' ⟨rfl, rfl⟩
                  rw [ha]
                  go_wp2
                  go_roundg (48 - (k + 1))
                  case measure => omega
                  case rel => exact ⟨k + 1, rfl, by omega, by go_num, hbr⟩
                · by_cases h2 : hi ≤ (k : Int)
                  · have hGk : inB G (k : Int) = true := by rw [hG, ha]; simp; omega
                    go_wp2_with fail
                    refine (wpIn_any _ G k _ HXr.out).mono ?_; rintro e w' ⟨rfl, rfl⟩
                    rw [hGk]
                    go_wp2_with fail
                    refine (wpIn_any _ L k _ HSr.out).mono ?_; rintro e w' ⟨rfl, rfl⟩
                    rw [ha]
                    go_wp2
                    go_roundg (48 - (k + 1))
                    case measure => omega
                    case rel => exact ⟨k + 1, rfl, by omega, by go_num, hbr⟩
                  · have hGk : inB G (k : Int) = false := by rw [hG, ha]; simp; omega
                    go_wp2_with fail
                    refine (wpIn_any _ G k _ HXr.out).mono ?_; rintro e w' ⟨rfl, rfl⟩
                    rw [hGk]
                    go_wp2_with fail
                    refine (wpIn_any _ L k _ HSr.out).mono ?_; rintro e w' ⟨rfl, rfl⟩
                    rw [ha]
                    go_wp2
                    go_roundg (48 - (k + 1))
                    case measure => omega
                    case rel => exact ⟨k + 1, rfl, by omega, by go_num, hbr⟩
              · replace ha : inB L (k : Int) = false := by simpa using ha
                have hGk : inB G (k : Int) = false := by rw [hG, ha]; rfl
                go_wp2_with fail
                refine (wpIn_any _ G k _ HXr.out).mono ?_; rintro e w' ⟨rfl, rfl⟩
                rw [hGk]
                go_wp2_with fail
                refine (wpIn_any _ L k _ HSr.out).mono ?_; rintro e w' ⟨rfl, rfl⟩
                rw [ha]
                go_wp2
                go_roundg (48 - (k + 1))
                case measure => omega
                case rel => exact ⟨k + 1, rfl, by omega, by go_num, hbr⟩
          · obtain rfl : k = 48 := by omega
            have HTr := Lib.hid (HT9.out.keep hbr)
            have hgr : 0 < wr.heap.size := Nat.lt_of_lt_of_le hg9 hbr.size
            have Er := E9.trans (hbr.mono E9.size)
            clear HS9 HX9 HT9 k9 hbr
            have hmle : manyB G ≤ manyB L := hml
            generalize hMG : manyB G = mG at *
            generalize hML : manyB L = mL at *
            have HMG := Lib.hid hMG
            have HML := Lib.hid hML
            clear hMG hML
            go_wp2_with fail
            refine (implSpansMeet_any _ G lo hi _ HXr.out HTr.out hgr).mono ?_; rintro e v2 hr; obtain ⟨x2, rfl, hx2, hv2⟩ := hr.spn
            rw [HMT.out] at hx2
            obtain ⟨ya, yc, rfl, yc1, yc2⟩ := hx2.form
            have HXw := Lib.hid (HXr.out.keep hv2)
            have HSw := Lib.hid (HSr.out.keep hv2)
            have Ew := Er.trans (hv2.mono Er.size)
            clear hx2 hr HXr HSr HTr u1 u2 hv2
            go_wp2_with fail
            refine (implSpansMany_any _ G _ HXw.out).mono ?_; rintro e v3 ⟨rfl, hv3⟩
            rw [HMG.out]
            have HSz := Lib.hid (HSw.out.keep hv3)
            have Ez := Ew.trans (hv3.mono Ew.size)
            clear HXw HSw hv3
            go_wp2_with fail
            refine (implSpansMany_any _ L _ HSz.out).mono ?_; rintro e v4 ⟨rfl, hv4⟩
            rw [HML.out]
            go_wp2
            go_ret
            exact ⟨rfl, Ez.trans (hv4.mono Ez.size)⟩
  · go_enter Tryd.func4, Tryd.ntmps4
    go_wp2
    go_ret
    exact ⟨rfl, Below.refl _ _⟩

end Go.Proofs.YtehpmdmfolmaoaaDoor.fnSpansCut
