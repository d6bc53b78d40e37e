/-
  laws.FnSpansAdd returns true at every code: the walk of the law. Condition: the table behind math/bits.TrailingZeros64.
-/
import Derived.Test.YtehpmdmfolmaoaaDoorDrawBoth
import Derived.Test.YtehpmdmfolmaoaaDoorWp
import Derived.Test.YtehpmdmfolmaoaaDoorWpIn
import Derived.Test.YtehpmdmfolmaoaaDoorRgoSpn
import Derived.Deep.RegionHeld3
namespace Go.Proofs.YtehpmdmfolmaoaaDoor.fnSpansAdd
open Go.RowKit

theorem wpIn_b (v : Value) (L : List Rng) (p : Int) (w : World) (h : Spn w v L) :
    Calls Tryd.prog 18 #[v, .int .i64 p] w fun e w' => e = .returned (.bool (inB L p)) ∧ Below w.heap.size w w' :=
  (wpIn_any v L p w h).mono fun _ _ ⟨h1, h2⟩ => ⟨h1, h2 ▸ Below.refl _ _⟩

set_option maxRecDepth 100000 in
set_option maxHeartbeats 4000000 in
theorem walk (v : Value) (len : Nat) (w : World) (h : Byt w v len) (hT : TabAt w) (hg0 : 0 < w.heap.size) :
    Calls Tryd.prog 3 #[v] w fun e w' => e = .returned (.bool true) ∧ Below w.heap.size w w' := by
  have HB := Lib.hid h
  have HT := Lib.hid hT
  have hlen : len ≤ 9223372036854775807 := by obtain ⟨z, a, cap, -, h1, h2, -⟩ := h; unfold maxLen at h2; omega
  obtain ⟨z, a, cap, rfl, -, -, -⟩ := h
  clear hT
  by_cases hL : len ≤ 1048576
  · go_enter Tryd.func3, Tryd.ntmps3
    go_wp2_with fail
    refine (drawSpansAdd_any _ len _ HB.out).mono ?_; rintro e w1 ⟨g, cap1, L, lo, hi, rfl, hs1, hL13, -, hb1⟩
    have HS1 := Lib.hid hs1
    have HT1 := Lib.hid (HT.out.keep hb1)
    have hz1 := hb1.size
    clear hs1
    go_wp2_with fail
    have k1 := new_box w1 lo hi 25
    have hal : Below w1.heap.size w1 (w1.alloc (.cells #[.int .i64 lo, .int .i64 hi] 25)) := (Below.refl _ _).alloc (Nat.le_refl _) _
    have HS2 := Lib.hid (HS1.out.keep hal)
    have HT2 := Lib.hid (HT1.out.keep hal)
    have E2 := hb1.trans (hal.mono hb1.size)
    have hg2 : 0 < (w1.alloc (.cells #[.int .i64 lo, .int .i64 hi] 25)).heap.size := Nat.lt_of_lt_of_le hg0 E2.size
    clear HS1 HT1
    refine (implSpansAdd_any _ L lo hi _ HS2.out HT2.out hg2).mono ?_; rintro e w3 hr; obtain ⟨x, rfl, hx, hb3⟩ := hr.spn
    have HS3 := Lib.hid (HS2.out.keep hb3)
    have HT3 := Lib.hid (HT2.out.keep hb3)
    have E3 := E2.trans (hb3.mono E2.size)
    have hg3 : 0 < w3.heap.size := Nat.lt_of_lt_of_le hg2 hb3.size
    have k3 := k1.keep hb3
    have hlen12 := setL_len12 (addF L lo hi) L lo hi
    have hF := fun hne => add_facts (L := L) (lo := lo) (hi := hi) rfl hne
    have hO : setL (addF L lo hi) L lo hi ≠ [] → spansOkB L = true ∧ spanOkB lo hi = true := fun hne => ⟨(setL_ne hne).1, (setL_ne hne).2.1⟩
    generalize hGG : setL (addF L lo hi) L lo hi = G at *
    have HGG := Lib.hid hGG
    have HX3 := Lib.hid hx
    obtain ⟨xa, xc, rfl, xc1, xc2⟩ := hx.form
    generalize hB1 : w1.heap.size = B1 at *
    clear hr hb3 k1 hal HS2 HT2 hx hGG
    obtain ⟨y1, y2, -, -⟩ := id k3
    have heG := Lib.hid (eqB_refl G)
    have hoo : (spansOkB L != spansOkB L) = false := by simp
    generalize hoL : spansOkB L = o at *
    have HoL := Lib.hid hoL
    clear hoL
    go_wp2_with fail
    refine (specSpansAdd_any _ L lo hi _ HS3.out).mono ?_; rintro e w4 hr; obtain ⟨u, rfl, hu, hb⟩ := hr.spn; rw [HGG.out] at hu
    have HU := Lib.hid hu
    have HS4 := Lib.hid (HS3.out.keep hb)
    have HX4 := Lib.hid (HX3.out.keep hb)
    have hbW := hb
    obtain ⟨y1, y2, -, -⟩ := k3.keep hbW
    clear hu hr
    go_wp2_with fail
    refine (wpSpans_any _ _ G G _ HX4.out HU.out).mono ?_; rintro e w5 ⟨rfl, hb⟩
    rw [heG.out]
    have HS5 := Lib.hid (HS4.out.keep hb)
    have hbW2 := hbW.trans (hb.mono hbW.size)
    go_wp2_with fail
    refine (implSpansOk_any _ L _ HS5.out).mono ?_; rintro e w6 ⟨rfl, hb⟩
    rw [HoL.out]
    have HS6 := Lib.hid (HS5.out.keep hb)
    have hbW3 := hbW2.trans (hb.mono hbW2.size)
    go_wp2_with fail
    refine (specSpansOk_any _ L _ HS6.out).mono ?_; rintro e w' ⟨rfl, hb⟩
    rw [HoL.out]
    have hbW4 := hbW3.trans (hb.mono hbW3.size)
    have E4 : Below w3.heap.size w3 w' := hbW4
    clear HU HS4 HX4 hbW HS5 hbW2 HS6 hbW3 hbW4
    have HS7 := Lib.hid (HS3.out.keep E4)
    have HX7 := Lib.hid (HX3.out.keep E4)
    have HT7 := Lib.hid (HT3.out.keep E4)
    have hg7 : 0 < w'.heap.size := Nat.lt_of_lt_of_le hg3 E4.size
    obtain ⟨z1, z2, -, -⟩ := k3.keep E4
    have E7 := E3.trans (E4.mono E3.size)
    clear y1 y2 HS3 HX3 HT3
    by_cases hG0 : G = []
    · subst hG0
      cases o
      · go_wp2_with fail
        refine (specSpansOk_any _ L _ HS7.out).mono ?_; rintro e w8 ⟨rfl, hb8⟩
        rw [HoL.out]
        have E8 := E7.trans (hb8.mono E7.size)
        go_wp2
        go_ret
        exact ⟨rfl, E8⟩
      · cases hp : spanOkB lo hi
        all_goals
          have HP := Lib.hid hp
          clear hp
          go_wp2_with fail
          refine (specSpansOk_any _ L _ HS7.out).mono ?_; rintro e w8 ⟨rfl, hb8⟩
          rw [HoL.out]
          have E8 := E7.trans (hb8.mono E7.size)
          obtain ⟨u1, u2, -, -⟩ := (k3.keep E4).keep hb8
          clear z1 z2
          go_wp2_with fail
          refine (specSpanOk_any lo hi _).mono ?_; rintro e w9 ⟨rfl, hb9⟩
          rw [HP.out]
          have E9 := E8.trans (hb9.mono E8.size)
          go_wp2
          go_ret
          exact ⟨rfl, E9⟩
    · obtain ⟨rfl, hp⟩ := hO hG0
      obtain ⟨hin, hset, hhave, hokG⟩ := hF hG0
      have HP := Lib.hid hp
      have HIN := Lib.hid hin
      have HSET := Lib.hid hset
      have HHV := Lib.hid hhave
      have HOG := Lib.hid hokG
      have hl0 : ((G.length : Int) == 0) = false := by
        have : G.length ≠ 0 := fun e => hG0 (List.eq_nil_of_length_eq_zero e)
        simp; omega
      clear hin hset hhave hokG hF hO hp
      go_wp2_with fail
      refine (specSpansOk_any _ L _ HS7.out).mono ?_; rintro e w8 ⟨rfl, hb8⟩
      rw [HoL.out]
      have E8 := E7.trans (hb8.mono E7.size)
      have HS8 := Lib.hid (HS7.out.keep hb8)
      have HX8 := Lib.hid (HX7.out.keep hb8)
      have HT8 := Lib.hid (HT7.out.keep hb8)
      have hg8 : 0 < w8.heap.size := Nat.lt_of_lt_of_le hg7 hb8.size
      have k8 := (k3.keep E4).keep hb8
      obtain ⟨u1, u2, -, -⟩ := id k8
      clear HS7 HX7 HT7 z1 z2
      go_wp2_with fail
      refine (specSpanOk_any lo hi _).mono ?_; rintro e w9 ⟨rfl, hb9⟩
      rw [HP.out]
      have E9 := E8.trans (hb9.mono E8.size)
      have HS9 := Lib.hid (HS8.out.keep hb9)
      have HX9 := Lib.hid (HX8.out.keep hb9)
      have HT9 := Lib.hid (HT8.out.keep hb9)
      have hg9 : 0 < w9.heap.size := Nat.lt_of_lt_of_le hg8 hb9.size
      have k9 := k8.keep hb9
      clear HS8 HX8 HT8 u1 u2 k3 k8
      go_wp2
      go_loopg [6] 48 (fun g s6 wr => ∃ k : Nat, g = 48 - k ∧ k ≤ 48 ∧ s6 = .int .i64 k ∧ Below w9.heap.size w9 wr)
      case atStart => exact ⟨0, rfl, Nat.zero_le _, rfl, Below.refl _ _⟩
      case round =>
        obtain ⟨k, rfl, hk, rfl, hbr⟩ := hrel
        have HSr := Lib.hid (HS9.out.keep hbr)
        have HXr := Lib.hid (HX9.out.keep hbr)
        obtain ⟨u1, u2, -, -⟩ := k9.keep hbr
        by_cases hlt : k < 48
        · have hG := HIN.out k hlt
          unfold addF at hG
          by_cases ha : inB L (k : Int) = true
          · have hGk : inB G (k : Int) = true := by rw [hG, ha]; rfl
            go_wp2_with fail
            refine (wpIn_any _ G k _ HXr.out).mono ?_; rintro e w' ⟨rfl, rfl⟩
            rw [hGk]
            go_wp2_with fail
            refine (wpIn_any _ L k _ HSr.out).mono ?_; rintro e w' ⟨rfl, rfl⟩
            rw [ha]
            go_wp2
            go_roundg (48 - (k + 1))
            case measure => omega
            case rel => exact ⟨k + 1, rfl, by omega, by go_num, hbr⟩
          · replace ha : inB L (k : Int) = false := by simpa using ha
            by_cases h1 : lo ≤ (k : Int)
            · by_cases h2 : (k : Int) < hi
              · have hGk : inB G (k : Int) = true := by rw [hG, ha]; simp [h1, h2]
                go_wp2_with fail
                refine (wpIn_any _ G k _ HXr.out).mono ?_; rintro e w' ⟨rfl, rfl⟩
                rw [hGk]
                go_wp2_with fail
                refine (wpIn_any _ L k _ HSr.out).mono ?_; rintro e w' ⟨rfl, rfl⟩
                rw [ha]
                go_wp2
                go_roundg (48 - (k + 1))
                case measure => omega
                case rel => exact ⟨k + 1, rfl, by omega, by go_num, hbr⟩
              · have hGk : inB G (k : Int) = false := by rw [hG, ha]; simp [h2]
                go_wp2_with fail
                refine (wpIn_any _ G k _ HXr.out).mono ?_; rintro e w' ⟨rfl, rfl⟩
                rw [hGk]
                go_wp2_with fail
                refine (wpIn_any _ L k _ HSr.out).mono ?_; rintro e w' ⟨rfl, rfl⟩
                rw [ha]
                go_wp2
                go_roundg (48 - (k + 1))
                case measure => omega
                case rel => exact ⟨k + 1, rfl, by omega, by go_num, hbr⟩
            · have hGk : inB G (k : Int) = false := by rw [hG, ha]; simp [h1]
              go_wp2_with fail
              refine (wpIn_any _ G k _ HXr.out).mono ?_; rintro e w' ⟨rfl, rfl⟩
              rw [hGk]
              go_wp2_with fail
              refine (wpIn_any _ L k _ HSr.out).mono ?_; rintro e w' ⟨rfl, rfl⟩
              rw [ha]
              go_wp2
              go_roundg (48 - (k + 1))
              case measure => omega
              case rel => exact ⟨k + 1, rfl, by omega, by go_num, hbr⟩
        · obtain rfl : k = 48 := by omega
          have HTr := Lib.hid (HT9.out.keep hbr)
          have hgr : 0 < wr.heap.size := Nat.lt_of_lt_of_le hg9 hbr.size
          have Er := E9.trans (hbr.mono E9.size)
          have heG2 := Lib.hid (eqB_refl G)
          have kr := k9.keep hbr
          clear HS9 HX9 HT9 k9 hbr
          go_wp2_with fail
          refine (implSpansOk_any _ G _ HXr.out).mono ?_; rintro e v1 ⟨rfl, hv1⟩
          rw [HOG.out]
          have HXv := Lib.hid (HXr.out.keep hv1)
          have HTv := Lib.hid (HTr.out.keep hv1)
          have hgv : 0 < v1.heap.size := Nat.lt_of_lt_of_le hgr hv1.size
          have Ev := Er.trans (hv1.mono Er.size)
          have kv := kr.keep hv1
          obtain ⟨t1, t2, -, -⟩ := id kv
          clear HXr HTr u1 u2 hv1 kr
          go_wp2_with fail
          refine (implSpansAdd_any _ G lo hi _ HXv.out HTv.out hgv).mono ?_; rintro e v2 hr; obtain ⟨x2, rfl, hx2, hv2⟩ := hr.spn
          rw [HSET.out] at hx2
          have HX2 := Lib.hid hx2
          have HXw := Lib.hid (HXv.out.keep hv2)
          have Ew := Ev.trans (hv2.mono Ev.size)
          have kw := kv.keep hv2
          obtain ⟨r1, r2, -, -⟩ := id kw
          clear hx2 hr HXv HTv t1 t2 hv2 kv
          go_wp2_with fail
          refine (wpSpans_any _ _ G G _ HX2.out HXw.out).mono ?_; rintro e v3 ⟨rfl, hv3⟩
          rw [heG2.out]
          have HXz := Lib.hid (HXw.out.keep hv3)
          have Ez := Ew.trans (hv3.mono Ew.size)
          obtain ⟨q1, q2, -, -⟩ := kw.keep hv3
          clear HXw r1 r2 hv3 kw
          go_wp2_with fail
          refine (implSpansHave_any _ G lo hi _ HXz.out).mono ?_; rintro e v4 ⟨rfl, hv4⟩
          rw [HHV.out]
          go_wp2
          go_ret
          exact ⟨rfl, Ez.trans (hv4.mono Ez.size)⟩
  · go_enter Tryd.func3, Tryd.ntmps3
    go_wp2
    go_ret
    exact ⟨rfl, Below.refl _ _⟩

end Go.Proofs.YtehpmdmfolmaoaaDoor.fnSpansAdd
