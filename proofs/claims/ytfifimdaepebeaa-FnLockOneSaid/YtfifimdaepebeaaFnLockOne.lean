/-
  laws.FnLockOne returns true at every code: the walk of the law. No condition.
-/
import Derived.Test.YtfifimdaepebeaaDrawLk2
import Derived.Test.YtfifimdaepebeaaImplMay
import Derived.Test.YtfifimdaepebeaaSpecMay
import Derived.Test.YtfifimdaepebeaaLkMath
import Derived.Test.YtfifimdaepebeaaLkLaws
import Derived.Test.YtfifimdaepebeaaImplGive
import Derived.Test.YtfifimdaepebeaaSpecGive
import Derived.Test.YtfifimdaepebeaaLockSame
import Derived.Test.YtfifimdaepebeaaDrawLk3
namespace Go.Proofs.Ytfifimdaepebeaa.fnLockOne
open Go.RowKit

/-- How many may read, how many may write at a position. -/
def cR (T : List HoldT) (i : Int) : Nat → Nat
  | 0 => 0
  | n + 1 => cR T i n + (if 1 ≤ mfn (T.getD n hd0) i then 1 else 0)
def cW (T : List HoldT) (i : Int) : Nat → Nat
  | 0 => 0
  | n + 1 => cW T i n + (if 2 ≤ mfn (T.getD n hd0) i then 1 else 0)
theorem cR_le (T : List HoldT) (i : Int) : ∀ n, cR T i n ≤ n
  | 0 => Nat.le_refl _
  | n + 1 => by have := cR_le T i n; unfold cR; split <;> omega
theorem cW_le (T : List HoldT) (i : Int) : ∀ n, cW T i n ≤ n
  | 0 => Nat.le_refl _
  | n + 1 => by have := cW_le T i n; unfold cW; split <;> omega
theorem one_fact {T : List HoldT} (h : lockOkB T = true) {i : Int} (h0 : 0 ≤ i) (h1 : i < 48) : cW T i 3 = 0 ∨ (cW T i 3 = 1 ∧ cR T i 3 = 1) := by
  obtain ⟨-, -, hx⟩ := lockOk_mf.1 h
  have a01 := hx 0 (by omega) 1 (by omega) (by omega) i h0 h1
  have a02 := hx 0 (by omega) 2 (by omega) (by omega) i h0 h1
  have a10 := hx 1 (by omega) 0 (by omega) (by omega) i h0 h1
  have a12 := hx 1 (by omega) 2 (by omega) (by omega) i h0 h1
  have a20 := hx 2 (by omega) 0 (by omega) (by omega) i h0 h1
  have a21 := hx 2 (by omega) 1 (by omega) (by omega) i h0 h1
  have m0 := mfn_cases (T.getD 0 hd0) i
  have m1 := mfn_cases (T.getD 1 hd0) i
  have m2 := mfn_cases (T.getD 2 hd0) i
  show (0 + _ + _ + _ = 0) ∨ (0 + _ + _ + _ = 1 ∧ 0 + _ + _ + _ = 1)
  generalize mfn (T.getD 0 hd0) i = x at *
  generalize mfn (T.getD 1 hd0) i = y at *
  generalize mfn (T.getD 2 hd0) i = z at *
  rcases m0 with rfl | rfl | rfl <;> rcases m1 with rfl | rfl | rfl <;> rcases m2 with rfl | rfl | rfl <;> simp at * 

set_option maxRecDepth 100000 in
set_option maxHeartbeats 8000000 in
theorem walk (v0 : Value) (len0 : Nat) (w : World) (h0 : Byt w v0 len0) :
    Calls Try.prog 4 #[v0] w fun e w' => e = .returned (.bool true) ∧ Below w.heap.size w w' := by
  have HB0 := Lib.hid h0
  have hlen0 : len0 ≤ 9223372036854775807 := by obtain ⟨z, a, cap, -, h1, h2, -⟩ := h0; unfold maxLen at h2; omega
  obtain ⟨z0, a0, cap0, rfl, -, -, -⟩ := h0
  by_cases hL : len0 ≤ 1048576
  · go_enter Try.func4, Try.ntmps4
    go_wp2_with fail
    refine (drawLockOk_any _ len0 _ HB0.out).mono ?_; rintro e w1 ⟨v, T, rfl, hd, hb⟩
    have HT_0 := Lib.hid (hd.out _ (Btw.refl _ _ _))
    have E_0 := Lib.hid hb
    clear hd hb HB0
    obtain ⟨q, hq⟩ : ∃ q, lockOkB T = q := ⟨_, rfl⟩
    have C1 := Lib.hid (fun W h => implLockOk_any v T W h)
    rw [hq] at C1
    have C2 := Lib.hid (fun W h => specLockOk_any v T W h)
    rw [hq] at C2
    go_wp2_with fail
    refine (C1.out _ HT_0.out).mono ?_; rintro e w2 ⟨rfl, hb⟩
    have HT_1 := Lib.hid (HT_0.out.keep hb)
    have E_1 := Lib.hid (E_0.out.trans (hb.mono E_0.out.size))
    clear HT_0 E_0 hb
    go_wp2_with fail
    refine (C2.out _ HT_1.out).mono ?_; rintro e w3 ⟨rfl, hb⟩
    have HT_2 := Lib.hid (HT_1.out.keep hb)
    have E_2 := Lib.hid (E_1.out.trans (hb.mono E_1.out.size))
    clear HT_1 E_1 hb
    cases q
    · clear hq
      go_wp2_with fail
      refine (C2.out _ HT_2.out).mono ?_; rintro e w4 ⟨rfl, hb⟩
      have HT_3 := Lib.hid (HT_2.out.keep hb)
      have E_3 := Lib.hid (E_2.out.trans (hb.mono E_2.out.size))
      clear HT_2 E_2 hb
      go_wp2
      go_ret
      exact ⟨rfl, E_3.out⟩
    · have HQ := Lib.hid hq
      clear hq C1 C2
      go_wp2_with fail
      go_loopg [5] 48 (fun g s5 wr => ∃ k : Nat, g = 48 - k ∧ k ≤ 48 ∧ s5 = .int .i64 k ∧ Below w3.heap.size w3 wr)
      case atStart => exact ⟨0, rfl, Nat.zero_le _, rfl, Below.refl _ _⟩
      case round =>
        obtain ⟨k, rfl, hk, rfl, hb⟩ := hrel
        have L1_0 := Lib.hid hb
        have HT_3 := Lib.hid (HT_2.out.keep hb)
        have E_3 := Lib.hid (E_2.out.trans (hb.mono E_2.out.size))
        clear HT_2 E_2 hb
        by_cases hlt : k < 48
        · have hk0 : (0 : Int) ≤ (k : Int) := by omega
          have hk1 : (k : Int) < 48 := by omega
          go_wp2_with fail
          go_loopg [6, 7, 8] 3 (fun gi s6 s7 s8 wi => ∃ j : Nat, gi = 3 - j ∧ j ≤ 3 ∧ s6 = .int .i64 (cR T k j : Nat) ∧ s7 = .int .i64 (cW T k j : Nat) ∧ s8 = .int .i64 j ∧ Below wr.heap.size wr wi)
          case atStart => exact ⟨0, rfl, Nat.zero_le _, rfl, rfl, rfl, Below.refl _ _⟩
          case round =>
            obtain ⟨j, rfl, hj, rfl, rfl, rfl, hb⟩ := hrel
            have L2_0 := Lib.hid hb
            have HT_4 := Lib.hid (HT_3.out.keep hb)
            have L1_4 := Lib.hid (L1_0.out.trans (hb.mono L1_0.out.size))
            have E_4 := Lib.hid (E_3.out.trans (hb.mono E_3.out.size))
            clear HT_3 L1_0 E_3 hb
            have r0 := cR_le T (k : Int) j
            have w0 := cW_le T (k : Int) j
            by_cases hjl : j < 3
            · have sR : Hid (cR T (k : Int) (j + 1) = cR T (k : Int) j + (if 1 ≤ mfn (T.getD j hd0) (k : Int) then 1 else 0)) := rfl
              have sW : Hid (cW T (k : Int) (j + 1) = cW T (k : Int) j + (if 2 ≤ mfn (T.getD j hd0) (k : Int) then 1 else 0)) := rfl
              have hm := mfn_cases (T.getD j hd0) (k : Int)
              have mF := may_at hjl HQ.out hk0 hk1 false
              have mT := may_at hjl HQ.out hk0 hk1 true
              have MF := Lib.hid (fun W h => implLockMay_any v T (j : Int) false (k : Int) ((k : Int) + 1) W h)
              have MT := Lib.hid (fun W h => implLockMay_any v T (j : Int) true (k : Int) ((k : Int) + 1) W h)
              rw [mF] at MF
              rw [mT] at MT
              clear mF mT
              generalize cR T (k : Int) j = cr at *
              generalize cW T (k : Int) j = cw at *
              generalize mfn (T.getD j hd0) (k : Int) = m at *
              rcases hm with rfl | rfl | rfl
              · rw [show (decide (wantOf false ≤ (0 : Int))) = false from by decide] at MF
                rw [show (decide (wantOf true ≤ (0 : Int))) = false from by decide] at MT
                rw [show (if (1 : Int) ≤ 0 then 1 else 0 : Nat) = 0 from by decide] at sR
                rw [show (if (2 : Int) ≤ 0 then 1 else 0 : Nat) = 0 from by decide] at sW
                go_wp2_with fail
                refine (wpAt_any (k : Int) hk0 (by omega) _).mono ?_; rintro e w5 ⟨rfl, hb⟩
                have HT_5 := Lib.hid (HT_4.out.keep hb)
                have L1_5 := Lib.hid (L1_4.out.trans (hb.mono L1_4.out.size))
                have L2_5 := Lib.hid (L2_0.out.trans (hb.mono L2_0.out.size))
                have E_5 := Lib.hid (E_4.out.trans (hb.mono E_4.out.size))
                clear HT_4 L1_4 L2_0 E_4 hb
                go_wp2_with fail
                refine (MF.out _ HT_5.out).mono ?_; rintro e w6 ⟨rfl, hb⟩
                have HT_6 := Lib.hid (HT_5.out.keep hb)
                have L1_6 := Lib.hid (L1_5.out.trans (hb.mono L1_5.out.size))
                have L2_6 := Lib.hid (L2_5.out.trans (hb.mono L2_5.out.size))
                have E_6 := Lib.hid (E_5.out.trans (hb.mono E_5.out.size))
                clear HT_5 L1_5 L2_5 E_5 hb
                go_wp2_with fail
                refine (wpAt_any (k : Int) hk0 (by omega) _).mono ?_; rintro e w7 ⟨rfl, hb⟩
                have HT_7 := Lib.hid (HT_6.out.keep hb)
                have L1_7 := Lib.hid (L1_6.out.trans (hb.mono L1_6.out.size))
                have L2_7 := Lib.hid (L2_6.out.trans (hb.mono L2_6.out.size))
                have E_7 := Lib.hid (E_6.out.trans (hb.mono E_6.out.size))
                clear HT_6 L1_6 L2_6 E_6 hb
                go_wp2_with fail
                refine (MT.out _ HT_7.out).mono ?_; rintro e w8 ⟨rfl, hb⟩
                have HT_8 := Lib.hid (HT_7.out.keep hb)
                have L1_8 := Lib.hid (L1_7.out.trans (hb.mono L1_7.out.size))
                have L2_8 := Lib.hid (L2_7.out.trans (hb.mono L2_7.out.size))
                have E_8 := Lib.hid (E_7.out.trans (hb.mono E_7.out.size))
                clear HT_7 L1_7 L2_7 E_7 hb
                go_wp2
                go_roundg (3 - (j + 1))
                case measure => omega
                case rel => exact ⟨j + 1, rfl, by omega, by rw [sR.out]; go_num, by rw [sW.out]; go_num, by go_num, L2_8.out⟩
              · rw [show (decide (wantOf false ≤ (1 : Int))) = true from by decide] at MF
                rw [show (decide (wantOf true ≤ (1 : Int))) = false from by decide] at MT
                rw [show (if (1 : Int) ≤ 1 then 1 else 0 : Nat) = 1 from by decide] at sR
                rw [show (if (2 : Int) ≤ 1 then 1 else 0 : Nat) = 0 from by decide] at sW
                go_wp2_with fail
                refine (wpAt_any (k : Int) hk0 (by omega) _).mono ?_; rintro e w9 ⟨rfl, hb⟩
                have HT_5 := Lib.hid (HT_4.out.keep hb)
                have L1_5 := Lib.hid (L1_4.out.trans (hb.mono L1_4.out.size))
                have L2_5 := Lib.hid (L2_0.out.trans (hb.mono L2_0.out.size))
                have E_5 := Lib.hid (E_4.out.trans (hb.mono E_4.out.size))
                clear HT_4 L1_4 L2_0 E_4 hb
                go_wp2_with fail
                refine (MF.out _ HT_5.out).mono ?_; rintro e w10 ⟨rfl, hb⟩
                have HT_6 := Lib.hid (HT_5.out.keep hb)
                have L1_6 := Lib.hid (L1_5.out.trans (hb.mono L1_5.out.size))
                have L2_6 := Lib.hid (L2_5.out.trans (hb.mono L2_5.out.size))
                have E_6 := Lib.hid (E_5.out.trans (hb.mono E_5.out.size))
                clear HT_5 L1_5 L2_5 E_5 hb
                go_wp2_with fail
                refine (wpAt_any (k : Int) hk0 (by omega) _).mono ?_; rintro e w11 ⟨rfl, hb⟩
                have HT_7 := Lib.hid (HT_6.out.keep hb)
                have L1_7 := Lib.hid (L1_6.out.trans (hb.mono L1_6.out.size))
                have L2_7 := Lib.hid (L2_6.out.trans (hb.mono L2_6.out.size))
                have E_7 := Lib.hid (E_6.out.trans (hb.mono E_6.out.size))
                clear HT_6 L1_6 L2_6 E_6 hb
                go_wp2_with fail
                refine (MT.out _ HT_7.out).mono ?_; rintro e w12 ⟨rfl, hb⟩
                have HT_8 := Lib.hid (HT_7.out.keep hb)
                have L1_8 := Lib.hid (L1_7.out.trans (hb.mono L1_7.out.size))
                have L2_8 := Lib.hid (L2_7.out.trans (hb.mono L2_7.out.size))
                have E_8 := Lib.hid (E_7.out.trans (hb.mono E_7.out.size))
                clear HT_7 L1_7 L2_7 E_7 hb
                go_wp2
                go_roundg (3 - (j + 1))
                case measure => omega
                case rel => exact ⟨j + 1, rfl, by omega, by rw [sR.out]; go_num, by rw [sW.out]; go_num, by go_num, L2_8.out⟩
              · rw [show (decide (wantOf false ≤ (2 : Int))) = true from by decide] at MF
                rw [show (decide (wantOf true ≤ (2 : Int))) = true from by decide] at MT
                rw [show (if (1 : Int) ≤ 2 then 1 else 0 : Nat) = 1 from by decide] at sR
                rw [show (if (2 : Int) ≤ 2 then 1 else 0 : Nat) = 1 from by decide] at sW
                go_wp2_with fail
                refine (wpAt_any (k : Int) hk0 (by omega) _).mono ?_; rintro e w13 ⟨rfl, hb⟩
                have HT_5 := Lib.hid (HT_4.out.keep hb)
                have L1_5 := Lib.hid (L1_4.out.trans (hb.mono L1_4.out.size))
                have L2_5 := Lib.hid (L2_0.out.trans (hb.mono L2_0.out.size))
                have E_5 := Lib.hid (E_4.out.trans (hb.mono E_4.out.size))
                clear HT_4 L1_4 L2_0 E_4 hb
                go_wp2_with fail
                refine (MF.out _ HT_5.out).mono ?_; rintro e w14 ⟨rfl, hb⟩
                have HT_6 := Lib.hid (HT_5.out.keep hb)
                have L1_6 := Lib.hid (L1_5.out.trans (hb.mono L1_5.out.size))
                have L2_6 := Lib.hid (L2_5.out.trans (hb.mono L2_5.out.size))
                have E_6 := Lib.hid (E_5.out.trans (hb.mono E_5.out.size))
                clear HT_5 L1_5 L2_5 E_5 hb
                go_wp2_with fail
                refine (wpAt_any (k : Int) hk0 (by omega) _).mono ?_; rintro e w15 ⟨rfl, hb⟩
                have HT_7 := Lib.hid (HT_6.out.keep hb)
                have L1_7 := Lib.hid (L1_6.out.trans (hb.mono L1_6.out.size))
                have L2_7 := Lib.hid (L2_6.out.trans (hb.mono L2_6.out.size))
                have E_7 := Lib.hid (E_6.out.trans (hb.mono E_6.out.size))
                clear HT_6 L1_6 L2_6 E_6 hb
                go_wp2_with fail
                refine (MT.out _ HT_7.out).mono ?_; rintro e w16 ⟨rfl, hb⟩
                have HT_8 := Lib.hid (HT_7.out.keep hb)
                have L1_8 := Lib.hid (L1_7.out.trans (hb.mono L1_7.out.size))
                have L2_8 := Lib.hid (L2_7.out.trans (hb.mono L2_7.out.size))
                have E_8 := Lib.hid (E_7.out.trans (hb.mono E_7.out.size))
                clear HT_7 L1_7 L2_7 E_7 hb
                go_wp2_with fail
                refine (wpAt_any (k : Int) hk0 (by omega) _).mono ?_; rintro e w17 ⟨rfl, hb⟩
                have HT_9 := Lib.hid (HT_8.out.keep hb)
                have L1_9 := Lib.hid (L1_8.out.trans (hb.mono L1_8.out.size))
                have L2_9 := Lib.hid (L2_8.out.trans (hb.mono L2_8.out.size))
                have E_9 := Lib.hid (E_8.out.trans (hb.mono E_8.out.size))
                clear HT_8 L1_8 L2_8 E_8 hb
                go_wp2_with fail
                refine (MF.out _ HT_9.out).mono ?_; rintro e w18 ⟨rfl, hb⟩
                have HT_10 := Lib.hid (HT_9.out.keep hb)
                have L1_10 := Lib.hid (L1_9.out.trans (hb.mono L1_9.out.size))
                have L2_10 := Lib.hid (L2_9.out.trans (hb.mono L2_9.out.size))
                have E_10 := Lib.hid (E_9.out.trans (hb.mono E_9.out.size))
                clear HT_9 L1_9 L2_9 E_9 hb
                go_wp2
                go_roundg (3 - (j + 1))
                case measure => omega
                case rel => exact ⟨j + 1, rfl, by omega, by rw [sR.out]; go_num, by rw [sW.out]; go_num, by go_num, L2_10.out⟩
            · obtain rfl : j = 3 := by omega
              have hf := one_fact HQ.out hk0 hk1
              generalize cR T (k : Int) 3 = cr at *
              generalize cW T (k : Int) 3 = cw at *
              rcases hf with rfl | ⟨rfl, rfl⟩
              · go_wp2
                go_roundg (48 - (k + 1))
                case measure => omega
                case rel => exact ⟨k + 1, rfl, by omega, by go_num, L1_4.out⟩
              · go_wp2
                go_roundg (48 - (k + 1))
                case measure => omega
                case rel => exact ⟨k + 1, rfl, by omega, by go_num, L1_4.out⟩
        · go_wp2
          go_ret
          exact ⟨rfl, E_3.out⟩
  · go_enter Try.func4, Try.ntmps4
    go_wp2
    go_ret
    exact ⟨rfl, Below.refl _ _⟩

end Go.Proofs.Ytfifimdaepebeaa.fnLockOne
