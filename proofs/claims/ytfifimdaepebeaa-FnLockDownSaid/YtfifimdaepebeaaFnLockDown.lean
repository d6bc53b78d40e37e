/-
  laws.FnLockDown returns true at every code: the walk of the law. No condition.
-/
import Derived.Test.YtfifimdaepebeaaDrawLk2
import Derived.Test.YtfifimdaepebeaaImplMay
import Derived.Test.YtfifimdaepebeaaSpecMay
import Derived.Test.YtfifimdaepebeaaLkMath
import Derived.Test.YtfifimdaepebeaaLkLaws
import Derived.Test.YtfifimdaepebeaaImplGive
import Derived.Test.YtfifimdaepebeaaSpecGive
import Derived.Test.YtfifimdaepebeaaLockSame
import Derived.Test.YtfifimdaepebeaaNums
namespace Go.Proofs.Ytfifimdaepebeaa.fnLockDown
open Go.RowKit

theorem down_clear {T X : List HoldT} {n : Nat} {lo hi : Int} (hn3 : n < 3) (hxo : lockOkB X = true) (hs : spanOkB lo hi = true) (hxv : ∀ i : Int, 0 ≤ i → i < 48 → mfn (X.getD n hd0) i = if n = n ∧ lo ≤ i ∧ i < hi then mn (mfn (T.getD n hd0) i) 1 else mfn (T.getD n hd0) i) (w : Int) :
    ∀ x ∈ barsL X w false lo hi, x ≠ (n : Int) := by
  intro x hx e
  subst e
  unfold barsL at hx
  split at hx
  · obtain ⟨i, hi3, e, -, hb⟩ := brK_mem hx
    obtain rfl : i = n := by omega
    rw [stB_iff (ok_at hxo hi3) hs] at hb
    obtain ⟨p, a, b, c | ⟨c, -⟩⟩ := hb
    · have := spanOkB_iff.1 hs
      rw [hxv p (by omega) (by omega), if_pos ⟨rfl, a, b⟩] at c
      revert c
      rcases mfn_cases (T.getD i hd0) p with h | h | h <;> rw [h] <;> decide
    · cases c
  · simp at hx

set_option maxRecDepth 100000 in
set_option maxHeartbeats 8000000 in
theorem walk (v0 : Value) (len0 : Nat) (w : World) (h0 : Byt w v0 len0) :
    Calls Try.prog 7 #[v0] w fun e w' => e = .returned (.bool true) ∧ Below w.heap.size w w' := by
  have HB0 := Lib.hid h0
  have hlen0 : len0 ≤ 9223372036854775807 := by obtain ⟨z, a, cap, -, h1, h2, -⟩ := h0; unfold maxLen at h2; omega
  obtain ⟨z0, a0, cap0, rfl, -, -, -⟩ := h0
  by_cases hL : len0 ≤ 1048576
  · go_enter Try.func7, Try.ntmps7
    go_wp2_with fail
    refine (drawLockDown_any _ len0 _ HB0.out).mono ?_; rintro e w1 ⟨v, T, who, lo, hi, rfl, hd, hb⟩
    have ks_0 := new_box w1 lo hi 25
    have hal : Below w1.heap.size w1 (w1.alloc (.cells #[.int .i64 lo, .int .i64 hi] 25)) := (Below.refl _ _).alloc (Nat.le_refl _) _
    have HT_0 := Lib.hid (hd.out _ (Btw.of_below hal))
    have E_0 := Lib.hid (hb.trans (hal.mono hb.size))
    clear hd hb hal HB0
    obtain ⟨⟨X, q⟩, hC⟩ : ∃ C, chT T who lo hi (fun x => mn x 1) = C := ⟨_, rfl⟩
    have IG := Lib.hid (fun W h => implDown_any v T who lo hi W h)
    rw [hC] at IG
    have SG := Lib.hid (fun W h => specDown_any v T who lo hi W h)
    rw [hC] at SG
    have he := Lib.hid (eqT_self X)
    obtain ⟨x1, x2, -, -⟩ := id ks_0
    go_wp2_with fail
    refine (IG.out _ HT_0.out).mono ?_; rintro e w2 ⟨vx, rfl, hx, hb⟩
    have HX := Lib.hid hx.out.hds
    clear hx
    have HT_1 := Lib.hid (HT_0.out.keep hb)
    have ks_1 := ks_0.keep hb
    have E_1 := Lib.hid (E_0.out.trans (hb.mono E_0.out.size))
    clear HT_0 ks_0 E_0 x1 x2 hb
    obtain ⟨x1, x2, -, -⟩ := id ks_1
    go_wp2_with fail
    refine (SG.out _ HT_1.out).mono ?_; rintro e w3 ⟨vy, rfl, hy, hb⟩
    have HY := Lib.hid hy.out.hds
    clear hy
    have HT_2 := Lib.hid (HT_1.out.keep hb)
    have HX_2 := Lib.hid (HX.out.keep hb)
    have ks_2 := ks_1.keep hb
    have E_2 := Lib.hid (E_1.out.trans (hb.mono E_1.out.size))
    clear HT_1 HX ks_1 E_1 x1 x2 hb
    cases q
    · clear hC
      obtain ⟨x1, x2, -, -⟩ := id ks_2
      go_wp2_with fail
      refine (implLockSame_any vx vy X X _ HX_2.out HY.out).mono ?_; rintro e w4 ⟨rfl, hb⟩
      rw [he.out]
      have HT_3 := Lib.hid (HT_2.out.keep hb)
      have HX_3 := Lib.hid (HX_2.out.keep hb)
      have HY_3 := Lib.hid (HY.out.keep hb)
      have ks_3 := ks_2.keep hb
      have E_3 := Lib.hid (E_2.out.trans (hb.mono E_2.out.size))
      clear HT_2 HX_2 HY ks_2 E_2 x1 x2 hb
      obtain ⟨x1, x2, -, -⟩ := id ks_3
      go_wp2_with fail
      refine (implLockSame_any vx vy X X _ HX_3.out HY_3.out).mono ?_; rintro e w5 ⟨rfl, hb⟩
      rw [he.out]
      have HT_4 := Lib.hid (HT_3.out.keep hb)
      have HX_4 := Lib.hid (HX_3.out.keep hb)
      have HY_4 := Lib.hid (HY_3.out.keep hb)
      have ks_4 := ks_3.keep hb
      have E_4 := Lib.hid (E_3.out.trans (hb.mono E_3.out.size))
      clear HT_3 HX_3 HY_3 ks_3 E_3 x1 x2 hb
      obtain ⟨x1, x2, -, -⟩ := id ks_4
      go_wp2
      go_ret
      exact ⟨rfl, E_4.out⟩
    · obtain ⟨n, hn3, rfl, hq, hs, hX, hxo⟩ := chT_true hC
      have h3 := ok_len hq
      obtain ⟨s0, s1, s2⟩ := spanOkB_iff.1 hs
      have xv : Hid (∀ j (i : Int), 0 ≤ i → i < 48 → mfn (X.getD j hd0) i = if j = n ∧ lo ≤ i ∧ i < hi then mn (mfn (T.getD j hd0) i) 1 else mfn (T.getD j hd0) i) := fun j i h0 h1 => by rw [hX]; exact ch_mfn F3_down h3 hn3 h0 h1
      have HQ := Lib.hid hq
      have HXO := Lib.hid hxo
      have HCL := Lib.hid (fun w => down_clear hn3 hxo hs (fun i h0 h1 => xv.out n i h0 h1) w)
      have O3 := Lib.hid (fun W h => implLockOk_any vx X W h)
      rw [hxo] at O3
      clear hC hq hX hxo hs IG SG
      obtain ⟨x1, x2, -, -⟩ := id ks_2
      go_wp2_with fail
      refine (implLockSame_any vx vy X X _ HX_2.out HY.out).mono ?_; rintro e w6 ⟨rfl, hb⟩
      rw [he.out]
      have HT_3 := Lib.hid (HT_2.out.keep hb)
      have HX_3 := Lib.hid (HX_2.out.keep hb)
      have HY_3 := Lib.hid (HY.out.keep hb)
      have ks_3 := ks_2.keep hb
      have E_3 := Lib.hid (E_2.out.trans (hb.mono E_2.out.size))
      clear HT_2 HX_2 HY ks_2 E_2 x1 x2 hb
      clear HY_3
      obtain ⟨x1, x2, -, -⟩ := id ks_3
      go_wp2_with fail
      go_loopg [10] 48 (fun g s10 wr => ∃ k : Nat, g = 48 - k ∧ k ≤ 48 ∧ s10 = .int .i64 k ∧ Below w6.heap.size w6 wr)
      case atStart => exact ⟨0, rfl, Nat.zero_le _, rfl, Below.refl _ _⟩
      case round =>
        obtain ⟨k, rfl, hk, rfl, hb⟩ := hrel
        clear x1 x2
        have L1_0 := Lib.hid hb
        have HT_4 := Lib.hid (HT_3.out.keep hb)
        have HX_4 := Lib.hid (HX_3.out.keep hb)
        have ks_4 := ks_3.keep hb
        have E_4 := Lib.hid (E_3.out.trans (hb.mono E_3.out.size))
        clear HT_3 HX_3 ks_3 E_3 hb
        by_cases hlt : k < 48
        · have hk0 : (0 : Int) ≤ (k : Int) := by omega
          have hk1 : (k : Int) < 48 := by omega
          have hway : (¬ lo ≤ (k : Int)) ∨ (lo ≤ (k : Int) ∧ ¬ (k : Int) < hi) ∨ (lo ≤ (k : Int) ∧ (k : Int) < hi) := by omega
          rcases hway with c1 | ⟨c1, c2⟩ | ⟨c1, c2⟩
          · have hjl := hn3
            have mF := may_at hjl HQ.out hk0 hk1 false
            have mT := may_at hjl HQ.out hk0 hk1 true
            have xF := may_at hjl HXO.out hk0 hk1 false
            have xT := may_at hjl HXO.out hk0 hk1 true
            have hm := xv.out n (k : Int) hk0 hk1
            rw [if_neg (fun h => by omega)] at hm
            rw [hm] at xF xT
            clear hm
            have hmm := mfn_cases (T.getD n hd0) (k : Int)
            generalize mfn (T.getD n hd0) (k : Int) = m at *
            rcases hmm with rfl | rfl | rfl
            · rw [show decide (wantOf false ≤ (0 : Int)) = false from by decide] at mF
              rw [show decide (wantOf true ≤ (0 : Int)) = false from by decide] at mT
              rw [show decide (wantOf false ≤ (0 : Int)) = false from by decide] at xF
              rw [show decide (wantOf true ≤ (0 : Int)) = false from by decide] at xT
              have MF := Lib.hid (fun W h => implLockMay_any v T (n : Int) false (k : Int) ((k : Int) + 1) W h)
              rw [mF] at MF
              have MT := Lib.hid (fun W h => implLockMay_any v T (n : Int) true (k : Int) ((k : Int) + 1) W h)
              rw [mT] at MT
              have XF := Lib.hid (fun W h => implLockMay_any vx X (n : Int) false (k : Int) ((k : Int) + 1) W h)
              rw [xF] at XF
              have XT := Lib.hid (fun W h => implLockMay_any vx X (n : Int) true (k : Int) ((k : Int) + 1) W h)
              rw [xT] at XT
              clear mF mT xF xT
              obtain ⟨x1, x2, -, -⟩ := id ks_4
              go_wp2_with fail
              refine (wpAt_any (k : Int) hk0 (by omega) _).mono ?_; rintro e w7 ⟨rfl, hb⟩
              have HT_5 := Lib.hid (HT_4.out.keep hb)
              have HX_5 := Lib.hid (HX_4.out.keep hb)
              have ks_5 := ks_4.keep hb
              have L1_5 := Lib.hid (L1_0.out.trans (hb.mono L1_0.out.size))
              have E_5 := Lib.hid (E_4.out.trans (hb.mono E_4.out.size))
              clear HT_4 HX_4 ks_4 L1_0 E_4 x1 x2 hb
              obtain ⟨x1, x2, -, -⟩ := id ks_5
              go_wp2_with fail
              refine (XF.out _ HX_5.out).mono ?_; rintro e w8 ⟨rfl, hb⟩
              have HT_6 := Lib.hid (HT_5.out.keep hb)
              have HX_6 := Lib.hid (HX_5.out.keep hb)
              have ks_6 := ks_5.keep hb
              have L1_6 := Lib.hid (L1_5.out.trans (hb.mono L1_5.out.size))
              have E_6 := Lib.hid (E_5.out.trans (hb.mono E_5.out.size))
              clear HT_5 HX_5 ks_5 L1_5 E_5 x1 x2 hb
              obtain ⟨x1, x2, -, -⟩ := id ks_6
              go_wp2_with fail
              refine (wpAt_any (k : Int) hk0 (by omega) _).mono ?_; rintro e w9 ⟨rfl, hb⟩
              have HT_7 := Lib.hid (HT_6.out.keep hb)
              have HX_7 := Lib.hid (HX_6.out.keep hb)
              have ks_7 := ks_6.keep hb
              have L1_7 := Lib.hid (L1_6.out.trans (hb.mono L1_6.out.size))
              have E_7 := Lib.hid (E_6.out.trans (hb.mono E_6.out.size))
              clear HT_6 HX_6 ks_6 L1_6 E_6 x1 x2 hb
              obtain ⟨x1, x2, -, -⟩ := id ks_7
              go_wp2_with fail
              refine (MF.out _ HT_7.out).mono ?_; rintro e w10 ⟨rfl, hb⟩
              have HT_8 := Lib.hid (HT_7.out.keep hb)
              have HX_8 := Lib.hid (HX_7.out.keep hb)
              have ks_8 := ks_7.keep hb
              have L1_8 := Lib.hid (L1_7.out.trans (hb.mono L1_7.out.size))
              have E_8 := Lib.hid (E_7.out.trans (hb.mono E_7.out.size))
              clear HT_7 HX_7 ks_7 L1_7 E_7 x1 x2 hb
              obtain ⟨x1, x2, -, -⟩ := id ks_8
              go_wp2_with fail
              refine (wpAt_any (k : Int) hk0 (by omega) _).mono ?_; rintro e w11 ⟨rfl, hb⟩
              have HT_9 := Lib.hid (HT_8.out.keep hb)
              have HX_9 := Lib.hid (HX_8.out.keep hb)
              have ks_9 := ks_8.keep hb
              have L1_9 := Lib.hid (L1_8.out.trans (hb.mono L1_8.out.size))
              have E_9 := Lib.hid (E_8.out.trans (hb.mono E_8.out.size))
              clear HT_8 HX_8 ks_8 L1_8 E_8 x1 x2 hb
              obtain ⟨x1, x2, -, -⟩ := id ks_9
              go_wp2_with fail
              refine (XT.out _ HX_9.out).mono ?_; rintro e w12 ⟨rfl, hb⟩
              have HT_10 := Lib.hid (HT_9.out.keep hb)
              have HX_10 := Lib.hid (HX_9.out.keep hb)
              have ks_10 := ks_9.keep hb
              have L1_10 := Lib.hid (L1_9.out.trans (hb.mono L1_9.out.size))
              have E_10 := Lib.hid (E_9.out.trans (hb.mono E_9.out.size))
              clear HT_9 HX_9 ks_9 L1_9 E_9 x1 x2 hb
              obtain ⟨x1, x2, -, -⟩ := id ks_10
              go_wp2_with fail
              refine (wpAt_any (k : Int) hk0 (by omega) _).mono ?_; rintro e w13 ⟨rfl, hb⟩
              have HT_11 := Lib.hid (HT_10.out.keep hb)
              have HX_11 := Lib.hid (HX_10.out.keep hb)
              have ks_11 := ks_10.keep hb
              have L1_11 := Lib.hid (L1_10.out.trans (hb.mono L1_10.out.size))
              have E_11 := Lib.hid (E_10.out.trans (hb.mono E_10.out.size))
              clear HT_10 HX_10 ks_10 L1_10 E_10 x1 x2 hb
              obtain ⟨x1, x2, -, -⟩ := id ks_11
              go_wp2_with fail
              refine (MT.out _ HT_11.out).mono ?_; rintro e w14 ⟨rfl, hb⟩
              have HT_12 := Lib.hid (HT_11.out.keep hb)
              have HX_12 := Lib.hid (HX_11.out.keep hb)
              have ks_12 := ks_11.keep hb
              have L1_12 := Lib.hid (L1_11.out.trans (hb.mono L1_11.out.size))
              have E_12 := Lib.hid (E_11.out.trans (hb.mono E_11.out.size))
              clear HT_11 HX_11 ks_11 L1_11 E_11 x1 x2 hb
              obtain ⟨x1, x2, -, -⟩ := id ks_12
              go_wp2
              go_roundg (48 - (k + 1))
              case measure => omega
              case rel => exact ⟨k + 1, rfl, by omega, by go_num, L1_12.out⟩
            · rw [show decide (wantOf false ≤ (1 : Int)) = true from by decide] at mF
              rw [show decide (wantOf true ≤ (1 : Int)) = false from by decide] at mT
              rw [show decide (wantOf false ≤ (1 : Int)) = true from by decide] at xF
              rw [show decide (wantOf true ≤ (1 : Int)) = false from by decide] at xT
              have MF := Lib.hid (fun W h => implLockMay_any v T (n : Int) false (k : Int) ((k : Int) + 1) W h)
              rw [mF] at MF
              have MT := Lib.hid (fun W h => implLockMay_any v T (n : Int) true (k : Int) ((k : Int) + 1) W h)
              rw [mT] at MT
              have XF := Lib.hid (fun W h => implLockMay_any vx X (n : Int) false (k : Int) ((k : Int) + 1) W h)
              rw [xF] at XF
              have XT := Lib.hid (fun W h => implLockMay_any vx X (n : Int) true (k : Int) ((k : Int) + 1) W h)
              rw [xT] at XT
              clear mF mT xF xT
              obtain ⟨x1, x2, -, -⟩ := id ks_4
              go_wp2_with fail
              refine (wpAt_any (k : Int) hk0 (by omega) _).mono ?_; rintro e w15 ⟨rfl, hb⟩
              have HT_5 := Lib.hid (HT_4.out.keep hb)
              have HX_5 := Lib.hid (HX_4.out.keep hb)
              have ks_5 := ks_4.keep hb
              have L1_5 := Lib.hid (L1_0.out.trans (hb.mono L1_0.out.size))
              have E_5 := Lib.hid (E_4.out.trans (hb.mono E_4.out.size))
              clear HT_4 HX_4 ks_4 L1_0 E_4 x1 x2 hb
              obtain ⟨x1, x2, -, -⟩ := id ks_5
              go_wp2_with fail
              refine (XF.out _ HX_5.out).mono ?_; rintro e w16 ⟨rfl, hb⟩
              have HT_6 := Lib.hid (HT_5.out.keep hb)
              have HX_6 := Lib.hid (HX_5.out.keep hb)
              have ks_6 := ks_5.keep hb
              have L1_6 := Lib.hid (L1_5.out.trans (hb.mono L1_5.out.size))
              have E_6 := Lib.hid (E_5.out.trans (hb.mono E_5.out.size))
              clear HT_5 HX_5 ks_5 L1_5 E_5 x1 x2 hb
              obtain ⟨x1, x2, -, -⟩ := id ks_6
              go_wp2_with fail
              refine (wpAt_any (k : Int) hk0 (by omega) _).mono ?_; rintro e w17 ⟨rfl, hb⟩
              have HT_7 := Lib.hid (HT_6.out.keep hb)
              have HX_7 := Lib.hid (HX_6.out.keep hb)
              have ks_7 := ks_6.keep hb
              have L1_7 := Lib.hid (L1_6.out.trans (hb.mono L1_6.out.size))
              have E_7 := Lib.hid (E_6.out.trans (hb.mono E_6.out.size))
              clear HT_6 HX_6 ks_6 L1_6 E_6 x1 x2 hb
              obtain ⟨x1, x2, -, -⟩ := id ks_7
              go_wp2_with fail
              refine (MF.out _ HT_7.out).mono ?_; rintro e w18 ⟨rfl, hb⟩
              have HT_8 := Lib.hid (HT_7.out.keep hb)
              have HX_8 := Lib.hid (HX_7.out.keep hb)
              have ks_8 := ks_7.keep hb
              have L1_8 := Lib.hid (L1_7.out.trans (hb.mono L1_7.out.size))
              have E_8 := Lib.hid (E_7.out.trans (hb.mono E_7.out.size))
              clear HT_7 HX_7 ks_7 L1_7 E_7 x1 x2 hb
              obtain ⟨x1, x2, -, -⟩ := id ks_8
              go_wp2_with fail
              refine (wpAt_any (k : Int) hk0 (by omega) _).mono ?_; rintro e w19 ⟨rfl, hb⟩
              have HT_9 := Lib.hid (HT_8.out.keep hb)
              have HX_9 := Lib.hid (HX_8.out.keep hb)
              have ks_9 := ks_8.keep hb
              have L1_9 := Lib.hid (L1_8.out.trans (hb.mono L1_8.out.size))
              have E_9 := Lib.hid (E_8.out.trans (hb.mono E_8.out.size))
              clear HT_8 HX_8 ks_8 L1_8 E_8 x1 x2 hb
              obtain ⟨x1, x2, -, -⟩ := id ks_9
              go_wp2_with fail
              refine (XT.out _ HX_9.out).mono ?_; rintro e w20 ⟨rfl, hb⟩
              have HT_10 := Lib.hid (HT_9.out.keep hb)
              have HX_10 := Lib.hid (HX_9.out.keep hb)
              have ks_10 := ks_9.keep hb
              have L1_10 := Lib.hid (L1_9.out.trans (hb.mono L1_9.out.size))
              have E_10 := Lib.hid (E_9.out.trans (hb.mono E_9.out.size))
              clear HT_9 HX_9 ks_9 L1_9 E_9 x1 x2 hb
              obtain ⟨x1, x2, -, -⟩ := id ks_10
              go_wp2_with fail
              refine (wpAt_any (k : Int) hk0 (by omega) _).mono ?_; rintro e w21 ⟨rfl, hb⟩
              have HT_11 := Lib.hid (HT_10.out.keep hb)
              have HX_11 := Lib.hid (HX_10.out.keep hb)
              have ks_11 := ks_10.keep hb
              have L1_11 := Lib.hid (L1_10.out.trans (hb.mono L1_10.out.size))
              have E_11 := Lib.hid (E_10.out.trans (hb.mono E_10.out.size))
              clear HT_10 HX_10 ks_10 L1_10 E_10 x1 x2 hb
              obtain ⟨x1, x2, -, -⟩ := id ks_11
              go_wp2_with fail
              refine (MT.out _ HT_11.out).mono ?_; rintro e w22 ⟨rfl, hb⟩
              have HT_12 := Lib.hid (HT_11.out.keep hb)
              have HX_12 := Lib.hid (HX_11.out.keep hb)
              have ks_12 := ks_11.keep hb
              have L1_12 := Lib.hid (L1_11.out.trans (hb.mono L1_11.out.size))
              have E_12 := Lib.hid (E_11.out.trans (hb.mono E_11.out.size))
              clear HT_11 HX_11 ks_11 L1_11 E_11 x1 x2 hb
              obtain ⟨x1, x2, -, -⟩ := id ks_12
              go_wp2
              go_roundg (48 - (k + 1))
              case measure => omega
              case rel => exact ⟨k + 1, rfl, by omega, by go_num, L1_12.out⟩
            · rw [show decide (wantOf false ≤ (2 : Int)) = true from by decide] at mF
              rw [show decide (wantOf true ≤ (2 : Int)) = true from by decide] at mT
              rw [show decide (wantOf false ≤ (2 : Int)) = true from by decide] at xF
              rw [show decide (wantOf true ≤ (2 : Int)) = true from by decide] at xT
              have MF := Lib.hid (fun W h => implLockMay_any v T (n : Int) false (k : Int) ((k : Int) + 1) W h)
              rw [mF] at MF
              have MT := Lib.hid (fun W h => implLockMay_any v T (n : Int) true (k : Int) ((k : Int) + 1) W h)
              rw [mT] at MT
              have XF := Lib.hid (fun W h => implLockMay_any vx X (n : Int) false (k : Int) ((k : Int) + 1) W h)
              rw [xF] at XF
              have XT := Lib.hid (fun W h => implLockMay_any vx X (n : Int) true (k : Int) ((k : Int) + 1) W h)
              rw [xT] at XT
              clear mF mT xF xT
              obtain ⟨x1, x2, -, -⟩ := id ks_4
              go_wp2_with fail
              refine (wpAt_any (k : Int) hk0 (by omega) _).mono ?_; rintro e w23 ⟨rfl, hb⟩
              have HT_5 := Lib.hid (HT_4.out.keep hb)
              have HX_5 := Lib.hid (HX_4.out.keep hb)
              have ks_5 := ks_4.keep hb
              have L1_5 := Lib.hid (L1_0.out.trans (hb.mono L1_0.out.size))
              have E_5 := Lib.hid (E_4.out.trans (hb.mono E_4.out.size))
              clear HT_4 HX_4 ks_4 L1_0 E_4 x1 x2 hb
              obtain ⟨x1, x2, -, -⟩ := id ks_5
              go_wp2_with fail
              refine (XF.out _ HX_5.out).mono ?_; rintro e w24 ⟨rfl, hb⟩
              have HT_6 := Lib.hid (HT_5.out.keep hb)
              have HX_6 := Lib.hid (HX_5.out.keep hb)
              have ks_6 := ks_5.keep hb
              have L1_6 := Lib.hid (L1_5.out.trans (hb.mono L1_5.out.size))
              have E_6 := Lib.hid (E_5.out.trans (hb.mono E_5.out.size))
              clear HT_5 HX_5 ks_5 L1_5 E_5 x1 x2 hb
              obtain ⟨x1, x2, -, -⟩ := id ks_6
              go_wp2_with fail
              refine (wpAt_any (k : Int) hk0 (by omega) _).mono ?_; rintro e w25 ⟨rfl, hb⟩
              have HT_7 := Lib.hid (HT_6.out.keep hb)
              have HX_7 := Lib.hid (HX_6.out.keep hb)
              have ks_7 := ks_6.keep hb
              have L1_7 := Lib.hid (L1_6.out.trans (hb.mono L1_6.out.size))
              have E_7 := Lib.hid (E_6.out.trans (hb.mono E_6.out.size))
              clear HT_6 HX_6 ks_6 L1_6 E_6 x1 x2 hb
              obtain ⟨x1, x2, -, -⟩ := id ks_7
              go_wp2_with fail
              refine (MF.out _ HT_7.out).mono ?_; rintro e w26 ⟨rfl, hb⟩
              have HT_8 := Lib.hid (HT_7.out.keep hb)
              have HX_8 := Lib.hid (HX_7.out.keep hb)
              have ks_8 := ks_7.keep hb
              have L1_8 := Lib.hid (L1_7.out.trans (hb.mono L1_7.out.size))
              have E_8 := Lib.hid (E_7.out.trans (hb.mono E_7.out.size))
              clear HT_7 HX_7 ks_7 L1_7 E_7 x1 x2 hb
              obtain ⟨x1, x2, -, -⟩ := id ks_8
              go_wp2_with fail
              refine (wpAt_any (k : Int) hk0 (by omega) _).mono ?_; rintro e w27 ⟨rfl, hb⟩
              have HT_9 := Lib.hid (HT_8.out.keep hb)
              have HX_9 := Lib.hid (HX_8.out.keep hb)
              have ks_9 := ks_8.keep hb
              have L1_9 := Lib.hid (L1_8.out.trans (hb.mono L1_8.out.size))
              have E_9 := Lib.hid (E_8.out.trans (hb.mono E_8.out.size))
              clear HT_8 HX_8 ks_8 L1_8 E_8 x1 x2 hb
              obtain ⟨x1, x2, -, -⟩ := id ks_9
              go_wp2_with fail
              refine (XT.out _ HX_9.out).mono ?_; rintro e w28 ⟨rfl, hb⟩
              have HT_10 := Lib.hid (HT_9.out.keep hb)
              have HX_10 := Lib.hid (HX_9.out.keep hb)
              have ks_10 := ks_9.keep hb
              have L1_10 := Lib.hid (L1_9.out.trans (hb.mono L1_9.out.size))
              have E_10 := Lib.hid (E_9.out.trans (hb.mono E_9.out.size))
              clear HT_9 HX_9 ks_9 L1_9 E_9 x1 x2 hb
              obtain ⟨x1, x2, -, -⟩ := id ks_10
              go_wp2_with fail
              refine (wpAt_any (k : Int) hk0 (by omega) _).mono ?_; rintro e w29 ⟨rfl, hb⟩
              have HT_11 := Lib.hid (HT_10.out.keep hb)
              have HX_11 := Lib.hid (HX_10.out.keep hb)
              have ks_11 := ks_10.keep hb
              have L1_11 := Lib.hid (L1_10.out.trans (hb.mono L1_10.out.size))
              have E_11 := Lib.hid (E_10.out.trans (hb.mono E_10.out.size))
              clear HT_10 HX_10 ks_10 L1_10 E_10 x1 x2 hb
              obtain ⟨x1, x2, -, -⟩ := id ks_11
              go_wp2_with fail
              refine (MT.out _ HT_11.out).mono ?_; rintro e w30 ⟨rfl, hb⟩
              have HT_12 := Lib.hid (HT_11.out.keep hb)
              have HX_12 := Lib.hid (HX_11.out.keep hb)
              have ks_12 := ks_11.keep hb
              have L1_12 := Lib.hid (L1_11.out.trans (hb.mono L1_11.out.size))
              have E_12 := Lib.hid (E_11.out.trans (hb.mono E_11.out.size))
              clear HT_11 HX_11 ks_11 L1_11 E_11 x1 x2 hb
              obtain ⟨x1, x2, -, -⟩ := id ks_12
              go_wp2
              go_roundg (48 - (k + 1))
              case measure => omega
              case rel => exact ⟨k + 1, rfl, by omega, by go_num, L1_12.out⟩
          · have hjl := hn3
            have mF := may_at hjl HQ.out hk0 hk1 false
            have mT := may_at hjl HQ.out hk0 hk1 true
            have xF := may_at hjl HXO.out hk0 hk1 false
            have xT := may_at hjl HXO.out hk0 hk1 true
            have hm := xv.out n (k : Int) hk0 hk1
            rw [if_neg (fun h => by omega)] at hm
            rw [hm] at xF xT
            clear hm
            have hmm := mfn_cases (T.getD n hd0) (k : Int)
            generalize mfn (T.getD n hd0) (k : Int) = m at *
            rcases hmm with rfl | rfl | rfl
            · rw [show decide (wantOf false ≤ (0 : Int)) = false from by decide] at mF
              rw [show decide (wantOf true ≤ (0 : Int)) = false from by decide] at mT
              rw [show decide (wantOf false ≤ (0 : Int)) = false from by decide] at xF
              rw [show decide (wantOf true ≤ (0 : Int)) = false from by decide] at xT
              have MF := Lib.hid (fun W h => implLockMay_any v T (n : Int) false (k : Int) ((k : Int) + 1) W h)
              rw [mF] at MF
              have MT := Lib.hid (fun W h => implLockMay_any v T (n : Int) true (k : Int) ((k : Int) + 1) W h)
              rw [mT] at MT
              have XF := Lib.hid (fun W h => implLockMay_any vx X (n : Int) false (k : Int) ((k : Int) + 1) W h)
              rw [xF] at XF
              have XT := Lib.hid (fun W h => implLockMay_any vx X (n : Int) true (k : Int) ((k : Int) + 1) W h)
              rw [xT] at XT
              clear mF mT xF xT
              obtain ⟨x1, x2, -, -⟩ := id ks_4
              go_wp2_with fail
              refine (wpAt_any (k : Int) hk0 (by omega) _).mono ?_; rintro e w31 ⟨rfl, hb⟩
              have HT_5 := Lib.hid (HT_4.out.keep hb)
              have HX_5 := Lib.hid (HX_4.out.keep hb)
              have ks_5 := ks_4.keep hb
              have L1_5 := Lib.hid (L1_0.out.trans (hb.mono L1_0.out.size))
              have E_5 := Lib.hid (E_4.out.trans (hb.mono E_4.out.size))
              clear HT_4 HX_4 ks_4 L1_0 E_4 x1 x2 hb
              obtain ⟨x1, x2, -, -⟩ := id ks_5
              go_wp2_with fail
              refine (XF.out _ HX_5.out).mono ?_; rintro e w32 ⟨rfl, hb⟩
              have HT_6 := Lib.hid (HT_5.out.keep hb)
              have HX_6 := Lib.hid (HX_5.out.keep hb)
              have ks_6 := ks_5.keep hb
              have L1_6 := Lib.hid (L1_5.out.trans (hb.mono L1_5.out.size))
              have E_6 := Lib.hid (E_5.out.trans (hb.mono E_5.out.size))
              clear HT_5 HX_5 ks_5 L1_5 E_5 x1 x2 hb
              obtain ⟨x1, x2, -, -⟩ := id ks_6
              go_wp2_with fail
              refine (wpAt_any (k : Int) hk0 (by omega) _).mono ?_; rintro e w33 ⟨rfl, hb⟩
              have HT_7 := Lib.hid (HT_6.out.keep hb)
              have HX_7 := Lib.hid (HX_6.out.keep hb)
              have ks_7 := ks_6.keep hb
              have L1_7 := Lib.hid (L1_6.out.trans (hb.mono L1_6.out.size))
              have E_7 := Lib.hid (E_6.out.trans (hb.mono E_6.out.size))
              clear HT_6 HX_6 ks_6 L1_6 E_6 x1 x2 hb
              obtain ⟨x1, x2, -, -⟩ := id ks_7
              go_wp2_with fail
              refine (MF.out _ HT_7.out).mono ?_; rintro e w34 ⟨rfl, hb⟩
              have HT_8 := Lib.hid (HT_7.out.keep hb)
              have HX_8 := Lib.hid (HX_7.out.keep hb)
              have ks_8 := ks_7.keep hb
              have L1_8 := Lib.hid (L1_7.out.trans (hb.mono L1_7.out.size))
              have E_8 := Lib.hid (E_7.out.trans (hb.mono E_7.out.size))
              clear HT_7 HX_7 ks_7 L1_7 E_7 x1 x2 hb
              obtain ⟨x1, x2, -, -⟩ := id ks_8
              go_wp2_with fail
              refine (wpAt_any (k : Int) hk0 (by omega) _).mono ?_; rintro e w35 ⟨rfl, hb⟩
              have HT_9 := Lib.hid (HT_8.out.keep hb)
              have HX_9 := Lib.hid (HX_8.out.keep hb)
              have ks_9 := ks_8.keep hb
              have L1_9 := Lib.hid (L1_8.out.trans (hb.mono L1_8.out.size))
              have E_9 := Lib.hid (E_8.out.trans (hb.mono E_8.out.size))
              clear HT_8 HX_8 ks_8 L1_8 E_8 x1 x2 hb
              obtain ⟨x1, x2, -, -⟩ := id ks_9
              go_wp2_with fail
              refine (XT.out _ HX_9.out).mono ?_; rintro e w36 ⟨rfl, hb⟩
              have HT_10 := Lib.hid (HT_9.out.keep hb)
              have HX_10 := Lib.hid (HX_9.out.keep hb)
              have ks_10 := ks_9.keep hb
              have L1_10 := Lib.hid (L1_9.out.trans (hb.mono L1_9.out.size))
              have E_10 := Lib.hid (E_9.out.trans (hb.mono E_9.out.size))
              clear HT_9 HX_9 ks_9 L1_9 E_9 x1 x2 hb
              obtain ⟨x1, x2, -, -⟩ := id ks_10
              go_wp2_with fail
              refine (wpAt_any (k : Int) hk0 (by omega) _).mono ?_; rintro e w37 ⟨rfl, hb⟩
              have HT_11 := Lib.hid (HT_10.out.keep hb)
              have HX_11 := Lib.hid (HX_10.out.keep hb)
              have ks_11 := ks_10.keep hb
              have L1_11 := Lib.hid (L1_10.out.trans (hb.mono L1_10.out.size))
              have E_11 := Lib.hid (E_10.out.trans (hb.mono E_10.out.size))
              clear HT_10 HX_10 ks_10 L1_10 E_10 x1 x2 hb
              obtain ⟨x1, x2, -, -⟩ := id ks_11
              go_wp2_with fail
              refine (MT.out _ HT_11.out).mono ?_; rintro e w38 ⟨rfl, hb⟩
              have HT_12 := Lib.hid (HT_11.out.keep hb)
              have HX_12 := Lib.hid (HX_11.out.keep hb)
              have ks_12 := ks_11.keep hb
              have L1_12 := Lib.hid (L1_11.out.trans (hb.mono L1_11.out.size))
              have E_12 := Lib.hid (E_11.out.trans (hb.mono E_11.out.size))
              clear HT_11 HX_11 ks_11 L1_11 E_11 x1 x2 hb
              obtain ⟨x1, x2, -, -⟩ := id ks_12
              go_wp2
              go_roundg (48 - (k + 1))
              case measure => omega
              case rel => exact ⟨k + 1, rfl, by omega, by go_num, L1_12.out⟩
            · rw [show decide (wantOf false ≤ (1 : Int)) = true from by decide] at mF
              rw [show decide (wantOf true ≤ (1 : Int)) = false from by decide] at mT
              rw [show decide (wantOf false ≤ (1 : Int)) = true from by decide] at xF
              rw [show decide (wantOf true ≤ (1 : Int)) = false from by decide] at xT
              have MF := Lib.hid (fun W h => implLockMay_any v T (n : Int) false (k : Int) ((k : Int) + 1) W h)
              rw [mF] at MF
              have MT := Lib.hid (fun W h => implLockMay_any v T (n : Int) true (k : Int) ((k : Int) + 1) W h)
              rw [mT] at MT
              have XF := Lib.hid (fun W h => implLockMay_any vx X (n : Int) false (k : Int) ((k : Int) + 1) W h)
              rw [xF] at XF
              have XT := Lib.hid (fun W h => implLockMay_any vx X (n : Int) true (k : Int) ((k : Int) + 1) W h)
              rw [xT] at XT
              clear mF mT xF xT
              obtain ⟨x1, x2, -, -⟩ := id ks_4
              go_wp2_with fail
              refine (wpAt_any (k : Int) hk0 (by omega) _).mono ?_; rintro e w39 ⟨rfl, hb⟩
              have HT_5 := Lib.hid (HT_4.out.keep hb)
              have HX_5 := Lib.hid (HX_4.out.keep hb)
              have ks_5 := ks_4.keep hb
              have L1_5 := Lib.hid (L1_0.out.trans (hb.mono L1_0.out.size))
              have E_5 := Lib.hid (E_4.out.trans (hb.mono E_4.out.size))
              clear HT_4 HX_4 ks_4 L1_0 E_4 x1 x2 hb
              obtain ⟨x1, x2, -, -⟩ := id ks_5
              go_wp2_with fail
              refine (XF.out _ HX_5.out).mono ?_; rintro e w40 ⟨rfl, hb⟩
              have HT_6 := Lib.hid (HT_5.out.keep hb)
              have HX_6 := Lib.hid (HX_5.out.keep hb)
              have ks_6 := ks_5.keep hb
              have L1_6 := Lib.hid (L1_5.out.trans (hb.mono L1_5.out.size))
              have E_6 := Lib.hid (E_5.out.trans (hb.mono E_5.out.size))
              clear HT_5 HX_5 ks_5 L1_5 E_5 x1 x2 hb
              obtain ⟨x1, x2, -, -⟩ := id ks_6
              go_wp2_with fail
              refine (wpAt_any (k : Int) hk0 (by omega) _).mono ?_; rintro e w41 ⟨rfl, hb⟩
              have HT_7 := Lib.hid (HT_6.out.keep hb)
              have HX_7 := Lib.hid (HX_6.out.keep hb)
              have ks_7 := ks_6.keep hb
              have L1_7 := Lib.hid (L1_6.out.trans (hb.mono L1_6.out.size))
              have E_7 := Lib.hid (E_6.out.trans (hb.mono E_6.out.size))
              clear HT_6 HX_6 ks_6 L1_6 E_6 x1 x2 hb
              obtain ⟨x1, x2, -, -⟩ := id ks_7
              go_wp2_with fail
              refine (MF.out _ HT_7.out).mono ?_; rintro e w42 ⟨rfl, hb⟩
              have HT_8 := Lib.hid (HT_7.out.keep hb)
              have HX_8 := Lib.hid (HX_7.out.keep hb)
              have ks_8 := ks_7.keep hb
              have L1_8 := Lib.hid (L1_7.out.trans (hb.mono L1_7.out.size))
              have E_8 := Lib.hid (E_7.out.trans (hb.mono E_7.out.size))
              clear HT_7 HX_7 ks_7 L1_7 E_7 x1 x2 hb
              obtain ⟨x1, x2, -, -⟩ := id ks_8
              go_wp2_with fail
              refine (wpAt_any (k : Int) hk0 (by omega) _).mono ?_; rintro e w43 ⟨rfl, hb⟩
              have HT_9 := Lib.hid (HT_8.out.keep hb)
              have HX_9 := Lib.hid (HX_8.out.keep hb)
              have ks_9 := ks_8.keep hb
              have L1_9 := Lib.hid (L1_8.out.trans (hb.mono L1_8.out.size))
              have E_9 := Lib.hid (E_8.out.trans (hb.mono E_8.out.size))
              clear HT_8 HX_8 ks_8 L1_8 E_8 x1 x2 hb
              obtain ⟨x1, x2, -, -⟩ := id ks_9
              go_wp2_with fail
              refine (XT.out _ HX_9.out).mono ?_; rintro e w44 ⟨rfl, hb⟩
              have HT_10 := Lib.hid (HT_9.out.keep hb)
              have HX_10 := Lib.hid (HX_9.out.keep hb)
              have ks_10 := ks_9.keep hb
              have L1_10 := Lib.hid (L1_9.out.trans (hb.mono L1_9.out.size))
              have E_10 := Lib.hid (E_9.out.trans (hb.mono E_9.out.size))
              clear HT_9 HX_9 ks_9 L1_9 E_9 x1 x2 hb
              obtain ⟨x1, x2, -, -⟩ := id ks_10
              go_wp2_with fail
              refine (wpAt_any (k : Int) hk0 (by omega) _).mono ?_; rintro e w45 ⟨rfl, hb⟩
              have HT_11 := Lib.hid (HT_10.out.keep hb)
              have HX_11 := Lib.hid (HX_10.out.keep hb)
              have ks_11 := ks_10.keep hb
              have L1_11 := Lib.hid (L1_10.out.trans (hb.mono L1_10.out.size))
              have E_11 := Lib.hid (E_10.out.trans (hb.mono E_10.out.size))
              clear HT_10 HX_10 ks_10 L1_10 E_10 x1 x2 hb
              obtain ⟨x1, x2, -, -⟩ := id ks_11
              go_wp2_with fail
              refine (MT.out _ HT_11.out).mono ?_; rintro e w46 ⟨rfl, hb⟩
              have HT_12 := Lib.hid (HT_11.out.keep hb)
              have HX_12 := Lib.hid (HX_11.out.keep hb)
              have ks_12 := ks_11.keep hb
              have L1_12 := Lib.hid (L1_11.out.trans (hb.mono L1_11.out.size))
              have E_12 := Lib.hid (E_11.out.trans (hb.mono E_11.out.size))
              clear HT_11 HX_11 ks_11 L1_11 E_11 x1 x2 hb
              obtain ⟨x1, x2, -, -⟩ := id ks_12
              go_wp2
              go_roundg (48 - (k + 1))
              case measure => omega
              case rel => exact ⟨k + 1, rfl, by omega, by go_num, L1_12.out⟩
            · rw [show decide (wantOf false ≤ (2 : Int)) = true from by decide] at mF
              rw [show decide (wantOf true ≤ (2 : Int)) = true from by decide] at mT
              rw [show decide (wantOf false ≤ (2 : Int)) = true from by decide] at xF
              rw [show decide (wantOf true ≤ (2 : Int)) = true from by decide] at xT
              have MF := Lib.hid (fun W h => implLockMay_any v T (n : Int) false (k : Int) ((k : Int) + 1) W h)
              rw [mF] at MF
              have MT := Lib.hid (fun W h => implLockMay_any v T (n : Int) true (k : Int) ((k : Int) + 1) W h)
              rw [mT] at MT
              have XF := Lib.hid (fun W h => implLockMay_any vx X (n : Int) false (k : Int) ((k : Int) + 1) W h)
              rw [xF] at XF
              have XT := Lib.hid (fun W h => implLockMay_any vx X (n : Int) true (k : Int) ((k : Int) + 1) W h)
              rw [xT] at XT
              clear mF mT xF xT
              obtain ⟨x1, x2, -, -⟩ := id ks_4
              go_wp2_with fail
              refine (wpAt_any (k : Int) hk0 (by omega) _).mono ?_; rintro e w47 ⟨rfl, hb⟩
              have HT_5 := Lib.hid (HT_4.out.keep hb)
              have HX_5 := Lib.hid (HX_4.out.keep hb)
              have ks_5 := ks_4.keep hb
              have L1_5 := Lib.hid (L1_0.out.trans (hb.mono L1_0.out.size))
              have E_5 := Lib.hid (E_4.out.trans (hb.mono E_4.out.size))
              clear HT_4 HX_4 ks_4 L1_0 E_4 x1 x2 hb
              obtain ⟨x1, x2, -, -⟩ := id ks_5
              go_wp2_with fail
              refine (XF.out _ HX_5.out).mono ?_; rintro e w48 ⟨rfl, hb⟩
              have HT_6 := Lib.hid (HT_5.out.keep hb)
              have HX_6 := Lib.hid (HX_5.out.keep hb)
              have ks_6 := ks_5.keep hb
              have L1_6 := Lib.hid (L1_5.out.trans (hb.mono L1_5.out.size))
              have E_6 := Lib.hid (E_5.out.trans (hb.mono E_5.out.size))
              clear HT_5 HX_5 ks_5 L1_5 E_5 x1 x2 hb
              obtain ⟨x1, x2, -, -⟩ := id ks_6
              go_wp2_with fail
              refine (wpAt_any (k : Int) hk0 (by omega) _).mono ?_; rintro e w49 ⟨rfl, hb⟩
              have HT_7 := Lib.hid (HT_6.out.keep hb)
              have HX_7 := Lib.hid (HX_6.out.keep hb)
              have ks_7 := ks_6.keep hb
              have L1_7 := Lib.hid (L1_6.out.trans (hb.mono L1_6.out.size))
              have E_7 := Lib.hid (E_6.out.trans (hb.mono E_6.out.size))
              clear HT_6 HX_6 ks_6 L1_6 E_6 x1 x2 hb
              obtain ⟨x1, x2, -, -⟩ := id ks_7
              go_wp2_with fail
              refine (MF.out _ HT_7.out).mono ?_; rintro e w50 ⟨rfl, hb⟩
              have HT_8 := Lib.hid (HT_7.out.keep hb)
              have HX_8 := Lib.hid (HX_7.out.keep hb)
              have ks_8 := ks_7.keep hb
              have L1_8 := Lib.hid (L1_7.out.trans (hb.mono L1_7.out.size))
              have E_8 := Lib.hid (E_7.out.trans (hb.mono E_7.out.size))
              clear HT_7 HX_7 ks_7 L1_7 E_7 x1 x2 hb
              obtain ⟨x1, x2, -, -⟩ := id ks_8
              go_wp2_with fail
              refine (wpAt_any (k : Int) hk0 (by omega) _).mono ?_; rintro e w51 ⟨rfl, hb⟩
              have HT_9 := Lib.hid (HT_8.out.keep hb)
              have HX_9 := Lib.hid (HX_8.out.keep hb)
              have ks_9 := ks_8.keep hb
              have L1_9 := Lib.hid (L1_8.out.trans (hb.mono L1_8.out.size))
              have E_9 := Lib.hid (E_8.out.trans (hb.mono E_8.out.size))
              clear HT_8 HX_8 ks_8 L1_8 E_8 x1 x2 hb
              obtain ⟨x1, x2, -, -⟩ := id ks_9
              go_wp2_with fail
              refine (XT.out _ HX_9.out).mono ?_; rintro e w52 ⟨rfl, hb⟩
              have HT_10 := Lib.hid (HT_9.out.keep hb)
              have HX_10 := Lib.hid (HX_9.out.keep hb)
              have ks_10 := ks_9.keep hb
              have L1_10 := Lib.hid (L1_9.out.trans (hb.mono L1_9.out.size))
              have E_10 := Lib.hid (E_9.out.trans (hb.mono E_9.out.size))
              clear HT_9 HX_9 ks_9 L1_9 E_9 x1 x2 hb
              obtain ⟨x1, x2, -, -⟩ := id ks_10
              go_wp2_with fail
              refine (wpAt_any (k : Int) hk0 (by omega) _).mono ?_; rintro e w53 ⟨rfl, hb⟩
              have HT_11 := Lib.hid (HT_10.out.keep hb)
              have HX_11 := Lib.hid (HX_10.out.keep hb)
              have ks_11 := ks_10.keep hb
              have L1_11 := Lib.hid (L1_10.out.trans (hb.mono L1_10.out.size))
              have E_11 := Lib.hid (E_10.out.trans (hb.mono E_10.out.size))
              clear HT_10 HX_10 ks_10 L1_10 E_10 x1 x2 hb
              obtain ⟨x1, x2, -, -⟩ := id ks_11
              go_wp2_with fail
              refine (MT.out _ HT_11.out).mono ?_; rintro e w54 ⟨rfl, hb⟩
              have HT_12 := Lib.hid (HT_11.out.keep hb)
              have HX_12 := Lib.hid (HX_11.out.keep hb)
              have ks_12 := ks_11.keep hb
              have L1_12 := Lib.hid (L1_11.out.trans (hb.mono L1_11.out.size))
              have E_12 := Lib.hid (E_11.out.trans (hb.mono E_11.out.size))
              clear HT_11 HX_11 ks_11 L1_11 E_11 x1 x2 hb
              obtain ⟨x1, x2, -, -⟩ := id ks_12
              go_wp2
              go_roundg (48 - (k + 1))
              case measure => omega
              case rel => exact ⟨k + 1, rfl, by omega, by go_num, L1_12.out⟩
          · have hjl := hn3
            have mF := may_at hjl HQ.out hk0 hk1 false
            have mT := may_at hjl HQ.out hk0 hk1 true
            have xF := may_at hjl HXO.out hk0 hk1 false
            have xT := may_at hjl HXO.out hk0 hk1 true
            have hm := xv.out n (k : Int) hk0 hk1
            rw [if_pos ⟨rfl, c1, c2⟩] at hm
            rw [hm] at xF xT
            clear hm
            have hmm := mfn_cases (T.getD n hd0) (k : Int)
            generalize mfn (T.getD n hd0) (k : Int) = m at *
            rcases hmm with rfl | rfl | rfl
            · rw [show decide (wantOf false ≤ (0 : Int)) = false from by decide] at mF
              rw [show decide (wantOf true ≤ (0 : Int)) = false from by decide] at mT
              rw [show decide (wantOf false ≤ mn (0 : Int) 1) = false from by decide] at xF
              rw [show decide (wantOf true ≤ mn (0 : Int) 1) = false from by decide] at xT
              have MF := Lib.hid (fun W h => implLockMay_any v T (n : Int) false (k : Int) ((k : Int) + 1) W h)
              rw [mF] at MF
              have MT := Lib.hid (fun W h => implLockMay_any v T (n : Int) true (k : Int) ((k : Int) + 1) W h)
              rw [mT] at MT
              have XF := Lib.hid (fun W h => implLockMay_any vx X (n : Int) false (k : Int) ((k : Int) + 1) W h)
              rw [xF] at XF
              have XT := Lib.hid (fun W h => implLockMay_any vx X (n : Int) true (k : Int) ((k : Int) + 1) W h)
              rw [xT] at XT
              clear mF mT xF xT
              obtain ⟨x1, x2, -, -⟩ := id ks_4
              go_wp2_with fail
              refine (wpAt_any (k : Int) hk0 (by omega) _).mono ?_; rintro e w55 ⟨rfl, hb⟩
              have HT_5 := Lib.hid (HT_4.out.keep hb)
              have HX_5 := Lib.hid (HX_4.out.keep hb)
              have ks_5 := ks_4.keep hb
              have L1_5 := Lib.hid (L1_0.out.trans (hb.mono L1_0.out.size))
              have E_5 := Lib.hid (E_4.out.trans (hb.mono E_4.out.size))
              clear HT_4 HX_4 ks_4 L1_0 E_4 x1 x2 hb
              obtain ⟨x1, x2, -, -⟩ := id ks_5
              go_wp2_with fail
              refine (XF.out _ HX_5.out).mono ?_; rintro e w56 ⟨rfl, hb⟩
              have HT_6 := Lib.hid (HT_5.out.keep hb)
              have HX_6 := Lib.hid (HX_5.out.keep hb)
              have ks_6 := ks_5.keep hb
              have L1_6 := Lib.hid (L1_5.out.trans (hb.mono L1_5.out.size))
              have E_6 := Lib.hid (E_5.out.trans (hb.mono E_5.out.size))
              clear HT_5 HX_5 ks_5 L1_5 E_5 x1 x2 hb
              obtain ⟨x1, x2, -, -⟩ := id ks_6
              go_wp2_with fail
              refine (wpAt_any (k : Int) hk0 (by omega) _).mono ?_; rintro e w57 ⟨rfl, hb⟩
              have HT_7 := Lib.hid (HT_6.out.keep hb)
              have HX_7 := Lib.hid (HX_6.out.keep hb)
              have ks_7 := ks_6.keep hb
              have L1_7 := Lib.hid (L1_6.out.trans (hb.mono L1_6.out.size))
              have E_7 := Lib.hid (E_6.out.trans (hb.mono E_6.out.size))
              clear HT_6 HX_6 ks_6 L1_6 E_6 x1 x2 hb
              obtain ⟨x1, x2, -, -⟩ := id ks_7
              go_wp2_with fail
              refine (MF.out _ HT_7.out).mono ?_; rintro e w58 ⟨rfl, hb⟩
              have HT_8 := Lib.hid (HT_7.out.keep hb)
              have HX_8 := Lib.hid (HX_7.out.keep hb)
              have ks_8 := ks_7.keep hb
              have L1_8 := Lib.hid (L1_7.out.trans (hb.mono L1_7.out.size))
              have E_8 := Lib.hid (E_7.out.trans (hb.mono E_7.out.size))
              clear HT_7 HX_7 ks_7 L1_7 E_7 x1 x2 hb
              obtain ⟨x1, x2, -, -⟩ := id ks_8
              go_wp2_with fail
              refine (wpAt_any (k : Int) hk0 (by omega) _).mono ?_; rintro e w59 ⟨rfl, hb⟩
              have HT_9 := Lib.hid (HT_8.out.keep hb)
              have HX_9 := Lib.hid (HX_8.out.keep hb)
              have ks_9 := ks_8.keep hb
              have L1_9 := Lib.hid (L1_8.out.trans (hb.mono L1_8.out.size))
              have E_9 := Lib.hid (E_8.out.trans (hb.mono E_8.out.size))
              clear HT_8 HX_8 ks_8 L1_8 E_8 x1 x2 hb
              obtain ⟨x1, x2, -, -⟩ := id ks_9
              go_wp2_with fail
              refine (XT.out _ HX_9.out).mono ?_; rintro e w60 ⟨rfl, hb⟩
              have HT_10 := Lib.hid (HT_9.out.keep hb)
              have HX_10 := Lib.hid (HX_9.out.keep hb)
              have ks_10 := ks_9.keep hb
              have L1_10 := Lib.hid (L1_9.out.trans (hb.mono L1_9.out.size))
              have E_10 := Lib.hid (E_9.out.trans (hb.mono E_9.out.size))
              clear HT_9 HX_9 ks_9 L1_9 E_9 x1 x2 hb
              obtain ⟨x1, x2, -, -⟩ := id ks_10
              go_wp2_with fail
              refine (wpAt_any (k : Int) hk0 (by omega) _).mono ?_; rintro e w61 ⟨rfl, hb⟩
              have HT_11 := Lib.hid (HT_10.out.keep hb)
              have HX_11 := Lib.hid (HX_10.out.keep hb)
              have ks_11 := ks_10.keep hb
              have L1_11 := Lib.hid (L1_10.out.trans (hb.mono L1_10.out.size))
              have E_11 := Lib.hid (E_10.out.trans (hb.mono E_10.out.size))
              clear HT_10 HX_10 ks_10 L1_10 E_10 x1 x2 hb
              obtain ⟨x1, x2, -, -⟩ := id ks_11
              go_wp2_with fail
              refine (MT.out _ HT_11.out).mono ?_; rintro e w62 ⟨rfl, hb⟩
              have HT_12 := Lib.hid (HT_11.out.keep hb)
              have HX_12 := Lib.hid (HX_11.out.keep hb)
              have ks_12 := ks_11.keep hb
              have L1_12 := Lib.hid (L1_11.out.trans (hb.mono L1_11.out.size))
              have E_12 := Lib.hid (E_11.out.trans (hb.mono E_11.out.size))
              clear HT_11 HX_11 ks_11 L1_11 E_11 x1 x2 hb
              obtain ⟨x1, x2, -, -⟩ := id ks_12
              go_wp2
              go_roundg (48 - (k + 1))
              case measure => omega
              case rel => exact ⟨k + 1, rfl, by omega, by go_num, L1_12.out⟩
            · rw [show decide (wantOf false ≤ (1 : Int)) = true from by decide] at mF
              rw [show decide (wantOf true ≤ (1 : Int)) = false from by decide] at mT
              rw [show decide (wantOf false ≤ mn (1 : Int) 1) = true from by decide] at xF
              rw [show decide (wantOf true ≤ mn (1 : Int) 1) = false from by decide] at xT
              have MF := Lib.hid (fun W h => implLockMay_any v T (n : Int) false (k : Int) ((k : Int) + 1) W h)
              rw [mF] at MF
              have MT := Lib.hid (fun W h => implLockMay_any v T (n : Int) true (k : Int) ((k : Int) + 1) W h)
              rw [mT] at MT
              have XF := Lib.hid (fun W h => implLockMay_any vx X (n : Int) false (k : Int) ((k : Int) + 1) W h)
              rw [xF] at XF
              have XT := Lib.hid (fun W h => implLockMay_any vx X (n : Int) true (k : Int) ((k : Int) + 1) W h)
              rw [xT] at XT
              clear mF mT xF xT
              obtain ⟨x1, x2, -, -⟩ := id ks_4
              go_wp2_with fail
              refine (wpAt_any (k : Int) hk0 (by omega) _).mono ?_; rintro e w63 ⟨rfl, hb⟩
              have HT_5 := Lib.hid (HT_4.out.keep hb)
              have HX_5 := Lib.hid (HX_4.out.keep hb)
              have ks_5 := ks_4.keep hb
              have L1_5 := Lib.hid (L1_0.out.trans (hb.mono L1_0.out.size))
              have E_5 := Lib.hid (E_4.out.trans (hb.mono E_4.out.size))
              clear HT_4 HX_4 ks_4 L1_0 E_4 x1 x2 hb
              obtain ⟨x1, x2, -, -⟩ := id ks_5
              go_wp2_with fail
              refine (XF.out _ HX_5.out).mono ?_; rintro e w64 ⟨rfl, hb⟩
              have HT_6 := Lib.hid (HT_5.out.keep hb)
              have HX_6 := Lib.hid (HX_5.out.keep hb)
              have ks_6 := ks_5.keep hb
              have L1_6 := Lib.hid (L1_5.out.trans (hb.mono L1_5.out.size))
              have E_6 := Lib.hid (E_5.out.trans (hb.mono E_5.out.size))
              clear HT_5 HX_5 ks_5 L1_5 E_5 x1 x2 hb
              obtain ⟨x1, x2, -, -⟩ := id ks_6
              go_wp2_with fail
              refine (wpAt_any (k : Int) hk0 (by omega) _).mono ?_; rintro e w65 ⟨rfl, hb⟩
              have HT_7 := Lib.hid (HT_6.out.keep hb)
              have HX_7 := Lib.hid (HX_6.out.keep hb)
              have ks_7 := ks_6.keep hb
              have L1_7 := Lib.hid (L1_6.out.trans (hb.mono L1_6.out.size))
              have E_7 := Lib.hid (E_6.out.trans (hb.mono E_6.out.size))
              clear HT_6 HX_6 ks_6 L1_6 E_6 x1 x2 hb
              obtain ⟨x1, x2, -, -⟩ := id ks_7
              go_wp2_with fail
              refine (MF.out _ HT_7.out).mono ?_; rintro e w66 ⟨rfl, hb⟩
              have HT_8 := Lib.hid (HT_7.out.keep hb)
              have HX_8 := Lib.hid (HX_7.out.keep hb)
              have ks_8 := ks_7.keep hb
              have L1_8 := Lib.hid (L1_7.out.trans (hb.mono L1_7.out.size))
              have E_8 := Lib.hid (E_7.out.trans (hb.mono E_7.out.size))
              clear HT_7 HX_7 ks_7 L1_7 E_7 x1 x2 hb
              obtain ⟨x1, x2, -, -⟩ := id ks_8
              go_wp2_with fail
              refine (wpAt_any (k : Int) hk0 (by omega) _).mono ?_; rintro e w67 ⟨rfl, hb⟩
              have HT_9 := Lib.hid (HT_8.out.keep hb)
              have HX_9 := Lib.hid (HX_8.out.keep hb)
              have ks_9 := ks_8.keep hb
              have L1_9 := Lib.hid (L1_8.out.trans (hb.mono L1_8.out.size))
              have E_9 := Lib.hid (E_8.out.trans (hb.mono E_8.out.size))
              clear HT_8 HX_8 ks_8 L1_8 E_8 x1 x2 hb
              obtain ⟨x1, x2, -, -⟩ := id ks_9
              go_wp2_with fail
              refine (XT.out _ HX_9.out).mono ?_; rintro e w68 ⟨rfl, hb⟩
              have HT_10 := Lib.hid (HT_9.out.keep hb)
              have HX_10 := Lib.hid (HX_9.out.keep hb)
              have ks_10 := ks_9.keep hb
              have L1_10 := Lib.hid (L1_9.out.trans (hb.mono L1_9.out.size))
              have E_10 := Lib.hid (E_9.out.trans (hb.mono E_9.out.size))
              clear HT_9 HX_9 ks_9 L1_9 E_9 x1 x2 hb
              obtain ⟨x1, x2, -, -⟩ := id ks_10
              go_wp2_with fail
              refine (wpAt_any (k : Int) hk0 (by omega) _).mono ?_; rintro e w69 ⟨rfl, hb⟩
              have HT_11 := Lib.hid (HT_10.out.keep hb)
              have HX_11 := Lib.hid (HX_10.out.keep hb)
              have ks_11 := ks_10.keep hb
              have L1_11 := Lib.hid (L1_10.out.trans (hb.mono L1_10.out.size))
              have E_11 := Lib.hid (E_10.out.trans (hb.mono E_10.out.size))
              clear HT_10 HX_10 ks_10 L1_10 E_10 x1 x2 hb
              obtain ⟨x1, x2, -, -⟩ := id ks_11
              go_wp2_with fail
              refine (MT.out _ HT_11.out).mono ?_; rintro e w70 ⟨rfl, hb⟩
              have HT_12 := Lib.hid (HT_11.out.keep hb)
              have HX_12 := Lib.hid (HX_11.out.keep hb)
              have ks_12 := ks_11.keep hb
              have L1_12 := Lib.hid (L1_11.out.trans (hb.mono L1_11.out.size))
              have E_12 := Lib.hid (E_11.out.trans (hb.mono E_11.out.size))
              clear HT_11 HX_11 ks_11 L1_11 E_11 x1 x2 hb
              obtain ⟨x1, x2, -, -⟩ := id ks_12
              go_wp2
              go_roundg (48 - (k + 1))
              case measure => omega
              case rel => exact ⟨k + 1, rfl, by omega, by go_num, L1_12.out⟩
            · rw [show decide (wantOf false ≤ (2 : Int)) = true from by decide] at mF
              rw [show decide (wantOf true ≤ (2 : Int)) = true from by decide] at mT
              rw [show decide (wantOf false ≤ mn (2 : Int) 1) = true from by decide] at xF
              rw [show decide (wantOf true ≤ mn (2 : Int) 1) = false from by decide] at xT
              have MF := Lib.hid (fun W h => implLockMay_any v T (n : Int) false (k : Int) ((k : Int) + 1) W h)
              rw [mF] at MF
              have MT := Lib.hid (fun W h => implLockMay_any v T (n : Int) true (k : Int) ((k : Int) + 1) W h)
              rw [mT] at MT
              have XF := Lib.hid (fun W h => implLockMay_any vx X (n : Int) false (k : Int) ((k : Int) + 1) W h)
              rw [xF] at XF
              have XT := Lib.hid (fun W h => implLockMay_any vx X (n : Int) true (k : Int) ((k : Int) + 1) W h)
              rw [xT] at XT
              clear mF mT xF xT
              obtain ⟨x1, x2, -, -⟩ := id ks_4
              go_wp2_with fail
              refine (wpAt_any (k : Int) hk0 (by omega) _).mono ?_; rintro e w71 ⟨rfl, hb⟩
              have HT_5 := Lib.hid (HT_4.out.keep hb)
              have HX_5 := Lib.hid (HX_4.out.keep hb)
              have ks_5 := ks_4.keep hb
              have L1_5 := Lib.hid (L1_0.out.trans (hb.mono L1_0.out.size))
              have E_5 := Lib.hid (E_4.out.trans (hb.mono E_4.out.size))
              clear HT_4 HX_4 ks_4 L1_0 E_4 x1 x2 hb
              obtain ⟨x1, x2, -, -⟩ := id ks_5
              go_wp2_with fail
              refine (XF.out _ HX_5.out).mono ?_; rintro e w72 ⟨rfl, hb⟩
              have HT_6 := Lib.hid (HT_5.out.keep hb)
              have HX_6 := Lib.hid (HX_5.out.keep hb)
              have ks_6 := ks_5.keep hb
              have L1_6 := Lib.hid (L1_5.out.trans (hb.mono L1_5.out.size))
              have E_6 := Lib.hid (E_5.out.trans (hb.mono E_5.out.size))
              clear HT_5 HX_5 ks_5 L1_5 E_5 x1 x2 hb
              obtain ⟨x1, x2, -, -⟩ := id ks_6
              go_wp2_with fail
              refine (wpAt_any (k : Int) hk0 (by omega) _).mono ?_; rintro e w73 ⟨rfl, hb⟩
              have HT_7 := Lib.hid (HT_6.out.keep hb)
              have HX_7 := Lib.hid (HX_6.out.keep hb)
              have ks_7 := ks_6.keep hb
              have L1_7 := Lib.hid (L1_6.out.trans (hb.mono L1_6.out.size))
              have E_7 := Lib.hid (E_6.out.trans (hb.mono E_6.out.size))
              clear HT_6 HX_6 ks_6 L1_6 E_6 x1 x2 hb
              obtain ⟨x1, x2, -, -⟩ := id ks_7
              go_wp2_with fail
              refine (MF.out _ HT_7.out).mono ?_; rintro e w74 ⟨rfl, hb⟩
              have HT_8 := Lib.hid (HT_7.out.keep hb)
              have HX_8 := Lib.hid (HX_7.out.keep hb)
              have ks_8 := ks_7.keep hb
              have L1_8 := Lib.hid (L1_7.out.trans (hb.mono L1_7.out.size))
              have E_8 := Lib.hid (E_7.out.trans (hb.mono E_7.out.size))
              clear HT_7 HX_7 ks_7 L1_7 E_7 x1 x2 hb
              obtain ⟨x1, x2, -, -⟩ := id ks_8
              go_wp2_with fail
              refine (wpAt_any (k : Int) hk0 (by omega) _).mono ?_; rintro e w75 ⟨rfl, hb⟩
              have HT_9 := Lib.hid (HT_8.out.keep hb)
              have HX_9 := Lib.hid (HX_8.out.keep hb)
              have ks_9 := ks_8.keep hb
              have L1_9 := Lib.hid (L1_8.out.trans (hb.mono L1_8.out.size))
              have E_9 := Lib.hid (E_8.out.trans (hb.mono E_8.out.size))
              clear HT_8 HX_8 ks_8 L1_8 E_8 x1 x2 hb
              obtain ⟨x1, x2, -, -⟩ := id ks_9
              go_wp2_with fail
              refine (XT.out _ HX_9.out).mono ?_; rintro e w76 ⟨rfl, hb⟩
              have HT_10 := Lib.hid (HT_9.out.keep hb)
              have HX_10 := Lib.hid (HX_9.out.keep hb)
              have ks_10 := ks_9.keep hb
              have L1_10 := Lib.hid (L1_9.out.trans (hb.mono L1_9.out.size))
              have E_10 := Lib.hid (E_9.out.trans (hb.mono E_9.out.size))
              clear HT_9 HX_9 ks_9 L1_9 E_9 x1 x2 hb
              obtain ⟨x1, x2, -, -⟩ := id ks_10
              go_wp2_with fail
              refine (wpAt_any (k : Int) hk0 (by omega) _).mono ?_; rintro e w77 ⟨rfl, hb⟩
              have HT_11 := Lib.hid (HT_10.out.keep hb)
              have HX_11 := Lib.hid (HX_10.out.keep hb)
              have ks_11 := ks_10.keep hb
              have L1_11 := Lib.hid (L1_10.out.trans (hb.mono L1_10.out.size))
              have E_11 := Lib.hid (E_10.out.trans (hb.mono E_10.out.size))
              clear HT_10 HX_10 ks_10 L1_10 E_10 x1 x2 hb
              obtain ⟨x1, x2, -, -⟩ := id ks_11
              go_wp2_with fail
              refine (MT.out _ HT_11.out).mono ?_; rintro e w78 ⟨rfl, hb⟩
              have HT_12 := Lib.hid (HT_11.out.keep hb)
              have HX_12 := Lib.hid (HX_11.out.keep hb)
              have ks_12 := ks_11.keep hb
              have L1_12 := Lib.hid (L1_11.out.trans (hb.mono L1_11.out.size))
              have E_12 := Lib.hid (E_11.out.trans (hb.mono E_11.out.size))
              clear HT_11 HX_11 ks_11 L1_11 E_11 x1 x2 hb
              obtain ⟨x1, x2, -, -⟩ := id ks_12
              go_wp2
              go_roundg (48 - (k + 1))
              case measure => omega
              case rel => exact ⟨k + 1, rfl, by omega, by go_num, L1_12.out⟩
        · obtain ⟨x1, x2, -, -⟩ := id ks_4
          go_wp2_with fail
          go_loopg [12] 3 (fun g s12 wq => ∃ k : Nat, g = 3 - k ∧ k ≤ 3 ∧ s12 = .int .i64 k ∧ Below wr.heap.size wr wq)
          case atStart => exact ⟨0, rfl, Nat.zero_le _, rfl, Below.refl _ _⟩
          case round =>
            obtain ⟨k, rfl, hk, rfl, hb⟩ := hrel
            clear x1 x2
            have L3_0 := Lib.hid hb
            have HT_5 := Lib.hid (HT_4.out.keep hb)
            have HX_5 := Lib.hid (HX_4.out.keep hb)
            have ks_5 := ks_4.keep hb
            have L1_5 := Lib.hid (L1_0.out.trans (hb.mono L1_0.out.size))
            have E_5 := Lib.hid (E_4.out.trans (hb.mono E_4.out.size))
            clear HT_4 HX_4 ks_4 L1_0 E_4 hb
            by_cases hlt : k < 3
            · have HCk := Lib.hid (HCL.out (k : Int))
              have BR := Lib.hid (fun W h => implLockBars_any vx X (k : Int) false lo hi W h)
              have hyl := barsL_len X (k : Int) false lo hi
              generalize barsL X (k : Int) false lo hi = Y at *
              obtain ⟨x1, x2, -, -⟩ := id ks_5
              go_wp2_with fail
              refine (BR.out _ HX_5.out).mono ?_; rintro e w79 ⟨vb, rfl, hbo, hb⟩
              obtain ⟨ba, bc, rfl, bl, bm, bd⟩ := own_ints hbo.out
              unfold maxLen at bm
              clear hbo
              have HT_6 := Lib.hid (HT_5.out.keep hb)
              have HX_6 := Lib.hid (HX_5.out.keep hb)
              have ks_6 := ks_5.keep hb
              have L1_6 := Lib.hid (L1_5.out.trans (hb.mono L1_5.out.size))
              have L3_6 := Lib.hid (L3_0.out.trans (hb.mono L3_0.out.size))
              have E_6 := Lib.hid (E_5.out.trans (hb.mono E_5.out.size))
              clear HT_5 HX_5 ks_5 L1_5 L3_0 E_5 x1 x2 hb
              have BD := Lib.hid bd
              clear bd
              obtain ⟨x1, x2, -, -⟩ := id ks_6
              go_wp2_with fail
              go_loopg [14] Y.length (fun gi s14 wi => ∃ j : Nat, gi = Y.length - j ∧ j ≤ Y.length ∧ s14 = .int .i64 j ∧ Below w79.heap.size w79 wi)
              case atStart => exact ⟨0, rfl, Nat.zero_le _, rfl, Below.refl _ _⟩
              case round =>
                obtain ⟨j, rfl, hj, rfl, hb⟩ := hrel
                clear x1 x2
                have L4_0 := Lib.hid hb
                have HT_7 := Lib.hid (HT_6.out.keep hb)
                have HX_7 := Lib.hid (HX_6.out.keep hb)
                have ks_7 := ks_6.keep hb
                have L1_7 := Lib.hid (L1_6.out.trans (hb.mono L1_6.out.size))
                have L3_7 := Lib.hid (L3_6.out.trans (hb.mono L3_6.out.size))
                have E_7 := Lib.hid (E_6.out.trans (hb.mono E_6.out.size))
                clear HT_6 HX_6 ks_6 L1_6 L3_6 E_6 hb
                by_cases hjl : j < Y.length
                · obtain ⟨b0, off, rfl, hcc⟩ := BD.out (by omega)
                  have c1 := cell_keep L4_0.out (hcc j hjl)
                  have i0 : (0 : Int) ≤ (j : Int) := by omega
                  have i1 : (j : Int) < (Y.length : Int) := by omega
                  have hne := HCk.out (Y.getD j 0) (by rw [List.getD_eq_getElem?_getD, List.getElem?_eq_getElem hjl]; exact List.getElem_mem hjl)
                  generalize Y.getD j 0 = y at *
                  have hye : (y == (n : Int)) = false := by simpa using hne
                  clear hcc hne
                  obtain ⟨x1, x2, -, -⟩ := id ks_7
                  go_wp2
                  go_roundg (Y.length - (j + 1))
                  case measure => omega
                  case rel => exact ⟨j + 1, rfl, by omega, by go_num, L4_0.out⟩
                · obtain ⟨x1, x2, -, -⟩ := id ks_7
                  go_wp2
                  go_roundg (3 - (k + 1))
                  case measure => omega
                  case rel => exact ⟨k + 1, rfl, by omega, by go_num, L3_7.out⟩
            · obtain ⟨x1, x2, -, -⟩ := id ks_5
              go_wp2_with fail
              refine (O3.out _ HX_5.out).mono ?_; rintro e w80 ⟨rfl, hb⟩
              have HT_6 := Lib.hid (HT_5.out.keep hb)
              have HX_6 := Lib.hid (HX_5.out.keep hb)
              have ks_6 := ks_5.keep hb
              have L1_6 := Lib.hid (L1_5.out.trans (hb.mono L1_5.out.size))
              have L3_6 := Lib.hid (L3_0.out.trans (hb.mono L3_0.out.size))
              have E_6 := Lib.hid (E_5.out.trans (hb.mono E_5.out.size))
              clear HT_5 HX_5 ks_5 L1_5 L3_0 E_5 x1 x2 hb
              obtain ⟨x1, x2, -, -⟩ := id ks_6
              go_wp2
              go_ret
              exact ⟨rfl, E_6.out⟩
  · go_enter Try.func7, Try.ntmps7
    go_wp2
    go_ret
    exact ⟨rfl, Below.refl _ _⟩

end Go.Proofs.Ytfifimdaepebeaa.fnLockDown
