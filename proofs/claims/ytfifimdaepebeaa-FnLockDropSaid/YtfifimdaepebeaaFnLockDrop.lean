/-
  laws.FnLockDrop returns true at every code: the walk of the law. No condition.
-/
import Derived.Test.YtfifimdaepebeaaDrawLk2
import Derived.Test.YtfifimdaepebeaaImplMay
import Derived.Test.YtfifimdaepebeaaSpecMay
import Derived.Test.YtfifimdaepebeaaLkMath
import Derived.Test.YtfifimdaepebeaaLkLaws
import Derived.Test.YtfifimdaepebeaaImplGive
import Derived.Test.YtfifimdaepebeaaSpecGive
import Derived.Test.YtfifimdaepebeaaLockSame
namespace Go.Proofs.Ytfifimdaepebeaa.fnLockDrop
open Go.RowKit

set_option maxRecDepth 100000 in
set_option maxHeartbeats 8000000 in
theorem walk (v0 : Value) (len0 : Nat) (w : World) (h0 : Byt w v0 len0) :
    Calls Try.prog 6 #[v0] w fun e w' => e = .returned (.bool true) ∧ Below w.heap.size w w' := by
  have HB0 := Lib.hid h0
  have hlen0 : len0 ≤ 9223372036854775807 := by obtain ⟨z, a, cap, -, h1, h2, -⟩ := h0; unfold maxLen at h2; omega
  obtain ⟨z0, a0, cap0, rfl, -, -, -⟩ := h0
  by_cases hL : len0 ≤ 1048576
  · go_enter Try.func6, Try.ntmps6
    go_wp2_with fail
    refine (drawLockDrop_any _ len0 _ HB0.out).mono ?_; rintro e w1 ⟨v, T, who, lo, hi, rfl, hd, hb⟩
    have ks_0 := new_box w1 lo hi 25
    have hal : Below w1.heap.size w1 (w1.alloc (.cells #[.int .i64 lo, .int .i64 hi] 25)) := (Below.refl _ _).alloc (Nat.le_refl _) _
    have HT_0 := Lib.hid (hd.out _ (Btw.of_below hal))
    have E_0 := Lib.hid (hb.trans (hal.mono hb.size))
    clear hd hb hal HB0
    obtain ⟨⟨X, q⟩, hC⟩ : ∃ C, chT T who lo hi (fun x => mn x 0) = C := ⟨_, rfl⟩
    have IG := Lib.hid (fun v T W h => implDrop_any v T who lo hi W h)
    have SG := Lib.hid (fun W h => specDrop_any v T who lo hi W h)
    rw [hC] at SG
    have IG1 := Lib.hid (fun W h => IG.out v T W h)
    rw [hC] at IG1
    have he := Lib.hid (eqT_self X)
    obtain ⟨x1, x2, -, -⟩ := id ks_0
    go_wp2_with fail
    refine (IG1.out _ HT_0.out).mono ?_; rintro e w2 ⟨vx, rfl, hx, hb⟩
    have HX := Lib.hid hx.out.hds
    clear hx
    have HT_1 := Lib.hid (HT_0.out.keep hb)
    have ks_1 := ks_0.keep hb
    have E_1 := Lib.hid (E_0.out.trans (hb.mono E_0.out.size))
    clear HT_0 ks_0 E_0 x1 x2 hb
    obtain ⟨x1, x2, -, -⟩ := id ks_1
    go_wp2_with fail
    refine (SG.out _ HT_1.out).mono ?_; rintro e w3 ⟨vy, rfl, hy, hb⟩
    have HY := Lib.hid hy.out.hds
    clear hy
    have HT_2 := Lib.hid (HT_1.out.keep hb)
    have HX_2 := Lib.hid (HX.out.keep hb)
    have ks_2 := ks_1.keep hb
    have E_2 := Lib.hid (E_1.out.trans (hb.mono E_1.out.size))
    clear HT_1 HX ks_1 E_1 x1 x2 hb
    cases q
    · clear hC
      obtain ⟨x1, x2, -, -⟩ := id ks_2
      go_wp2_with fail
      refine (implLockSame_any vx vy X X _ HX_2.out HY.out).mono ?_; rintro e w4 ⟨rfl, hb⟩
      rw [he.out]
      have HT_3 := Lib.hid (HT_2.out.keep hb)
      have HX_3 := Lib.hid (HX_2.out.keep hb)
      have HY_3 := Lib.hid (HY.out.keep hb)
      have ks_3 := ks_2.keep hb
      have E_3 := Lib.hid (E_2.out.trans (hb.mono E_2.out.size))
      clear HT_2 HX_2 HY ks_2 E_2 x1 x2 hb
      obtain ⟨x1, x2, -, -⟩ := id ks_3
      go_wp2_with fail
      refine (implLockSame_any vx vy X X _ HX_3.out HY_3.out).mono ?_; rintro e w5 ⟨rfl, hb⟩
      rw [he.out]
      have HT_4 := Lib.hid (HT_3.out.keep hb)
      have HX_4 := Lib.hid (HX_3.out.keep hb)
      have HY_4 := Lib.hid (HY_3.out.keep hb)
      have ks_4 := ks_3.keep hb
      have E_4 := Lib.hid (E_3.out.trans (hb.mono E_3.out.size))
      clear HT_3 HX_3 HY_3 ks_3 E_3 x1 x2 hb
      obtain ⟨x1, x2, -, -⟩ := id ks_4
      go_wp2
      go_ret
      exact ⟨rfl, E_4.out⟩
    · have hag := ch_again (g := fun x => mn x 0) hC F3_drop drop_again
      have IG2 := Lib.hid (fun W h => IG.out vx X W h)
      rw [hag] at IG2
      obtain ⟨n, hn3, rfl, hq, hs, hX, hxo⟩ := chT_true hC
      have h3 := ok_len hq
      obtain ⟨s0, s1, s2⟩ := spanOkB_iff.1 hs
      have xv : Hid (∀ j (i : Int), 0 ≤ i → i < 48 → mfn (X.getD j hd0) i = if j = n ∧ lo ≤ i ∧ i < hi then mn (mfn (T.getD j hd0) i) 0 else mfn (T.getD j hd0) i) := fun j i h0 h1 => by rw [hX]; exact ch_mfn F3_drop h3 hn3 h0 h1
      have HQ := Lib.hid hq
      have HXO := Lib.hid hxo
      have O3 := Lib.hid (fun W h => implLockOk_any vx X W h)
      rw [hxo] at O3
      clear hC hq hX hxo hs hag IG IG1 SG
      obtain ⟨x1, x2, -, -⟩ := id ks_2
      go_wp2_with fail
      refine (implLockSame_any vx vy X X _ HX_2.out HY.out).mono ?_; rintro e w6 ⟨rfl, hb⟩
      rw [he.out]
      have HT_3 := Lib.hid (HT_2.out.keep hb)
      have HX_3 := Lib.hid (HX_2.out.keep hb)
      have HY_3 := Lib.hid (HY.out.keep hb)
      have ks_3 := ks_2.keep hb
      have E_3 := Lib.hid (E_2.out.trans (hb.mono E_2.out.size))
      clear HT_2 HX_2 HY ks_2 E_2 x1 x2 hb
      clear HY_3
      obtain ⟨x1, x2, -, -⟩ := id ks_3
      go_wp2_with fail
      go_loopg [10] 48 (fun g s10 wr => ∃ k : Nat, g = 48 - k ∧ k ≤ 48 ∧ s10 = .int .i64 k ∧ Below w6.heap.size w6 wr)
      case atStart => exact ⟨0, rfl, Nat.zero_le _, rfl, Below.refl _ _⟩
      case round =>
        obtain ⟨k, rfl, hk, rfl, hb⟩ := hrel
        clear x1 x2
        have L1_0 := Lib.hid hb
        have HT_4 := Lib.hid (HT_3.out.keep hb)
        have HX_4 := Lib.hid (HX_3.out.keep hb)
        have ks_4 := ks_3.keep hb
        have E_4 := Lib.hid (E_3.out.trans (hb.mono E_3.out.size))
        clear HT_3 HX_3 ks_3 E_3 hb
        by_cases hlt : k < 48
        · have hk0 : (0 : Int) ≤ (k : Int) := by omega
          have hk1 : (k : Int) < 48 := by omega
          have hway : (¬ lo ≤ (k : Int)) ∨ (lo ≤ (k : Int) ∧ ¬ (k : Int) < hi) ∨ (lo ≤ (k : Int) ∧ (k : Int) < hi) := by omega
          rcases hway with c1 | ⟨c1, c2⟩ | ⟨c1, c2⟩
          · have hnin : Hid (¬ (lo ≤ (k : Int) ∧ (k : Int) < hi)) := fun h => by omega
            obtain ⟨x1, x2, -, -⟩ := id ks_4
            go_wp2_with fail
            go_loopg [12] 3 (fun gi s12 wi => ∃ j : Nat, gi = 3 - j ∧ j ≤ 3 ∧ s12 = .int .i64 j ∧ Below wr.heap.size wr wi)
            case atStart => exact ⟨0, rfl, Nat.zero_le _, rfl, Below.refl _ _⟩
            case round =>
              obtain ⟨j, rfl, hj, rfl, hb⟩ := hrel
              clear x1 x2
              have L2_0 := Lib.hid hb
              have HT_5 := Lib.hid (HT_4.out.keep hb)
              have HX_5 := Lib.hid (HX_4.out.keep hb)
              have ks_5 := ks_4.keep hb
              have L1_5 := Lib.hid (L1_0.out.trans (hb.mono L1_0.out.size))
              have E_5 := Lib.hid (E_4.out.trans (hb.mono E_4.out.size))
              clear HT_4 HX_4 ks_4 L1_0 E_4 hb
              by_cases hjl : j < 3
              · have hoff : ¬ (j = n ∧ lo ≤ (k : Int) ∧ (k : Int) < hi) := fun h => hnin.out h.2
                by_cases hjn : j = n
                · subst hjn
                  have mF := may_at hjl HQ.out hk0 hk1 false
                  have mT := may_at hjl HQ.out hk0 hk1 true
                  have xF := may_at hjl HXO.out hk0 hk1 false
                  have xT := may_at hjl HXO.out hk0 hk1 true
                  have hm := xv.out j (k : Int) hk0 hk1
                  rw [if_neg hoff] at hm
                  rw [hm] at xF xT
                  clear hm
                  obtain ⟨a, ha⟩ : ∃ a, decide (wantOf false ≤ mfn (T.getD j hd0) (k : Int)) = a := ⟨_, rfl⟩
                  obtain ⟨c, hc⟩ : ∃ c, decide (wantOf true ≤ mfn (T.getD j hd0) (k : Int)) = c := ⟨_, rfl⟩
                  rw [ha] at mF xF
                  rw [hc] at mT xT
                  have MF := Lib.hid (fun W h => implLockMay_any v T (j : Int) false (k : Int) ((k : Int) + 1) W h)
                  rw [mF] at MF
                  have MT := Lib.hid (fun W h => implLockMay_any v T (j : Int) true (k : Int) ((k : Int) + 1) W h)
                  rw [mT] at MT
                  have XF := Lib.hid (fun W h => implLockMay_any vx X (j : Int) false (k : Int) ((k : Int) + 1) W h)
                  rw [xF] at XF
                  have XT := Lib.hid (fun W h => implLockMay_any vx X (j : Int) true (k : Int) ((k : Int) + 1) W h)
                  rw [xT] at XT
                  clear mF mT xF xT ha hc
                  have ea : (a != a) = false := by cases a <;> rfl
                  have ec : (c != c) = false := by cases c <;> rfl
                  obtain ⟨x1, x2, -, -⟩ := id ks_5
                  go_wp2_with fail
                  refine (wpAt_any (k : Int) hk0 (by omega) _).mono ?_; rintro e w7 ⟨rfl, hb⟩
                  have HT_6 := Lib.hid (HT_5.out.keep hb)
                  have HX_6 := Lib.hid (HX_5.out.keep hb)
                  have ks_6 := ks_5.keep hb
                  have L1_6 := Lib.hid (L1_5.out.trans (hb.mono L1_5.out.size))
                  have L2_6 := Lib.hid (L2_0.out.trans (hb.mono L2_0.out.size))
                  have E_6 := Lib.hid (E_5.out.trans (hb.mono E_5.out.size))
                  clear HT_5 HX_5 ks_5 L1_5 L2_0 E_5 x1 x2 hb
                  obtain ⟨x1, x2, -, -⟩ := id ks_6
                  go_wp2_with fail
                  refine (XF.out _ HX_6.out).mono ?_; rintro e w8 ⟨rfl, hb⟩
                  have HT_7 := Lib.hid (HT_6.out.keep hb)
                  have HX_7 := Lib.hid (HX_6.out.keep hb)
                  have ks_7 := ks_6.keep hb
                  have L1_7 := Lib.hid (L1_6.out.trans (hb.mono L1_6.out.size))
                  have L2_7 := Lib.hid (L2_6.out.trans (hb.mono L2_6.out.size))
                  have E_7 := Lib.hid (E_6.out.trans (hb.mono E_6.out.size))
                  clear HT_6 HX_6 ks_6 L1_6 L2_6 E_6 x1 x2 hb
                  obtain ⟨x1, x2, -, -⟩ := id ks_7
                  go_wp2_with fail
                  refine (wpAt_any (k : Int) hk0 (by omega) _).mono ?_; rintro e w9 ⟨rfl, hb⟩
                  have HT_8 := Lib.hid (HT_7.out.keep hb)
                  have HX_8 := Lib.hid (HX_7.out.keep hb)
                  have ks_8 := ks_7.keep hb
                  have L1_8 := Lib.hid (L1_7.out.trans (hb.mono L1_7.out.size))
                  have L2_8 := Lib.hid (L2_7.out.trans (hb.mono L2_7.out.size))
                  have E_8 := Lib.hid (E_7.out.trans (hb.mono E_7.out.size))
                  clear HT_7 HX_7 ks_7 L1_7 L2_7 E_7 x1 x2 hb
                  obtain ⟨x1, x2, -, -⟩ := id ks_8
                  go_wp2_with fail
                  refine (XT.out _ HX_8.out).mono ?_; rintro e w10 ⟨rfl, hb⟩
                  have HT_9 := Lib.hid (HT_8.out.keep hb)
                  have HX_9 := Lib.hid (HX_8.out.keep hb)
                  have ks_9 := ks_8.keep hb
                  have L1_9 := Lib.hid (L1_8.out.trans (hb.mono L1_8.out.size))
                  have L2_9 := Lib.hid (L2_8.out.trans (hb.mono L2_8.out.size))
                  have E_9 := Lib.hid (E_8.out.trans (hb.mono E_8.out.size))
                  clear HT_8 HX_8 ks_8 L1_8 L2_8 E_8 x1 x2 hb
                  obtain ⟨x1, x2, -, -⟩ := id ks_9
                  go_wp2_with fail
                  refine (wpAt_any (k : Int) hk0 (by omega) _).mono ?_; rintro e w11 ⟨rfl, hb⟩
                  have HT_10 := Lib.hid (HT_9.out.keep hb)
                  have HX_10 := Lib.hid (HX_9.out.keep hb)
                  have ks_10 := ks_9.keep hb
                  have L1_10 := Lib.hid (L1_9.out.trans (hb.mono L1_9.out.size))
                  have L2_10 := Lib.hid (L2_9.out.trans (hb.mono L2_9.out.size))
                  have E_10 := Lib.hid (E_9.out.trans (hb.mono E_9.out.size))
                  clear HT_9 HX_9 ks_9 L1_9 L2_9 E_9 x1 x2 hb
                  obtain ⟨x1, x2, -, -⟩ := id ks_10
                  go_wp2_with fail
                  refine (MF.out _ HT_10.out).mono ?_; rintro e w12 ⟨rfl, hb⟩
                  have HT_11 := Lib.hid (HT_10.out.keep hb)
                  have HX_11 := Lib.hid (HX_10.out.keep hb)
                  have ks_11 := ks_10.keep hb
                  have L1_11 := Lib.hid (L1_10.out.trans (hb.mono L1_10.out.size))
                  have L2_11 := Lib.hid (L2_10.out.trans (hb.mono L2_10.out.size))
                  have E_11 := Lib.hid (E_10.out.trans (hb.mono E_10.out.size))
                  clear HT_10 HX_10 ks_10 L1_10 L2_10 E_10 x1 x2 hb
                  obtain ⟨x1, x2, -, -⟩ := id ks_11
                  go_wp2_with fail
                  refine (wpAt_any (k : Int) hk0 (by omega) _).mono ?_; rintro e w13 ⟨rfl, hb⟩
                  have HT_12 := Lib.hid (HT_11.out.keep hb)
                  have HX_12 := Lib.hid (HX_11.out.keep hb)
                  have ks_12 := ks_11.keep hb
                  have L1_12 := Lib.hid (L1_11.out.trans (hb.mono L1_11.out.size))
                  have L2_12 := Lib.hid (L2_11.out.trans (hb.mono L2_11.out.size))
                  have E_12 := Lib.hid (E_11.out.trans (hb.mono E_11.out.size))
                  clear HT_11 HX_11 ks_11 L1_11 L2_11 E_11 x1 x2 hb
                  obtain ⟨x1, x2, -, -⟩ := id ks_12
                  go_wp2_with fail
                  refine (MT.out _ HT_12.out).mono ?_; rintro e w14 ⟨rfl, hb⟩
                  have HT_13 := Lib.hid (HT_12.out.keep hb)
                  have HX_13 := Lib.hid (HX_12.out.keep hb)
                  have ks_13 := ks_12.keep hb
                  have L1_13 := Lib.hid (L1_12.out.trans (hb.mono L1_12.out.size))
                  have L2_13 := Lib.hid (L2_12.out.trans (hb.mono L2_12.out.size))
                  have E_13 := Lib.hid (E_12.out.trans (hb.mono E_12.out.size))
                  clear HT_12 HX_12 ks_12 L1_12 L2_12 E_12 x1 x2 hb
                  obtain ⟨x1, x2, -, -⟩ := id ks_13
                  go_wp2
                  go_roundg (3 - (j + 1))
                  case measure => omega
                  case rel => exact ⟨j + 1, rfl, by omega, by go_num, L2_13.out⟩
                · have hjn2 : ((j : Int) == (n : Int)) = false := by simp; omega
                  have mF := may_at hjl HQ.out hk0 hk1 false
                  have mT := may_at hjl HQ.out hk0 hk1 true
                  have xF := may_at hjl HXO.out hk0 hk1 false
                  have xT := may_at hjl HXO.out hk0 hk1 true
                  have hm := xv.out j (k : Int) hk0 hk1
                  rw [if_neg hoff] at hm
                  rw [hm] at xF xT
                  clear hm
                  obtain ⟨a, ha⟩ : ∃ a, decide (wantOf false ≤ mfn (T.getD j hd0) (k : Int)) = a := ⟨_, rfl⟩
                  obtain ⟨c, hc⟩ : ∃ c, decide (wantOf true ≤ mfn (T.getD j hd0) (k : Int)) = c := ⟨_, rfl⟩
                  rw [ha] at mF xF
                  rw [hc] at mT xT
                  have MF := Lib.hid (fun W h => implLockMay_any v T (j : Int) false (k : Int) ((k : Int) + 1) W h)
                  rw [mF] at MF
                  have MT := Lib.hid (fun W h => implLockMay_any v T (j : Int) true (k : Int) ((k : Int) + 1) W h)
                  rw [mT] at MT
                  have XF := Lib.hid (fun W h => implLockMay_any vx X (j : Int) false (k : Int) ((k : Int) + 1) W h)
                  rw [xF] at XF
                  have XT := Lib.hid (fun W h => implLockMay_any vx X (j : Int) true (k : Int) ((k : Int) + 1) W h)
                  rw [xT] at XT
                  clear mF mT xF xT ha hc
                  have ea : (a != a) = false := by cases a <;> rfl
                  have ec : (c != c) = false := by cases c <;> rfl
                  obtain ⟨x1, x2, -, -⟩ := id ks_5
                  go_wp2_with fail
                  refine (wpAt_any (k : Int) hk0 (by omega) _).mono ?_; rintro e w15 ⟨rfl, hb⟩
                  have HT_6 := Lib.hid (HT_5.out.keep hb)
                  have HX_6 := Lib.hid (HX_5.out.keep hb)
                  have ks_6 := ks_5.keep hb
                  have L1_6 := Lib.hid (L1_5.out.trans (hb.mono L1_5.out.size))
                  have L2_6 := Lib.hid (L2_0.out.trans (hb.mono L2_0.out.size))
                  have E_6 := Lib.hid (E_5.out.trans (hb.mono E_5.out.size))
                  clear HT_5 HX_5 ks_5 L1_5 L2_0 E_5 x1 x2 hb
                  obtain ⟨x1, x2, -, -⟩ := id ks_6
                  go_wp2_with fail
                  refine (XF.out _ HX_6.out).mono ?_; rintro e w16 ⟨rfl, hb⟩
                  have HT_7 := Lib.hid (HT_6.out.keep hb)
                  have HX_7 := Lib.hid (HX_6.out.keep hb)
                  have ks_7 := ks_6.keep hb
                  have L1_7 := Lib.hid (L1_6.out.trans (hb.mono L1_6.out.size))
                  have L2_7 := Lib.hid (L2_6.out.trans (hb.mono L2_6.out.size))
                  have E_7 := Lib.hid (E_6.out.trans (hb.mono E_6.out.size))
                  clear HT_6 HX_6 ks_6 L1_6 L2_6 E_6 x1 x2 hb
                  obtain ⟨x1, x2, -, -⟩ := id ks_7
                  go_wp2_with fail
                  refine (wpAt_any (k : Int) hk0 (by omega) _).mono ?_; rintro e w17 ⟨rfl, hb⟩
                  have HT_8 := Lib.hid (HT_7.out.keep hb)
                  have HX_8 := Lib.hid (HX_7.out.keep hb)
                  have ks_8 := ks_7.keep hb
                  have L1_8 := Lib.hid (L1_7.out.trans (hb.mono L1_7.out.size))
                  have L2_8 := Lib.hid (L2_7.out.trans (hb.mono L2_7.out.size))
                  have E_8 := Lib.hid (E_7.out.trans (hb.mono E_7.out.size))
                  clear HT_7 HX_7 ks_7 L1_7 L2_7 E_7 x1 x2 hb
                  obtain ⟨x1, x2, -, -⟩ := id ks_8
                  go_wp2_with fail
                  refine (XT.out _ HX_8.out).mono ?_; rintro e w18 ⟨rfl, hb⟩
                  have HT_9 := Lib.hid (HT_8.out.keep hb)
                  have HX_9 := Lib.hid (HX_8.out.keep hb)
                  have ks_9 := ks_8.keep hb
                  have L1_9 := Lib.hid (L1_8.out.trans (hb.mono L1_8.out.size))
                  have L2_9 := Lib.hid (L2_8.out.trans (hb.mono L2_8.out.size))
                  have E_9 := Lib.hid (E_8.out.trans (hb.mono E_8.out.size))
                  clear HT_8 HX_8 ks_8 L1_8 L2_8 E_8 x1 x2 hb
                  obtain ⟨x1, x2, -, -⟩ := id ks_9
                  go_wp2_with fail
                  refine (wpAt_any (k : Int) hk0 (by omega) _).mono ?_; rintro e w19 ⟨rfl, hb⟩
                  have HT_10 := Lib.hid (HT_9.out.keep hb)
                  have HX_10 := Lib.hid (HX_9.out.keep hb)
                  have ks_10 := ks_9.keep hb
                  have L1_10 := Lib.hid (L1_9.out.trans (hb.mono L1_9.out.size))
                  have L2_10 := Lib.hid (L2_9.out.trans (hb.mono L2_9.out.size))
                  have E_10 := Lib.hid (E_9.out.trans (hb.mono E_9.out.size))
                  clear HT_9 HX_9 ks_9 L1_9 L2_9 E_9 x1 x2 hb
                  obtain ⟨x1, x2, -, -⟩ := id ks_10
                  go_wp2_with fail
                  refine (MF.out _ HT_10.out).mono ?_; rintro e w20 ⟨rfl, hb⟩
                  have HT_11 := Lib.hid (HT_10.out.keep hb)
                  have HX_11 := Lib.hid (HX_10.out.keep hb)
                  have ks_11 := ks_10.keep hb
                  have L1_11 := Lib.hid (L1_10.out.trans (hb.mono L1_10.out.size))
                  have L2_11 := Lib.hid (L2_10.out.trans (hb.mono L2_10.out.size))
                  have E_11 := Lib.hid (E_10.out.trans (hb.mono E_10.out.size))
                  clear HT_10 HX_10 ks_10 L1_10 L2_10 E_10 x1 x2 hb
                  obtain ⟨x1, x2, -, -⟩ := id ks_11
                  go_wp2_with fail
                  refine (wpAt_any (k : Int) hk0 (by omega) _).mono ?_; rintro e w21 ⟨rfl, hb⟩
                  have HT_12 := Lib.hid (HT_11.out.keep hb)
                  have HX_12 := Lib.hid (HX_11.out.keep hb)
                  have ks_12 := ks_11.keep hb
                  have L1_12 := Lib.hid (L1_11.out.trans (hb.mono L1_11.out.size))
                  have L2_12 := Lib.hid (L2_11.out.trans (hb.mono L2_11.out.size))
                  have E_12 := Lib.hid (E_11.out.trans (hb.mono E_11.out.size))
                  clear HT_11 HX_11 ks_11 L1_11 L2_11 E_11 x1 x2 hb
                  obtain ⟨x1, x2, -, -⟩ := id ks_12
                  go_wp2_with fail
                  refine (MT.out _ HT_12.out).mono ?_; rintro e w22 ⟨rfl, hb⟩
                  have HT_13 := Lib.hid (HT_12.out.keep hb)
                  have HX_13 := Lib.hid (HX_12.out.keep hb)
                  have ks_13 := ks_12.keep hb
                  have L1_13 := Lib.hid (L1_12.out.trans (hb.mono L1_12.out.size))
                  have L2_13 := Lib.hid (L2_12.out.trans (hb.mono L2_12.out.size))
                  have E_13 := Lib.hid (E_12.out.trans (hb.mono E_12.out.size))
                  clear HT_12 HX_12 ks_12 L1_12 L2_12 E_12 x1 x2 hb
                  obtain ⟨x1, x2, -, -⟩ := id ks_13
                  go_wp2
                  go_roundg (3 - (j + 1))
                  case measure => omega
                  case rel => exact ⟨j + 1, rfl, by omega, by go_num, L2_13.out⟩
              · obtain ⟨x1, x2, -, -⟩ := id ks_5
                go_wp2
                go_roundg (48 - (k + 1))
                case measure => omega
                case rel => exact ⟨k + 1, rfl, by omega, by go_num, L1_5.out⟩
          · have hnin : Hid (¬ (lo ≤ (k : Int) ∧ (k : Int) < hi)) := fun h => by omega
            obtain ⟨x1, x2, -, -⟩ := id ks_4
            go_wp2_with fail
            go_loopg [12] 3 (fun gi s12 wi => ∃ j : Nat, gi = 3 - j ∧ j ≤ 3 ∧ s12 = .int .i64 j ∧ Below wr.heap.size wr wi)
            case atStart => exact ⟨0, rfl, Nat.zero_le _, rfl, Below.refl _ _⟩
            case round =>
              obtain ⟨j, rfl, hj, rfl, hb⟩ := hrel
              clear x1 x2
              have L2_0 := Lib.hid hb
              have HT_5 := Lib.hid (HT_4.out.keep hb)
              have HX_5 := Lib.hid (HX_4.out.keep hb)
              have ks_5 := ks_4.keep hb
              have L1_5 := Lib.hid (L1_0.out.trans (hb.mono L1_0.out.size))
              have E_5 := Lib.hid (E_4.out.trans (hb.mono E_4.out.size))
              clear HT_4 HX_4 ks_4 L1_0 E_4 hb
              by_cases hjl : j < 3
              · have hoff : ¬ (j = n ∧ lo ≤ (k : Int) ∧ (k : Int) < hi) := fun h => hnin.out h.2
                by_cases hjn : j = n
                · subst hjn
                  have mF := may_at hjl HQ.out hk0 hk1 false
                  have mT := may_at hjl HQ.out hk0 hk1 true
                  have xF := may_at hjl HXO.out hk0 hk1 false
                  have xT := may_at hjl HXO.out hk0 hk1 true
                  have hm := xv.out j (k : Int) hk0 hk1
                  rw [if_neg hoff] at hm
                  rw [hm] at xF xT
                  clear hm
                  obtain ⟨a, ha⟩ : ∃ a, decide (wantOf false ≤ mfn (T.getD j hd0) (k : Int)) = a := ⟨_, rfl⟩
                  obtain ⟨c, hc⟩ : ∃ c, decide (wantOf true ≤ mfn (T.getD j hd0) (k : Int)) = c := ⟨_, rfl⟩
                  rw [ha] at mF xF
                  rw [hc] at mT xT
                  have MF := Lib.hid (fun W h => implLockMay_any v T (j : Int) false (k : Int) ((k : Int) + 1) W h)
                  rw [mF] at MF
                  have MT := Lib.hid (fun W h => implLockMay_any v T (j : Int) true (k : Int) ((k : Int) + 1) W h)
                  rw [mT] at MT
                  have XF := Lib.hid (fun W h => implLockMay_any vx X (j : Int) false (k : Int) ((k : Int) + 1) W h)
                  rw [xF] at XF
                  have XT := Lib.hid (fun W h => implLockMay_any vx X (j : Int) true (k : Int) ((k : Int) + 1) W h)
                  rw [xT] at XT
                  clear mF mT xF xT ha hc
                  have ea : (a != a) = false := by cases a <;> rfl
                  have ec : (c != c) = false := by cases c <;> rfl
                  obtain ⟨x1, x2, -, -⟩ := id ks_5
                  go_wp2_with fail
                  refine (wpAt_any (k : Int) hk0 (by omega) _).mono ?_; rintro e w23 ⟨rfl, hb⟩
                  have HT_6 := Lib.hid (HT_5.out.keep hb)
                  have HX_6 := Lib.hid (HX_5.out.keep hb)
                  have ks_6 := ks_5.keep hb
                  have L1_6 := Lib.hid (L1_5.out.trans (hb.mono L1_5.out.size))
                  have L2_6 := Lib.hid (L2_0.out.trans (hb.mono L2_0.out.size))
                  have E_6 := Lib.hid (E_5.out.trans (hb.mono E_5.out.size))
                  clear HT_5 HX_5 ks_5 L1_5 L2_0 E_5 x1 x2 hb
                  obtain ⟨x1, x2, -, -⟩ := id ks_6
                  go_wp2_with fail
                  refine (XF.out _ HX_6.out).mono ?_; rintro e w24 ⟨rfl, hb⟩
                  have HT_7 := Lib.hid (HT_6.out.keep hb)
                  have HX_7 := Lib.hid (HX_6.out.keep hb)
                  have ks_7 := ks_6.keep hb
                  have L1_7 := Lib.hid (L1_6.out.trans (hb.mono L1_6.out.size))
                  have L2_7 := Lib.hid (L2_6.out.trans (hb.mono L2_6.out.size))
                  have E_7 := Lib.hid (E_6.out.trans (hb.mono E_6.out.size))
                  clear HT_6 HX_6 ks_6 L1_6 L2_6 E_6 x1 x2 hb
                  obtain ⟨x1, x2, -, -⟩ := id ks_7
                  go_wp2_with fail
                  refine (wpAt_any (k : Int) hk0 (by omega) _).mono ?_; rintro e w25 ⟨rfl, hb⟩
                  have HT_8 := Lib.hid (HT_7.out.keep hb)
                  have HX_8 := Lib.hid (HX_7.out.keep hb)
                  have ks_8 := ks_7.keep hb
                  have L1_8 := Lib.hid (L1_7.out.trans (hb.mono L1_7.out.size))
                  have L2_8 := Lib.hid (L2_7.out.trans (hb.mono L2_7.out.size))
                  have E_8 := Lib.hid (E_7.out.trans (hb.mono E_7.out.size))
                  clear HT_7 HX_7 ks_7 L1_7 L2_7 E_7 x1 x2 hb
                  obtain ⟨x1, x2, -, -⟩ := id ks_8
                  go_wp2_with fail
                  refine (XT.out _ HX_8.out).mono ?_; rintro e w26 ⟨rfl, hb⟩
                  have HT_9 := Lib.hid (HT_8.out.keep hb)
                  have HX_9 := Lib.hid (HX_8.out.keep hb)
                  have ks_9 := ks_8.keep hb
                  have L1_9 := Lib.hid (L1_8.out.trans (hb.mono L1_8.out.size))
                  have L2_9 := Lib.hid (L2_8.out.trans (hb.mono L2_8.out.size))
                  have E_9 := Lib.hid (E_8.out.trans (hb.mono E_8.out.size))
                  clear HT_8 HX_8 ks_8 L1_8 L2_8 E_8 x1 x2 hb
                  obtain ⟨x1, x2, -, -⟩ := id ks_9
                  go_wp2_with fail
                  refine (wpAt_any (k : Int) hk0 (by omega) _).mono ?_; rintro e w27 ⟨rfl, hb⟩
                  have HT_10 := Lib.hid (HT_9.out.keep hb)
                  have HX_10 := Lib.hid (HX_9.out.keep hb)
                  have ks_10 := ks_9.keep hb
                  have L1_10 := Lib.hid (L1_9.out.trans (hb.mono L1_9.out.size))
                  have L2_10 := Lib.hid (L2_9.out.trans (hb.mono L2_9.out.size))
                  have E_10 := Lib.hid (E_9.out.trans (hb.mono E_9.out.size))
                  clear HT_9 HX_9 ks_9 L1_9 L2_9 E_9 x1 x2 hb
                  obtain ⟨x1, x2, -, -⟩ := id ks_10
                  go_wp2_with fail
                  refine (MF.out _ HT_10.out).mono ?_; rintro e w28 ⟨rfl, hb⟩
                  have HT_11 := Lib.hid (HT_10.out.keep hb)
                  have HX_11 := Lib.hid (HX_10.out.keep hb)
                  have ks_11 := ks_10.keep hb
                  have L1_11 := Lib.hid (L1_10.out.trans (hb.mono L1_10.out.size))
                  have L2_11 := Lib.hid (L2_10.out.trans (hb.mono L2_10.out.size))
                  have E_11 := Lib.hid (E_10.out.trans (hb.mono E_10.out.size))
                  clear HT_10 HX_10 ks_10 L1_10 L2_10 E_10 x1 x2 hb
                  obtain ⟨x1, x2, -, -⟩ := id ks_11
                  go_wp2_with fail
                  refine (wpAt_any (k : Int) hk0 (by omega) _).mono ?_; rintro e w29 ⟨rfl, hb⟩
                  have HT_12 := Lib.hid (HT_11.out.keep hb)
                  have HX_12 := Lib.hid (HX_11.out.keep hb)
                  have ks_12 := ks_11.keep hb
                  have L1_12 := Lib.hid (L1_11.out.trans (hb.mono L1_11.out.size))
                  have L2_12 := Lib.hid (L2_11.out.trans (hb.mono L2_11.out.size))
                  have E_12 := Lib.hid (E_11.out.trans (hb.mono E_11.out.size))
                  clear HT_11 HX_11 ks_11 L1_11 L2_11 E_11 x1 x2 hb
                  obtain ⟨x1, x2, -, -⟩ := id ks_12
                  go_wp2_with fail
                  refine (MT.out _ HT_12.out).mono ?_; rintro e w30 ⟨rfl, hb⟩
                  have HT_13 := Lib.hid (HT_12.out.keep hb)
                  have HX_13 := Lib.hid (HX_12.out.keep hb)
                  have ks_13 := ks_12.keep hb
                  have L1_13 := Lib.hid (L1_12.out.trans (hb.mono L1_12.out.size))
                  have L2_13 := Lib.hid (L2_12.out.trans (hb.mono L2_12.out.size))
                  have E_13 := Lib.hid (E_12.out.trans (hb.mono E_12.out.size))
                  clear HT_12 HX_12 ks_12 L1_12 L2_12 E_12 x1 x2 hb
                  obtain ⟨x1, x2, -, -⟩ := id ks_13
                  go_wp2
                  go_roundg (3 - (j + 1))
                  case measure => omega
                  case rel => exact ⟨j + 1, rfl, by omega, by go_num, L2_13.out⟩
                · have hjn2 : ((j : Int) == (n : Int)) = false := by simp; omega
                  have mF := may_at hjl HQ.out hk0 hk1 false
                  have mT := may_at hjl HQ.out hk0 hk1 true
                  have xF := may_at hjl HXO.out hk0 hk1 false
                  have xT := may_at hjl HXO.out hk0 hk1 true
                  have hm := xv.out j (k : Int) hk0 hk1
                  rw [if_neg hoff] at hm
                  rw [hm] at xF xT
                  clear hm
                  obtain ⟨a, ha⟩ : ∃ a, decide (wantOf false ≤ mfn (T.getD j hd0) (k : Int)) = a := ⟨_, rfl⟩
                  obtain ⟨c, hc⟩ : ∃ c, decide (wantOf true ≤ mfn (T.getD j hd0) (k : Int)) = c := ⟨_, rfl⟩
                  rw [ha] at mF xF
                  rw [hc] at mT xT
                  have MF := Lib.hid (fun W h => implLockMay_any v T (j : Int) false (k : Int) ((k : Int) + 1) W h)
                  rw [mF] at MF
                  have MT := Lib.hid (fun W h => implLockMay_any v T (j : Int) true (k : Int) ((k : Int) + 1) W h)
                  rw [mT] at MT
                  have XF := Lib.hid (fun W h => implLockMay_any vx X (j : Int) false (k : Int) ((k : Int) + 1) W h)
                  rw [xF] at XF
                  have XT := Lib.hid (fun W h => implLockMay_any vx X (j : Int) true (k : Int) ((k : Int) + 1) W h)
                  rw [xT] at XT
                  clear mF mT xF xT ha hc
                  have ea : (a != a) = false := by cases a <;> rfl
                  have ec : (c != c) = false := by cases c <;> rfl
                  obtain ⟨x1, x2, -, -⟩ := id ks_5
                  go_wp2_with fail
                  refine (wpAt_any (k : Int) hk0 (by omega) _).mono ?_; rintro e w31 ⟨rfl, hb⟩
                  have HT_6 := Lib.hid (HT_5.out.keep hb)
                  have HX_6 := Lib.hid (HX_5.out.keep hb)
                  have ks_6 := ks_5.keep hb
                  have L1_6 := Lib.hid (L1_5.out.trans (hb.mono L1_5.out.size))
                  have L2_6 := Lib.hid (L2_0.out.trans (hb.mono L2_0.out.size))
                  have E_6 := Lib.hid (E_5.out.trans (hb.mono E_5.out.size))
                  clear HT_5 HX_5 ks_5 L1_5 L2_0 E_5 x1 x2 hb
                  obtain ⟨x1, x2, -, -⟩ := id ks_6
                  go_wp2_with fail
                  refine (XF.out _ HX_6.out).mono ?_; rintro e w32 ⟨rfl, hb⟩
                  have HT_7 := Lib.hid (HT_6.out.keep hb)
                  have HX_7 := Lib.hid (HX_6.out.keep hb)
                  have ks_7 := ks_6.keep hb
                  have L1_7 := Lib.hid (L1_6.out.trans (hb.mono L1_6.out.size))
                  have L2_7 := Lib.hid (L2_6.out.trans (hb.mono L2_6.out.size))
                  have E_7 := Lib.hid (E_6.out.trans (hb.mono E_6.out.size))
                  clear HT_6 HX_6 ks_6 L1_6 L2_6 E_6 x1 x2 hb
                  obtain ⟨x1, x2, -, -⟩ := id ks_7
                  go_wp2_with fail
                  refine (wpAt_any (k : Int) hk0 (by omega) _).mono ?_; rintro e w33 ⟨rfl, hb⟩
                  have HT_8 := Lib.hid (HT_7.out.keep hb)
                  have HX_8 := Lib.hid (HX_7.out.keep hb)
                  have ks_8 := ks_7.keep hb
                  have L1_8 := Lib.hid (L1_7.out.trans (hb.mono L1_7.out.size))
                  have L2_8 := Lib.hid (L2_7.out.trans (hb.mono L2_7.out.size))
                  have E_8 := Lib.hid (E_7.out.trans (hb.mono E_7.out.size))
                  clear HT_7 HX_7 ks_7 L1_7 L2_7 E_7 x1 x2 hb
                  obtain ⟨x1, x2, -, -⟩ := id ks_8
                  go_wp2_with fail
                  refine (XT.out _ HX_8.out).mono ?_; rintro e w34 ⟨rfl, hb⟩
                  have HT_9 := Lib.hid (HT_8.out.keep hb)
                  have HX_9 := Lib.hid (HX_8.out.keep hb)
                  have ks_9 := ks_8.keep hb
                  have L1_9 := Lib.hid (L1_8.out.trans (hb.mono L1_8.out.size))
                  have L2_9 := Lib.hid (L2_8.out.trans (hb.mono L2_8.out.size))
                  have E_9 := Lib.hid (E_8.out.trans (hb.mono E_8.out.size))
                  clear HT_8 HX_8 ks_8 L1_8 L2_8 E_8 x1 x2 hb
                  obtain ⟨x1, x2, -, -⟩ := id ks_9
                  go_wp2_with fail
                  refine (wpAt_any (k : Int) hk0 (by omega) _).mono ?_; rintro e w35 ⟨rfl, hb⟩
                  have HT_10 := Lib.hid (HT_9.out.keep hb)
                  have HX_10 := Lib.hid (HX_9.out.keep hb)
                  have ks_10 := ks_9.keep hb
                  have L1_10 := Lib.hid (L1_9.out.trans (hb.mono L1_9.out.size))
                  have L2_10 := Lib.hid (L2_9.out.trans (hb.mono L2_9.out.size))
                  have E_10 := Lib.hid (E_9.out.trans (hb.mono E_9.out.size))
                  clear HT_9 HX_9 ks_9 L1_9 L2_9 E_9 x1 x2 hb
                  obtain ⟨x1, x2, -, -⟩ := id ks_10
                  go_wp2_with fail
                  refine (MF.out _ HT_10.out).mono ?_; rintro e w36 ⟨rfl, hb⟩
                  have HT_11 := Lib.hid (HT_10.out.keep hb)
                  have HX_11 := Lib.hid (HX_10.out.keep hb)
                  have ks_11 := ks_10.keep hb
                  have L1_11 := Lib.hid (L1_10.out.trans (hb.mono L1_10.out.size))
                  have L2_11 := Lib.hid (L2_10.out.trans (hb.mono L2_10.out.size))
                  have E_11 := Lib.hid (E_10.out.trans (hb.mono E_10.out.size))
                  clear HT_10 HX_10 ks_10 L1_10 L2_10 E_10 x1 x2 hb
                  obtain ⟨x1, x2, -, -⟩ := id ks_11
                  go_wp2_with fail
                  refine (wpAt_any (k : Int) hk0 (by omega) _).mono ?_; rintro e w37 ⟨rfl, hb⟩
                  have HT_12 := Lib.hid (HT_11.out.keep hb)
                  have HX_12 := Lib.hid (HX_11.out.keep hb)
                  have ks_12 := ks_11.keep hb
                  have L1_12 := Lib.hid (L1_11.out.trans (hb.mono L1_11.out.size))
                  have L2_12 := Lib.hid (L2_11.out.trans (hb.mono L2_11.out.size))
                  have E_12 := Lib.hid (E_11.out.trans (hb.mono E_11.out.size))
                  clear HT_11 HX_11 ks_11 L1_11 L2_11 E_11 x1 x2 hb
                  obtain ⟨x1, x2, -, -⟩ := id ks_12
                  go_wp2_with fail
                  refine (MT.out _ HT_12.out).mono ?_; rintro e w38 ⟨rfl, hb⟩
                  have HT_13 := Lib.hid (HT_12.out.keep hb)
                  have HX_13 := Lib.hid (HX_12.out.keep hb)
                  have ks_13 := ks_12.keep hb
                  have L1_13 := Lib.hid (L1_12.out.trans (hb.mono L1_12.out.size))
                  have L2_13 := Lib.hid (L2_12.out.trans (hb.mono L2_12.out.size))
                  have E_13 := Lib.hid (E_12.out.trans (hb.mono E_12.out.size))
                  clear HT_12 HX_12 ks_12 L1_12 L2_12 E_12 x1 x2 hb
                  obtain ⟨x1, x2, -, -⟩ := id ks_13
                  go_wp2
                  go_roundg (3 - (j + 1))
                  case measure => omega
                  case rel => exact ⟨j + 1, rfl, by omega, by go_num, L2_13.out⟩
              · obtain ⟨x1, x2, -, -⟩ := id ks_5
                go_wp2
                go_roundg (48 - (k + 1))
                case measure => omega
                case rel => exact ⟨k + 1, rfl, by omega, by go_num, L1_5.out⟩
          · have hnin : Hid (lo ≤ (k : Int) ∧ (k : Int) < hi) := ⟨c1, c2⟩
            obtain ⟨x1, x2, -, -⟩ := id ks_4
            go_wp2_with fail
            go_loopg [12] 3 (fun gi s12 wi => ∃ j : Nat, gi = 3 - j ∧ j ≤ 3 ∧ s12 = .int .i64 j ∧ Below wr.heap.size wr wi)
            case atStart => exact ⟨0, rfl, Nat.zero_le _, rfl, Below.refl _ _⟩
            case round =>
              obtain ⟨j, rfl, hj, rfl, hb⟩ := hrel
              clear x1 x2
              have L2_0 := Lib.hid hb
              have HT_5 := Lib.hid (HT_4.out.keep hb)
              have HX_5 := Lib.hid (HX_4.out.keep hb)
              have ks_5 := ks_4.keep hb
              have L1_5 := Lib.hid (L1_0.out.trans (hb.mono L1_0.out.size))
              have E_5 := Lib.hid (E_4.out.trans (hb.mono E_4.out.size))
              clear HT_4 HX_4 ks_4 L1_0 E_4 hb
              by_cases hjl : j < 3
              · by_cases hjn : j = n
                · subst hjn
                  have xF := may_at hjl HXO.out hk0 hk1 false
                  have xT := may_at hjl HXO.out hk0 hk1 true
                  have hm := xv.out j (k : Int) hk0 hk1
                  rw [if_pos ⟨rfl, hnin.out⟩] at hm
                  have hm0 : mfn (X.getD j hd0) (k : Int) = 0 := by rw [hm]; rcases mfn_cases (T.getD j hd0) (k : Int) with h | h | h <;> rw [h] <;> decide
                  rw [hm0] at xF xT
                  rw [show decide (wantOf false ≤ (0 : Int)) = false from by decide] at xF
                  rw [show decide (wantOf true ≤ (0 : Int)) = false from by decide] at xT
                  have XF := Lib.hid (fun W h => implLockMay_any vx X (j : Int) false (k : Int) ((k : Int) + 1) W h)
                  rw [xF] at XF
                  have XT := Lib.hid (fun W h => implLockMay_any vx X (j : Int) true (k : Int) ((k : Int) + 1) W h)
                  rw [xT] at XT
                  clear xF xT hm hm0
                  obtain ⟨x1, x2, -, -⟩ := id ks_5
                  go_wp2_with fail
                  refine (wpAt_any (k : Int) hk0 (by omega) _).mono ?_; rintro e w39 ⟨rfl, hb⟩
                  have HT_6 := Lib.hid (HT_5.out.keep hb)
                  have HX_6 := Lib.hid (HX_5.out.keep hb)
                  have ks_6 := ks_5.keep hb
                  have L1_6 := Lib.hid (L1_5.out.trans (hb.mono L1_5.out.size))
                  have L2_6 := Lib.hid (L2_0.out.trans (hb.mono L2_0.out.size))
                  have E_6 := Lib.hid (E_5.out.trans (hb.mono E_5.out.size))
                  clear HT_5 HX_5 ks_5 L1_5 L2_0 E_5 x1 x2 hb
                  obtain ⟨x1, x2, -, -⟩ := id ks_6
                  go_wp2_with fail
                  refine (XF.out _ HX_6.out).mono ?_; rintro e w40 ⟨rfl, hb⟩
                  have HT_7 := Lib.hid (HT_6.out.keep hb)
                  have HX_7 := Lib.hid (HX_6.out.keep hb)
                  have ks_7 := ks_6.keep hb
                  have L1_7 := Lib.hid (L1_6.out.trans (hb.mono L1_6.out.size))
                  have L2_7 := Lib.hid (L2_6.out.trans (hb.mono L2_6.out.size))
                  have E_7 := Lib.hid (E_6.out.trans (hb.mono E_6.out.size))
                  clear HT_6 HX_6 ks_6 L1_6 L2_6 E_6 x1 x2 hb
                  obtain ⟨x1, x2, -, -⟩ := id ks_7
                  go_wp2_with fail
                  refine (wpAt_any (k : Int) hk0 (by omega) _).mono ?_; rintro e w41 ⟨rfl, hb⟩
                  have HT_8 := Lib.hid (HT_7.out.keep hb)
                  have HX_8 := Lib.hid (HX_7.out.keep hb)
                  have ks_8 := ks_7.keep hb
                  have L1_8 := Lib.hid (L1_7.out.trans (hb.mono L1_7.out.size))
                  have L2_8 := Lib.hid (L2_7.out.trans (hb.mono L2_7.out.size))
                  have E_8 := Lib.hid (E_7.out.trans (hb.mono E_7.out.size))
                  clear HT_7 HX_7 ks_7 L1_7 L2_7 E_7 x1 x2 hb
                  obtain ⟨x1, x2, -, -⟩ := id ks_8
                  go_wp2_with fail
                  refine (XT.out _ HX_8.out).mono ?_; rintro e w42 ⟨rfl, hb⟩
                  have HT_9 := Lib.hid (HT_8.out.keep hb)
                  have HX_9 := Lib.hid (HX_8.out.keep hb)
                  have ks_9 := ks_8.keep hb
                  have L1_9 := Lib.hid (L1_8.out.trans (hb.mono L1_8.out.size))
                  have L2_9 := Lib.hid (L2_8.out.trans (hb.mono L2_8.out.size))
                  have E_9 := Lib.hid (E_8.out.trans (hb.mono E_8.out.size))
                  clear HT_8 HX_8 ks_8 L1_8 L2_8 E_8 x1 x2 hb
                  obtain ⟨x1, x2, -, -⟩ := id ks_9
                  go_wp2
                  go_roundg (3 - (j + 1))
                  case measure => omega
                  case rel => exact ⟨j + 1, rfl, by omega, by go_num, L2_9.out⟩
                · have hoff : ¬ (j = n ∧ lo ≤ (k : Int) ∧ (k : Int) < hi) := fun h => hjn h.1
                  have hjn2 : ((j : Int) == (n : Int)) = false := by simp; omega
                  have mF := may_at hjl HQ.out hk0 hk1 false
                  have mT := may_at hjl HQ.out hk0 hk1 true
                  have xF := may_at hjl HXO.out hk0 hk1 false
                  have xT := may_at hjl HXO.out hk0 hk1 true
                  have hm := xv.out j (k : Int) hk0 hk1
                  rw [if_neg hoff] at hm
                  rw [hm] at xF xT
                  clear hm
                  obtain ⟨a, ha⟩ : ∃ a, decide (wantOf false ≤ mfn (T.getD j hd0) (k : Int)) = a := ⟨_, rfl⟩
                  obtain ⟨c, hc⟩ : ∃ c, decide (wantOf true ≤ mfn (T.getD j hd0) (k : Int)) = c := ⟨_, rfl⟩
                  rw [ha] at mF xF
                  rw [hc] at mT xT
                  have MF := Lib.hid (fun W h => implLockMay_any v T (j : Int) false (k : Int) ((k : Int) + 1) W h)
                  rw [mF] at MF
                  have MT := Lib.hid (fun W h => implLockMay_any v T (j : Int) true (k : Int) ((k : Int) + 1) W h)
                  rw [mT] at MT
                  have XF := Lib.hid (fun W h => implLockMay_any vx X (j : Int) false (k : Int) ((k : Int) + 1) W h)
                  rw [xF] at XF
                  have XT := Lib.hid (fun W h => implLockMay_any vx X (j : Int) true (k : Int) ((k : Int) + 1) W h)
                  rw [xT] at XT
                  clear mF mT xF xT ha hc
                  have ea : (a != a) = false := by cases a <;> rfl
                  have ec : (c != c) = false := by cases c <;> rfl
                  obtain ⟨x1, x2, -, -⟩ := id ks_5
                  go_wp2_with fail
                  refine (wpAt_any (k : Int) hk0 (by omega) _).mono ?_; rintro e w43 ⟨rfl, hb⟩
                  have HT_6 := Lib.hid (HT_5.out.keep hb)
                  have HX_6 := Lib.hid (HX_5.out.keep hb)
                  have ks_6 := ks_5.keep hb
                  have L1_6 := Lib.hid (L1_5.out.trans (hb.mono L1_5.out.size))
                  have L2_6 := Lib.hid (L2_0.out.trans (hb.mono L2_0.out.size))
                  have E_6 := Lib.hid (E_5.out.trans (hb.mono E_5.out.size))
                  clear HT_5 HX_5 ks_5 L1_5 L2_0 E_5 x1 x2 hb
                  obtain ⟨x1, x2, -, -⟩ := id ks_6
                  go_wp2_with fail
                  refine (XF.out _ HX_6.out).mono ?_; rintro e w44 ⟨rfl, hb⟩
                  have HT_7 := Lib.hid (HT_6.out.keep hb)
                  have HX_7 := Lib.hid (HX_6.out.keep hb)
                  have ks_7 := ks_6.keep hb
                  have L1_7 := Lib.hid (L1_6.out.trans (hb.mono L1_6.out.size))
                  have L2_7 := Lib.hid (L2_6.out.trans (hb.mono L2_6.out.size))
                  have E_7 := Lib.hid (E_6.out.trans (hb.mono E_6.out.size))
                  clear HT_6 HX_6 ks_6 L1_6 L2_6 E_6 x1 x2 hb
                  obtain ⟨x1, x2, -, -⟩ := id ks_7
                  go_wp2_with fail
                  refine (wpAt_any (k : Int) hk0 (by omega) _).mono ?_; rintro e w45 ⟨rfl, hb⟩
                  have HT_8 := Lib.hid (HT_7.out.keep hb)
                  have HX_8 := Lib.hid (HX_7.out.keep hb)
                  have ks_8 := ks_7.keep hb
                  have L1_8 := Lib.hid (L1_7.out.trans (hb.mono L1_7.out.size))
                  have L2_8 := Lib.hid (L2_7.out.trans (hb.mono L2_7.out.size))
                  have E_8 := Lib.hid (E_7.out.trans (hb.mono E_7.out.size))
                  clear HT_7 HX_7 ks_7 L1_7 L2_7 E_7 x1 x2 hb
                  obtain ⟨x1, x2, -, -⟩ := id ks_8
                  go_wp2_with fail
                  refine (XT.out _ HX_8.out).mono ?_; rintro e w46 ⟨rfl, hb⟩
                  have HT_9 := Lib.hid (HT_8.out.keep hb)
                  have HX_9 := Lib.hid (HX_8.out.keep hb)
                  have ks_9 := ks_8.keep hb
                  have L1_9 := Lib.hid (L1_8.out.trans (hb.mono L1_8.out.size))
                  have L2_9 := Lib.hid (L2_8.out.trans (hb.mono L2_8.out.size))
                  have E_9 := Lib.hid (E_8.out.trans (hb.mono E_8.out.size))
                  clear HT_8 HX_8 ks_8 L1_8 L2_8 E_8 x1 x2 hb
                  obtain ⟨x1, x2, -, -⟩ := id ks_9
                  go_wp2_with fail
                  refine (wpAt_any (k : Int) hk0 (by omega) _).mono ?_; rintro e w47 ⟨rfl, hb⟩
                  have HT_10 := Lib.hid (HT_9.out.keep hb)
                  have HX_10 := Lib.hid (HX_9.out.keep hb)
                  have ks_10 := ks_9.keep hb
                  have L1_10 := Lib.hid (L1_9.out.trans (hb.mono L1_9.out.size))
                  have L2_10 := Lib.hid (L2_9.out.trans (hb.mono L2_9.out.size))
                  have E_10 := Lib.hid (E_9.out.trans (hb.mono E_9.out.size))
                  clear HT_9 HX_9 ks_9 L1_9 L2_9 E_9 x1 x2 hb
                  obtain ⟨x1, x2, -, -⟩ := id ks_10
                  go_wp2_with fail
                  refine (MF.out _ HT_10.out).mono ?_; rintro e w48 ⟨rfl, hb⟩
                  have HT_11 := Lib.hid (HT_10.out.keep hb)
                  have HX_11 := Lib.hid (HX_10.out.keep hb)
                  have ks_11 := ks_10.keep hb
                  have L1_11 := Lib.hid (L1_10.out.trans (hb.mono L1_10.out.size))
                  have L2_11 := Lib.hid (L2_10.out.trans (hb.mono L2_10.out.size))
                  have E_11 := Lib.hid (E_10.out.trans (hb.mono E_10.out.size))
                  clear HT_10 HX_10 ks_10 L1_10 L2_10 E_10 x1 x2 hb
                  obtain ⟨x1, x2, -, -⟩ := id ks_11
                  go_wp2_with fail
                  refine (wpAt_any (k : Int) hk0 (by omega) _).mono ?_; rintro e w49 ⟨rfl, hb⟩
                  have HT_12 := Lib.hid (HT_11.out.keep hb)
                  have HX_12 := Lib.hid (HX_11.out.keep hb)
                  have ks_12 := ks_11.keep hb
                  have L1_12 := Lib.hid (L1_11.out.trans (hb.mono L1_11.out.size))
                  have L2_12 := Lib.hid (L2_11.out.trans (hb.mono L2_11.out.size))
                  have E_12 := Lib.hid (E_11.out.trans (hb.mono E_11.out.size))
                  clear HT_11 HX_11 ks_11 L1_11 L2_11 E_11 x1 x2 hb
                  obtain ⟨x1, x2, -, -⟩ := id ks_12
                  go_wp2_with fail
                  refine (MT.out _ HT_12.out).mono ?_; rintro e w50 ⟨rfl, hb⟩
                  have HT_13 := Lib.hid (HT_12.out.keep hb)
                  have HX_13 := Lib.hid (HX_12.out.keep hb)
                  have ks_13 := ks_12.keep hb
                  have L1_13 := Lib.hid (L1_12.out.trans (hb.mono L1_12.out.size))
                  have L2_13 := Lib.hid (L2_12.out.trans (hb.mono L2_12.out.size))
                  have E_13 := Lib.hid (E_12.out.trans (hb.mono E_12.out.size))
                  clear HT_12 HX_12 ks_12 L1_12 L2_12 E_12 x1 x2 hb
                  obtain ⟨x1, x2, -, -⟩ := id ks_13
                  go_wp2
                  go_roundg (3 - (j + 1))
                  case measure => omega
                  case rel => exact ⟨j + 1, rfl, by omega, by go_num, L2_13.out⟩
              · obtain ⟨x1, x2, -, -⟩ := id ks_5
                go_wp2
                go_roundg (48 - (k + 1))
                case measure => omega
                case rel => exact ⟨k + 1, rfl, by omega, by go_num, L1_5.out⟩
        · obtain ⟨x1, x2, -, -⟩ := id ks_4
          go_wp2_with fail
          refine (IG2.out _ HX_4.out).mono ?_; rintro e w51 ⟨vz, rfl, hz, hb⟩
          have HZ := Lib.hid hz.out.hds
          clear hz
          have HT_5 := Lib.hid (HT_4.out.keep hb)
          have HX_5 := Lib.hid (HX_4.out.keep hb)
          have ks_5 := ks_4.keep hb
          have L1_5 := Lib.hid (L1_0.out.trans (hb.mono L1_0.out.size))
          have E_5 := Lib.hid (E_4.out.trans (hb.mono E_4.out.size))
          clear HT_4 HX_4 ks_4 L1_0 E_4 x1 x2 hb
          obtain ⟨x1, x2, -, -⟩ := id ks_5
          go_wp2_with fail
          refine (O3.out _ HX_5.out).mono ?_; rintro e w52 ⟨rfl, hb⟩
          have HT_6 := Lib.hid (HT_5.out.keep hb)
          have HX_6 := Lib.hid (HX_5.out.keep hb)
          have HZ_6 := Lib.hid (HZ.out.keep hb)
          have ks_6 := ks_5.keep hb
          have L1_6 := Lib.hid (L1_5.out.trans (hb.mono L1_5.out.size))
          have E_6 := Lib.hid (E_5.out.trans (hb.mono E_5.out.size))
          clear HT_5 HX_5 HZ ks_5 L1_5 E_5 x1 x2 hb
          obtain ⟨x1, x2, -, -⟩ := id ks_6
          go_wp2_with fail
          refine (implLockSame_any vz vx X X _ HZ_6.out HX_6.out).mono ?_; rintro e w53 ⟨rfl, hb⟩
          rw [he.out]
          have HT_7 := Lib.hid (HT_6.out.keep hb)
          have HX_7 := Lib.hid (HX_6.out.keep hb)
          have HZ_7 := Lib.hid (HZ_6.out.keep hb)
          have ks_7 := ks_6.keep hb
          have L1_7 := Lib.hid (L1_6.out.trans (hb.mono L1_6.out.size))
          have E_7 := Lib.hid (E_6.out.trans (hb.mono E_6.out.size))
          clear HT_6 HX_6 HZ_6 ks_6 L1_6 E_6 x1 x2 hb
          obtain ⟨x1, x2, -, -⟩ := id ks_7
          go_wp2
          go_ret
          exact ⟨rfl, E_7.out⟩
  · go_enter Try.func6, Try.ntmps6
    go_wp2
    go_ret
    exact ⟨rfl, Below.refl _ _⟩

end Go.Proofs.Ytfifimdaepebeaa.fnLockDrop
