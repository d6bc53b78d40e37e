/-
  laws.FnLockGive returns true at every code: the walk of the law. No condition.
-/
import Derived.Test.YtfifimdaepebeaaDrawLk2
import Derived.Test.YtfifimdaepebeaaImplMay
import Derived.Test.YtfifimdaepebeaaSpecMay
import Derived.Test.YtfifimdaepebeaaLkMath
import Derived.Test.YtfifimdaepebeaaLkLaws
import Derived.Test.YtfifimdaepebeaaImplGive
import Derived.Test.YtfifimdaepebeaaSpecGive
import Derived.Test.YtfifimdaepebeaaLockSame
namespace Go.Proofs.Ytfifimdaepebeaa.fnLockGive
open Go.RowKit

set_option maxRecDepth 100000 in
set_option maxHeartbeats 8000000 in
theorem walk (v0 : Value) (len0 : Nat) (w : World) (h0 : Byt w v0 len0) :
    Calls Try.prog 3 #[v0] w fun e w' => e = .returned (.bool true) ∧ Below w.heap.size w w' := by
  have HB0 := Lib.hid h0
  have hlen0 : len0 ≤ 9223372036854775807 := by obtain ⟨z, a, cap, -, h1, h2, -⟩ := h0; unfold maxLen at h2; omega
  obtain ⟨z0, a0, cap0, rfl, -, -, -⟩ := h0
  by_cases hL : len0 ≤ 1048576
  · go_enter Try.func3, Try.ntmps3
    go_wp2_with fail
    refine (drawLockGive_any _ len0 _ HB0.out).mono ?_; rintro e w1 ⟨v, T, who, wr, lo, hi, rfl, hd, hb⟩
    have ks_0 := new_box w1 lo hi 25
    have hal : Below w1.heap.size w1 (w1.alloc (.cells #[.int .i64 lo, .int .i64 hi] 25)) := (Below.refl _ _).alloc (Nat.le_refl _) _
    have HT_0 := Lib.hid (hd.out _ (Btw.of_below hal))
    have E_0 := Lib.hid (hb.trans (hal.mono hb.size))
    clear hd hb hal HB0
    obtain ⟨⟨X, q⟩, hC⟩ : ∃ C, chT T who lo hi (fun x => mx x (wantOf wr)) = C := ⟨_, rfl⟩
    have IG := Lib.hid (fun W h => implGive_any v T who wr lo hi W h)
    rw [hC] at IG
    have SG := Lib.hid (fun W h => specGive_any v T who wr lo hi W h)
    rw [hC] at SG
    obtain ⟨p, hp⟩ : ∃ p, lockOkB T = p := ⟨_, rfl⟩
    have O1 := Lib.hid (fun W h => implLockOk_any v T W h)
    rw [hp] at O1
    have O2 := Lib.hid (fun W h => specLockOk_any v T W h)
    rw [hp] at O2
    have he := Lib.hid (eqT_self X)
    obtain ⟨x1, x2, -, -⟩ := id ks_0
    go_wp2_with fail
    refine (IG.out _ HT_0.out).mono ?_; rintro e w2 ⟨vx, rfl, hx, hb⟩
    have HX := Lib.hid hx.out.hds
    clear hx
    have HT_1 := Lib.hid (HT_0.out.keep hb)
    have ks_1 := ks_0.keep hb
    have E_1 := Lib.hid (E_0.out.trans (hb.mono E_0.out.size))
    clear HT_0 ks_0 E_0 x1 x2 hb
    obtain ⟨x1, x2, -, -⟩ := id ks_1
    go_wp2_with fail
    refine (SG.out _ HT_1.out).mono ?_; rintro e w3 ⟨vy, rfl, hy, hb⟩
    have HY := Lib.hid hy.out.hds
    clear hy
    have HT_2 := Lib.hid (HT_1.out.keep hb)
    have HX_2 := Lib.hid (HX.out.keep hb)
    have ks_2 := ks_1.keep hb
    have E_2 := Lib.hid (E_1.out.trans (hb.mono E_1.out.size))
    clear HT_1 HX ks_1 E_1 x1 x2 hb
    have hpp : (p != p) = false := by cases p <;> rfl
    cases q
    · have hn := chT_no (f := fun x => mx x (wantOf wr)) (by rw [hC])
      rw [hC, hp] at hn
      dsimp only at hn
      clear hC
      obtain ⟨x1, x2, -, -⟩ := id ks_2
      go_wp2_with fail
      refine (implLockSame_any vx vy X X _ HX_2.out HY.out).mono ?_; rintro e w4 ⟨rfl, hb⟩
      rw [he.out]
      have HT_3 := Lib.hid (HT_2.out.keep hb)
      have HX_3 := Lib.hid (HX_2.out.keep hb)
      have HY_3 := Lib.hid (HY.out.keep hb)
      have ks_3 := ks_2.keep hb
      have E_3 := Lib.hid (E_2.out.trans (hb.mono E_2.out.size))
      clear HT_2 HX_2 HY ks_2 E_2 x1 x2 hb
      obtain ⟨x1, x2, -, -⟩ := id ks_3
      go_wp2_with fail
      refine (O1.out _ HT_3.out).mono ?_; rintro e w5 ⟨rfl, hb⟩
      have HT_4 := Lib.hid (HT_3.out.keep hb)
      have HX_4 := Lib.hid (HX_3.out.keep hb)
      have HY_4 := Lib.hid (HY_3.out.keep hb)
      have ks_4 := ks_3.keep hb
      have E_4 := Lib.hid (E_3.out.trans (hb.mono E_3.out.size))
      clear HT_3 HX_3 HY_3 ks_3 E_3 x1 x2 hb
      obtain ⟨x1, x2, -, -⟩ := id ks_4
      go_wp2_with fail
      refine (O2.out _ HT_4.out).mono ?_; rintro e w6 ⟨rfl, hb⟩
      have HT_5 := Lib.hid (HT_4.out.keep hb)
      have HX_5 := Lib.hid (HX_4.out.keep hb)
      have HY_5 := Lib.hid (HY_4.out.keep hb)
      have ks_5 := ks_4.keep hb
      have E_5 := Lib.hid (E_4.out.trans (hb.mono E_4.out.size))
      clear HT_4 HX_4 HY_4 ks_4 E_4 x1 x2 hb
      rcases hn with ⟨rfl, rfl⟩ | ⟨rfl, rfl⟩
      · obtain ⟨x1, x2, -, -⟩ := id ks_5
        go_wp2_with fail
        refine (O2.out _ HT_5.out).mono ?_; rintro e w7 ⟨rfl, hb⟩
        have HT_6 := Lib.hid (HT_5.out.keep hb)
        have HX_6 := Lib.hid (HX_5.out.keep hb)
        have HY_6 := Lib.hid (HY_5.out.keep hb)
        have ks_6 := ks_5.keep hb
        have E_6 := Lib.hid (E_5.out.trans (hb.mono E_5.out.size))
        clear HT_5 HX_5 HY_5 ks_5 E_5 x1 x2 hb
        obtain ⟨x1, x2, -, -⟩ := id ks_6
        go_wp2_with fail
        refine (implLockSame_any vx v X X _ HX_6.out HT_6.out).mono ?_; rintro e w8 ⟨rfl, hb⟩
        rw [he.out]
        have HT_7 := Lib.hid (HT_6.out.keep hb)
        have HX_7 := Lib.hid (HX_6.out.keep hb)
        have HY_7 := Lib.hid (HY_6.out.keep hb)
        have ks_7 := ks_6.keep hb
        have E_7 := Lib.hid (E_6.out.trans (hb.mono E_6.out.size))
        clear HT_6 HX_6 HY_6 ks_6 E_6 x1 x2 hb
        obtain ⟨x1, x2, -, -⟩ := id ks_7
        go_wp2
        go_ret
        exact ⟨rfl, E_7.out⟩
      · obtain ⟨x1, x2, -, -⟩ := id ks_5
        go_wp2_with fail
        refine (O2.out _ HT_5.out).mono ?_; rintro e w9 ⟨rfl, hb⟩
        have HT_6 := Lib.hid (HT_5.out.keep hb)
        have HX_6 := Lib.hid (HX_5.out.keep hb)
        have HY_6 := Lib.hid (HY_5.out.keep hb)
        have ks_6 := ks_5.keep hb
        have E_6 := Lib.hid (E_5.out.trans (hb.mono E_5.out.size))
        clear HT_5 HX_5 HY_5 ks_5 E_5 x1 x2 hb
        obtain ⟨x1, x2, -, -⟩ := id ks_6
        go_wp2_with fail
        refine (O2.out _ HT_6.out).mono ?_; rintro e w10 ⟨rfl, hb⟩
        have HT_7 := Lib.hid (HT_6.out.keep hb)
        have HX_7 := Lib.hid (HX_6.out.keep hb)
        have HY_7 := Lib.hid (HY_6.out.keep hb)
        have ks_7 := ks_6.keep hb
        have E_7 := Lib.hid (E_6.out.trans (hb.mono E_6.out.size))
        clear HT_6 HX_6 HY_6 ks_6 E_6 x1 x2 hb
        obtain ⟨xa, xc, rfl, -, -, -⟩ := HX_7.out
        obtain ⟨x1, x2, -, -⟩ := id ks_7
        go_wp2
        go_ret
        exact ⟨rfl, E_7.out⟩
    · obtain ⟨n, hn3, rfl, hq, hs, hX, hxo⟩ := chT_true hC
      have h3 := ok_len hq
      obtain ⟨s0, s1, s2⟩ := spanOkB_iff.1 hs
      have xv : Hid (∀ j (i : Int), 0 ≤ i → i < 48 → mfn (X.getD j hd0) i = if j = n ∧ lo ≤ i ∧ i < hi then mx (mfn (T.getD j hd0) i) (wantOf wr) else mfn (T.getD j hd0) i) := fun j i h0 h1 => by rw [hX]; exact ch_mfn (F3_give wr) h3 hn3 h0 h1
      have m1 : mayB X (n : Int) wr lo hi = true := may_all hn3 hxo hs wr fun i a b => by
        rw [xv.out n i (by omega) (by omega), if_pos ⟨rfl, a, b⟩]
        rcases mfn_cases (T.getD n hd0) i with h | h | h <;> rw [h] <;> cases wr <;> decide
      have m2 := may_false m1
      have HQ := Lib.hid hq
      have HXO := Lib.hid hxo
      have O3 := Lib.hid (fun W h => implLockOk_any vx X W h)
      rw [hxo] at O3
      have M1 := Lib.hid (fun W h => implLockMay_any vx X (n : Int) wr lo hi W h)
      rw [m1] at M1
      have M2 := Lib.hid (fun W h => implLockMay_any vx X (n : Int) false lo hi W h)
      rw [m2] at M2
      clear hC hq hX hxo m1 m2 hs hp
      obtain ⟨x1, x2, -, -⟩ := id ks_2
      go_wp2_with fail
      refine (implLockSame_any vx vy X X _ HX_2.out HY.out).mono ?_; rintro e w11 ⟨rfl, hb⟩
      rw [he.out]
      have HT_3 := Lib.hid (HT_2.out.keep hb)
      have HX_3 := Lib.hid (HX_2.out.keep hb)
      have HY_3 := Lib.hid (HY.out.keep hb)
      have ks_3 := ks_2.keep hb
      have E_3 := Lib.hid (E_2.out.trans (hb.mono E_2.out.size))
      clear HT_2 HX_2 HY ks_2 E_2 x1 x2 hb
      obtain ⟨x1, x2, -, -⟩ := id ks_3
      go_wp2_with fail
      refine (O1.out _ HT_3.out).mono ?_; rintro e w12 ⟨rfl, hb⟩
      have HT_4 := Lib.hid (HT_3.out.keep hb)
      have HX_4 := Lib.hid (HX_3.out.keep hb)
      have HY_4 := Lib.hid (HY_3.out.keep hb)
      have ks_4 := ks_3.keep hb
      have E_4 := Lib.hid (E_3.out.trans (hb.mono E_3.out.size))
      clear HT_3 HX_3 HY_3 ks_3 E_3 x1 x2 hb
      obtain ⟨x1, x2, -, -⟩ := id ks_4
      go_wp2_with fail
      refine (O2.out _ HT_4.out).mono ?_; rintro e w13 ⟨rfl, hb⟩
      have HT_5 := Lib.hid (HT_4.out.keep hb)
      have HX_5 := Lib.hid (HX_4.out.keep hb)
      have HY_5 := Lib.hid (HY_4.out.keep hb)
      have ks_5 := ks_4.keep hb
      have E_5 := Lib.hid (E_4.out.trans (hb.mono E_4.out.size))
      clear HT_4 HX_4 HY_4 ks_4 E_4 x1 x2 hb
      obtain ⟨x1, x2, -, -⟩ := id ks_5
      go_wp2_with fail
      refine (O3.out _ HX_5.out).mono ?_; rintro e w14 ⟨rfl, hb⟩
      have HT_6 := Lib.hid (HT_5.out.keep hb)
      have HX_6 := Lib.hid (HX_5.out.keep hb)
      have HY_6 := Lib.hid (HY_5.out.keep hb)
      have ks_6 := ks_5.keep hb
      have E_6 := Lib.hid (E_5.out.trans (hb.mono E_5.out.size))
      clear HT_5 HX_5 HY_5 ks_5 E_5 x1 x2 hb
      obtain ⟨x1, x2, -, -⟩ := id ks_6
      go_wp2_with fail
      refine (M1.out _ HX_6.out).mono ?_; rintro e w15 ⟨rfl, hb⟩
      have HT_7 := Lib.hid (HT_6.out.keep hb)
      have HX_7 := Lib.hid (HX_6.out.keep hb)
      have HY_7 := Lib.hid (HY_6.out.keep hb)
      have ks_7 := ks_6.keep hb
      have E_7 := Lib.hid (E_6.out.trans (hb.mono E_6.out.size))
      clear HT_6 HX_6 HY_6 ks_6 E_6 x1 x2 hb
      obtain ⟨x1, x2, -, -⟩ := id ks_7
      go_wp2_with fail
      refine (M2.out _ HX_7.out).mono ?_; rintro e w16 ⟨rfl, hb⟩
      have HT_8 := Lib.hid (HT_7.out.keep hb)
      have HX_8 := Lib.hid (HX_7.out.keep hb)
      have HY_8 := Lib.hid (HY_7.out.keep hb)
      have ks_8 := ks_7.keep hb
      have E_8 := Lib.hid (E_7.out.trans (hb.mono E_7.out.size))
      clear HT_7 HX_7 HY_7 ks_7 E_7 x1 x2 hb
      clear HY_8
      clear O1 O2 O3 M1 M2 IG SG he hpp
      obtain ⟨x1, x2, -, -⟩ := id ks_8
      go_wp2_with fail
      go_loopg [11] 48 (fun g s11 wr => ∃ k : Nat, g = 48 - k ∧ k ≤ 48 ∧ s11 = .int .i64 k ∧ Below w16.heap.size w16 wr)
      case atStart => exact ⟨0, rfl, Nat.zero_le _, rfl, Below.refl _ _⟩
      case round =>
        obtain ⟨k, rfl, hk, rfl, hb⟩ := hrel
        clear x1 x2
        have L1_0 := Lib.hid hb
        have HT_9 := Lib.hid (HT_8.out.keep hb)
        have HX_9 := Lib.hid (HX_8.out.keep hb)
        have ks_9 := ks_8.keep hb
        have E_9 := Lib.hid (E_8.out.trans (hb.mono E_8.out.size))
        clear HT_8 HX_8 ks_8 E_8 hb
        by_cases hlt : k < 48
        · have hk0 : (0 : Int) ≤ (k : Int) := by omega
          have hk1 : (k : Int) < 48 := by omega
          obtain ⟨inn, hin⟩ : ∃ c, decide (lo ≤ (k : Int) ∧ (k : Int) < hi) = c := ⟨_, rfl⟩
          have hway : (inn = false ∧ ¬ lo ≤ (k : Int)) ∨ (inn = false ∧ lo ≤ (k : Int) ∧ ¬ (k : Int) < hi) ∨ (inn = true ∧ lo ≤ (k : Int) ∧ (k : Int) < hi) := by
            rw [← hin]
            by_cases c1 : lo ≤ (k : Int) <;> by_cases c2 : (k : Int) < hi <;> simp [c1, c2]
          rcases hway with ⟨rfl, c1⟩ | ⟨rfl, c1, c2⟩ | ⟨rfl, c1, c2⟩
          · have hnin : Hid (¬ (lo ≤ (k : Int) ∧ (k : Int) < hi)) := fun h => by omega
            clear hin
            obtain ⟨x1, x2, -, -⟩ := id ks_9
            go_wp2_with fail
            go_loopg [13] 3 (fun gi s13 wi => ∃ j : Nat, gi = 3 - j ∧ j ≤ 3 ∧ s13 = .int .i64 j ∧ Below wr.heap.size wr wi)
            case atStart => exact ⟨0, rfl, Nat.zero_le _, rfl, Below.refl _ _⟩
            case round =>
              obtain ⟨j, rfl, hj, rfl, hb⟩ := hrel
              clear x1 x2
              have L2_0 := Lib.hid hb
              have HT_10 := Lib.hid (HT_9.out.keep hb)
              have HX_10 := Lib.hid (HX_9.out.keep hb)
              have ks_10 := ks_9.keep hb
              have L1_10 := Lib.hid (L1_0.out.trans (hb.mono L1_0.out.size))
              have E_10 := Lib.hid (E_9.out.trans (hb.mono E_9.out.size))
              clear HT_9 HX_9 ks_9 L1_0 E_9 hb
              by_cases hjl : j < 3
              · have hoff : ¬ (j = n ∧ lo ≤ (k : Int) ∧ (k : Int) < hi) := fun h => hnin.out h.2
                by_cases hjn : j = n
                · subst hjn
                  have mF := may_at hjl HQ.out hk0 hk1 false
                  have mT := may_at hjl HQ.out hk0 hk1 true
                  have xF := may_at hjl HXO.out hk0 hk1 false
                  have xT := may_at hjl HXO.out hk0 hk1 true
                  have hm := xv.out j (k : Int) hk0 hk1
                  rw [if_neg hoff] at hm
                  rw [hm] at xF xT
                  clear hm
                  obtain ⟨a, ha⟩ : ∃ a, decide (wantOf false ≤ mfn (T.getD j hd0) (k : Int)) = a := ⟨_, rfl⟩
                  obtain ⟨c, hc⟩ : ∃ c, decide (wantOf true ≤ mfn (T.getD j hd0) (k : Int)) = c := ⟨_, rfl⟩
                  rw [ha] at mF xF
                  rw [hc] at mT xT
                  have MF := Lib.hid (fun W h => implLockMay_any v T (j : Int) false (k : Int) ((k : Int) + 1) W h)
                  rw [mF] at MF
                  have MT := Lib.hid (fun W h => implLockMay_any v T (j : Int) true (k : Int) ((k : Int) + 1) W h)
                  rw [mT] at MT
                  have XF := Lib.hid (fun W h => implLockMay_any vx X (j : Int) false (k : Int) ((k : Int) + 1) W h)
                  rw [xF] at XF
                  have XT := Lib.hid (fun W h => implLockMay_any vx X (j : Int) true (k : Int) ((k : Int) + 1) W h)
                  rw [xT] at XT
                  clear mF mT xF xT ha hc
                  have ea : (a != a) = false := by cases a <;> rfl
                  have ec : (c != c) = false := by cases c <;> rfl
                  obtain ⟨x1, x2, -, -⟩ := id ks_10
                  go_wp2_with fail
                  refine (wpAt_any (k : Int) hk0 (by omega) _).mono ?_; rintro e w17 ⟨rfl, hb⟩
                  have HT_11 := Lib.hid (HT_10.out.keep hb)
                  have HX_11 := Lib.hid (HX_10.out.keep hb)
                  have ks_11 := ks_10.keep hb
                  have L1_11 := Lib.hid (L1_10.out.trans (hb.mono L1_10.out.size))
                  have L2_11 := Lib.hid (L2_0.out.trans (hb.mono L2_0.out.size))
                  have E_11 := Lib.hid (E_10.out.trans (hb.mono E_10.out.size))
                  clear HT_10 HX_10 ks_10 L1_10 L2_0 E_10 x1 x2 hb
                  obtain ⟨x1, x2, -, -⟩ := id ks_11
                  go_wp2_with fail
                  refine (XF.out _ HX_11.out).mono ?_; rintro e w18 ⟨rfl, hb⟩
                  have HT_12 := Lib.hid (HT_11.out.keep hb)
                  have HX_12 := Lib.hid (HX_11.out.keep hb)
                  have ks_12 := ks_11.keep hb
                  have L1_12 := Lib.hid (L1_11.out.trans (hb.mono L1_11.out.size))
                  have L2_12 := Lib.hid (L2_11.out.trans (hb.mono L2_11.out.size))
                  have E_12 := Lib.hid (E_11.out.trans (hb.mono E_11.out.size))
                  clear HT_11 HX_11 ks_11 L1_11 L2_11 E_11 x1 x2 hb
                  obtain ⟨x1, x2, -, -⟩ := id ks_12
                  go_wp2_with fail
                  refine (wpAt_any (k : Int) hk0 (by omega) _).mono ?_; rintro e w19 ⟨rfl, hb⟩
                  have HT_13 := Lib.hid (HT_12.out.keep hb)
                  have HX_13 := Lib.hid (HX_12.out.keep hb)
                  have ks_13 := ks_12.keep hb
                  have L1_13 := Lib.hid (L1_12.out.trans (hb.mono L1_12.out.size))
                  have L2_13 := Lib.hid (L2_12.out.trans (hb.mono L2_12.out.size))
                  have E_13 := Lib.hid (E_12.out.trans (hb.mono E_12.out.size))
                  clear HT_12 HX_12 ks_12 L1_12 L2_12 E_12 x1 x2 hb
                  obtain ⟨x1, x2, -, -⟩ := id ks_13
                  go_wp2_with fail
                  refine (MF.out _ HT_13.out).mono ?_; rintro e w20 ⟨rfl, hb⟩
                  have HT_14 := Lib.hid (HT_13.out.keep hb)
                  have HX_14 := Lib.hid (HX_13.out.keep hb)
                  have ks_14 := ks_13.keep hb
                  have L1_14 := Lib.hid (L1_13.out.trans (hb.mono L1_13.out.size))
                  have L2_14 := Lib.hid (L2_13.out.trans (hb.mono L2_13.out.size))
                  have E_14 := Lib.hid (E_13.out.trans (hb.mono E_13.out.size))
                  clear HT_13 HX_13 ks_13 L1_13 L2_13 E_13 x1 x2 hb
                  obtain ⟨x1, x2, -, -⟩ := id ks_14
                  go_wp2_with fail
                  refine (wpAt_any (k : Int) hk0 (by omega) _).mono ?_; rintro e w21 ⟨rfl, hb⟩
                  have HT_15 := Lib.hid (HT_14.out.keep hb)
                  have HX_15 := Lib.hid (HX_14.out.keep hb)
                  have ks_15 := ks_14.keep hb
                  have L1_15 := Lib.hid (L1_14.out.trans (hb.mono L1_14.out.size))
                  have L2_15 := Lib.hid (L2_14.out.trans (hb.mono L2_14.out.size))
                  have E_15 := Lib.hid (E_14.out.trans (hb.mono E_14.out.size))
                  clear HT_14 HX_14 ks_14 L1_14 L2_14 E_14 x1 x2 hb
                  obtain ⟨x1, x2, -, -⟩ := id ks_15
                  go_wp2_with fail
                  refine (XT.out _ HX_15.out).mono ?_; rintro e w22 ⟨rfl, hb⟩
                  have HT_16 := Lib.hid (HT_15.out.keep hb)
                  have HX_16 := Lib.hid (HX_15.out.keep hb)
                  have ks_16 := ks_15.keep hb
                  have L1_16 := Lib.hid (L1_15.out.trans (hb.mono L1_15.out.size))
                  have L2_16 := Lib.hid (L2_15.out.trans (hb.mono L2_15.out.size))
                  have E_16 := Lib.hid (E_15.out.trans (hb.mono E_15.out.size))
                  clear HT_15 HX_15 ks_15 L1_15 L2_15 E_15 x1 x2 hb
                  obtain ⟨x1, x2, -, -⟩ := id ks_16
                  go_wp2_with fail
                  refine (wpAt_any (k : Int) hk0 (by omega) _).mono ?_; rintro e w23 ⟨rfl, hb⟩
                  have HT_17 := Lib.hid (HT_16.out.keep hb)
                  have HX_17 := Lib.hid (HX_16.out.keep hb)
                  have ks_17 := ks_16.keep hb
                  have L1_17 := Lib.hid (L1_16.out.trans (hb.mono L1_16.out.size))
                  have L2_17 := Lib.hid (L2_16.out.trans (hb.mono L2_16.out.size))
                  have E_17 := Lib.hid (E_16.out.trans (hb.mono E_16.out.size))
                  clear HT_16 HX_16 ks_16 L1_16 L2_16 E_16 x1 x2 hb
                  obtain ⟨x1, x2, -, -⟩ := id ks_17
                  go_wp2_with fail
                  refine (MT.out _ HT_17.out).mono ?_; rintro e w24 ⟨rfl, hb⟩
                  have HT_18 := Lib.hid (HT_17.out.keep hb)
                  have HX_18 := Lib.hid (HX_17.out.keep hb)
                  have ks_18 := ks_17.keep hb
                  have L1_18 := Lib.hid (L1_17.out.trans (hb.mono L1_17.out.size))
                  have L2_18 := Lib.hid (L2_17.out.trans (hb.mono L2_17.out.size))
                  have E_18 := Lib.hid (E_17.out.trans (hb.mono E_17.out.size))
                  clear HT_17 HX_17 ks_17 L1_17 L2_17 E_17 x1 x2 hb
                  obtain ⟨x1, x2, -, -⟩ := id ks_18
                  go_wp2
                  go_roundg (3 - (j + 1))
                  case measure => omega
                  case rel => exact ⟨j + 1, rfl, by omega, by go_num, L2_18.out⟩
                · have hjn2 : ((j : Int) == (n : Int)) = false := by simp; omega
                  have mF := may_at hjl HQ.out hk0 hk1 false
                  have mT := may_at hjl HQ.out hk0 hk1 true
                  have xF := may_at hjl HXO.out hk0 hk1 false
                  have xT := may_at hjl HXO.out hk0 hk1 true
                  have hm := xv.out j (k : Int) hk0 hk1
                  rw [if_neg hoff] at hm
                  rw [hm] at xF xT
                  clear hm
                  obtain ⟨a, ha⟩ : ∃ a, decide (wantOf false ≤ mfn (T.getD j hd0) (k : Int)) = a := ⟨_, rfl⟩
                  obtain ⟨c, hc⟩ : ∃ c, decide (wantOf true ≤ mfn (T.getD j hd0) (k : Int)) = c := ⟨_, rfl⟩
                  rw [ha] at mF xF
                  rw [hc] at mT xT
                  have MF := Lib.hid (fun W h => implLockMay_any v T (j : Int) false (k : Int) ((k : Int) + 1) W h)
                  rw [mF] at MF
                  have MT := Lib.hid (fun W h => implLockMay_any v T (j : Int) true (k : Int) ((k : Int) + 1) W h)
                  rw [mT] at MT
                  have XF := Lib.hid (fun W h => implLockMay_any vx X (j : Int) false (k : Int) ((k : Int) + 1) W h)
                  rw [xF] at XF
                  have XT := Lib.hid (fun W h => implLockMay_any vx X (j : Int) true (k : Int) ((k : Int) + 1) W h)
                  rw [xT] at XT
                  clear mF mT xF xT ha hc
                  have ea : (a != a) = false := by cases a <;> rfl
                  have ec : (c != c) = false := by cases c <;> rfl
                  obtain ⟨x1, x2, -, -⟩ := id ks_10
                  go_wp2_with fail
                  refine (wpAt_any (k : Int) hk0 (by omega) _).mono ?_; rintro e w25 ⟨rfl, hb⟩
                  have HT_11 := Lib.hid (HT_10.out.keep hb)
                  have HX_11 := Lib.hid (HX_10.out.keep hb)
                  have ks_11 := ks_10.keep hb
                  have L1_11 := Lib.hid (L1_10.out.trans (hb.mono L1_10.out.size))
                  have L2_11 := Lib.hid (L2_0.out.trans (hb.mono L2_0.out.size))
                  have E_11 := Lib.hid (E_10.out.trans (hb.mono E_10.out.size))
                  clear HT_10 HX_10 ks_10 L1_10 L2_0 E_10 x1 x2 hb
                  obtain ⟨x1, x2, -, -⟩ := id ks_11
                  go_wp2_with fail
                  refine (XF.out _ HX_11.out).mono ?_; rintro e w26 ⟨rfl, hb⟩
                  have HT_12 := Lib.hid (HT_11.out.keep hb)
                  have HX_12 := Lib.hid (HX_11.out.keep hb)
                  have ks_12 := ks_11.keep hb
                  have L1_12 := Lib.hid (L1_11.out.trans (hb.mono L1_11.out.size))
                  have L2_12 := Lib.hid (L2_11.out.trans (hb.mono L2_11.out.size))
                  have E_12 := Lib.hid (E_11.out.trans (hb.mono E_11.out.size))
                  clear HT_11 HX_11 ks_11 L1_11 L2_11 E_11 x1 x2 hb
                  obtain ⟨x1, x2, -, -⟩ := id ks_12
                  go_wp2_with fail
                  refine (wpAt_any (k : Int) hk0 (by omega) _).mono ?_; rintro e w27 ⟨rfl, hb⟩
                  have HT_13 := Lib.hid (HT_12.out.keep hb)
                  have HX_13 := Lib.hid (HX_12.out.keep hb)
                  have ks_13 := ks_12.keep hb
                  have L1_13 := Lib.hid (L1_12.out.trans (hb.mono L1_12.out.size))
                  have L2_13 := Lib.hid (L2_12.out.trans (hb.mono L2_12.out.size))
                  have E_13 := Lib.hid (E_12.out.trans (hb.mono E_12.out.size))
                  clear HT_12 HX_12 ks_12 L1_12 L2_12 E_12 x1 x2 hb
                  obtain ⟨x1, x2, -, -⟩ := id ks_13
                  go_wp2_with fail
                  refine (MF.out _ HT_13.out).mono ?_; rintro e w28 ⟨rfl, hb⟩
                  have HT_14 := Lib.hid (HT_13.out.keep hb)
                  have HX_14 := Lib.hid (HX_13.out.keep hb)
                  have ks_14 := ks_13.keep hb
                  have L1_14 := Lib.hid (L1_13.out.trans (hb.mono L1_13.out.size))
                  have L2_14 := Lib.hid (L2_13.out.trans (hb.mono L2_13.out.size))
                  have E_14 := Lib.hid (E_13.out.trans (hb.mono E_13.out.size))
                  clear HT_13 HX_13 ks_13 L1_13 L2_13 E_13 x1 x2 hb
                  obtain ⟨x1, x2, -, -⟩ := id ks_14
                  go_wp2_with fail
                  refine (wpAt_any (k : Int) hk0 (by omega) _).mono ?_; rintro e w29 ⟨rfl, hb⟩
                  have HT_15 := Lib.hid (HT_14.out.keep hb)
                  have HX_15 := Lib.hid (HX_14.out.keep hb)
                  have ks_15 := ks_14.keep hb
                  have L1_15 := Lib.hid (L1_14.out.trans (hb.mono L1_14.out.size))
                  have L2_15 := Lib.hid (L2_14.out.trans (hb.mono L2_14.out.size))
                  have E_15 := Lib.hid (E_14.out.trans (hb.mono E_14.out.size))
                  clear HT_14 HX_14 ks_14 L1_14 L2_14 E_14 x1 x2 hb
                  obtain ⟨x1, x2, -, -⟩ := id ks_15
                  go_wp2_with fail
                  refine (XT.out _ HX_15.out).mono ?_; rintro e w30 ⟨rfl, hb⟩
                  have HT_16 := Lib.hid (HT_15.out.keep hb)
                  have HX_16 := Lib.hid (HX_15.out.keep hb)
                  have ks_16 := ks_15.keep hb
                  have L1_16 := Lib.hid (L1_15.out.trans (hb.mono L1_15.out.size))
                  have L2_16 := Lib.hid (L2_15.out.trans (hb.mono L2_15.out.size))
                  have E_16 := Lib.hid (E_15.out.trans (hb.mono E_15.out.size))
                  clear HT_15 HX_15 ks_15 L1_15 L2_15 E_15 x1 x2 hb
                  obtain ⟨x1, x2, -, -⟩ := id ks_16
                  go_wp2_with fail
                  refine (wpAt_any (k : Int) hk0 (by omega) _).mono ?_; rintro e w31 ⟨rfl, hb⟩
                  have HT_17 := Lib.hid (HT_16.out.keep hb)
                  have HX_17 := Lib.hid (HX_16.out.keep hb)
                  have ks_17 := ks_16.keep hb
                  have L1_17 := Lib.hid (L1_16.out.trans (hb.mono L1_16.out.size))
                  have L2_17 := Lib.hid (L2_16.out.trans (hb.mono L2_16.out.size))
                  have E_17 := Lib.hid (E_16.out.trans (hb.mono E_16.out.size))
                  clear HT_16 HX_16 ks_16 L1_16 L2_16 E_16 x1 x2 hb
                  obtain ⟨x1, x2, -, -⟩ := id ks_17
                  go_wp2_with fail
                  refine (MT.out _ HT_17.out).mono ?_; rintro e w32 ⟨rfl, hb⟩
                  have HT_18 := Lib.hid (HT_17.out.keep hb)
                  have HX_18 := Lib.hid (HX_17.out.keep hb)
                  have ks_18 := ks_17.keep hb
                  have L1_18 := Lib.hid (L1_17.out.trans (hb.mono L1_17.out.size))
                  have L2_18 := Lib.hid (L2_17.out.trans (hb.mono L2_17.out.size))
                  have E_18 := Lib.hid (E_17.out.trans (hb.mono E_17.out.size))
                  clear HT_17 HX_17 ks_17 L1_17 L2_17 E_17 x1 x2 hb
                  obtain ⟨x1, x2, -, -⟩ := id ks_18
                  go_wp2
                  go_roundg (3 - (j + 1))
                  case measure => omega
                  case rel => exact ⟨j + 1, rfl, by omega, by go_num, L2_18.out⟩
              · obtain ⟨x1, x2, -, -⟩ := id ks_10
                go_wp2
                go_roundg (48 - (k + 1))
                case measure => omega
                case rel => exact ⟨k + 1, rfl, by omega, by go_num, L1_10.out⟩
          · have hnin : Hid (¬ (lo ≤ (k : Int) ∧ (k : Int) < hi)) := fun h => by omega
            clear hin
            obtain ⟨x1, x2, -, -⟩ := id ks_9
            go_wp2_with fail
            go_loopg [13] 3 (fun gi s13 wi => ∃ j : Nat, gi = 3 - j ∧ j ≤ 3 ∧ s13 = .int .i64 j ∧ Below wr.heap.size wr wi)
            case atStart => exact ⟨0, rfl, Nat.zero_le _, rfl, Below.refl _ _⟩
            case round =>
              obtain ⟨j, rfl, hj, rfl, hb⟩ := hrel
              clear x1 x2
              have L2_0 := Lib.hid hb
              have HT_10 := Lib.hid (HT_9.out.keep hb)
              have HX_10 := Lib.hid (HX_9.out.keep hb)
              have ks_10 := ks_9.keep hb
              have L1_10 := Lib.hid (L1_0.out.trans (hb.mono L1_0.out.size))
              have E_10 := Lib.hid (E_9.out.trans (hb.mono E_9.out.size))
              clear HT_9 HX_9 ks_9 L1_0 E_9 hb
              by_cases hjl : j < 3
              · have hoff : ¬ (j = n ∧ lo ≤ (k : Int) ∧ (k : Int) < hi) := fun h => hnin.out h.2
                by_cases hjn : j = n
                · subst hjn
                  have mF := may_at hjl HQ.out hk0 hk1 false
                  have mT := may_at hjl HQ.out hk0 hk1 true
                  have xF := may_at hjl HXO.out hk0 hk1 false
                  have xT := may_at hjl HXO.out hk0 hk1 true
                  have hm := xv.out j (k : Int) hk0 hk1
                  rw [if_neg hoff] at hm
                  rw [hm] at xF xT
                  clear hm
                  obtain ⟨a, ha⟩ : ∃ a, decide (wantOf false ≤ mfn (T.getD j hd0) (k : Int)) = a := ⟨_, rfl⟩
                  obtain ⟨c, hc⟩ : ∃ c, decide (wantOf true ≤ mfn (T.getD j hd0) (k : Int)) = c := ⟨_, rfl⟩
                  rw [ha] at mF xF
                  rw [hc] at mT xT
                  have MF := Lib.hid (fun W h => implLockMay_any v T (j : Int) false (k : Int) ((k : Int) + 1) W h)
                  rw [mF] at MF
                  have MT := Lib.hid (fun W h => implLockMay_any v T (j : Int) true (k : Int) ((k : Int) + 1) W h)
                  rw [mT] at MT
                  have XF := Lib.hid (fun W h => implLockMay_any vx X (j : Int) false (k : Int) ((k : Int) + 1) W h)
                  rw [xF] at XF
                  have XT := Lib.hid (fun W h => implLockMay_any vx X (j : Int) true (k : Int) ((k : Int) + 1) W h)
                  rw [xT] at XT
                  clear mF mT xF xT ha hc
                  have ea : (a != a) = false := by cases a <;> rfl
                  have ec : (c != c) = false := by cases c <;> rfl
                  obtain ⟨x1, x2, -, -⟩ := id ks_10
                  go_wp2_with fail
                  refine (wpAt_any (k : Int) hk0 (by omega) _).mono ?_; rintro e w33 ⟨rfl, hb⟩
                  have HT_11 := Lib.hid (HT_10.out.keep hb)
                  have HX_11 := Lib.hid (HX_10.out.keep hb)
                  have ks_11 := ks_10.keep hb
                  have L1_11 := Lib.hid (L1_10.out.trans (hb.mono L1_10.out.size))
                  have L2_11 := Lib.hid (L2_0.out.trans (hb.mono L2_0.out.size))
                  have E_11 := Lib.hid (E_10.out.trans (hb.mono E_10.out.size))
                  clear HT_10 HX_10 ks_10 L1_10 L2_0 E_10 x1 x2 hb
                  obtain ⟨x1, x2, -, -⟩ := id ks_11
                  go_wp2_with fail
                  refine (XF.out _ HX_11.out).mono ?_; rintro e w34 ⟨rfl, hb⟩
                  have HT_12 := Lib.hid (HT_11.out.keep hb)
                  have HX_12 := Lib.hid (HX_11.out.keep hb)
                  have ks_12 := ks_11.keep hb
                  have L1_12 := Lib.hid (L1_11.out.trans (hb.mono L1_11.out.size))
                  have L2_12 := Lib.hid (L2_11.out.trans (hb.mono L2_11.out.size))
                  have E_12 := Lib.hid (E_11.out.trans (hb.mono E_11.out.size))
                  clear HT_11 HX_11 ks_11 L1_11 L2_11 E_11 x1 x2 hb
                  obtain ⟨x1, x2, -, -⟩ := id ks_12
                  go_wp2_with fail
                  refine (wpAt_any (k : Int) hk0 (by omega) _).mono ?_; rintro e w35 ⟨rfl, hb⟩
                  have HT_13 := Lib.hid (HT_12.out.keep hb)
                  have HX_13 := Lib.hid (HX_12.out.keep hb)
                  have ks_13 := ks_12.keep hb
                  have L1_13 := Lib.hid (L1_12.out.trans (hb.mono L1_12.out.size))
                  have L2_13 := Lib.hid (L2_12.out.trans (hb.mono L2_12.out.size))
                  have E_13 := Lib.hid (E_12.out.trans (hb.mono E_12.out.size))
                  clear HT_12 HX_12 ks_12 L1_12 L2_12 E_12 x1 x2 hb
                  obtain ⟨x1, x2, -, -⟩ := id ks_13
                  go_wp2_with fail
                  refine (MF.out _ HT_13.out).mono ?_; rintro e w36 ⟨rfl, hb⟩
                  have HT_14 := Lib.hid (HT_13.out.keep hb)
                  have HX_14 := Lib.hid (HX_13.out.keep hb)
                  have ks_14 := ks_13.keep hb
                  have L1_14 := Lib.hid (L1_13.out.trans (hb.mono L1_13.out.size))
                  have L2_14 := Lib.hid (L2_13.out.trans (hb.mono L2_13.out.size))
                  have E_14 := Lib.hid (E_13.out.trans (hb.mono E_13.out.size))
                  clear HT_13 HX_13 ks_13 L1_13 L2_13 E_13 x1 x2 hb
                  obtain ⟨x1, x2, -, -⟩ := id ks_14
                  go_wp2_with fail
                  refine (wpAt_any (k : Int) hk0 (by omega) _).mono ?_; rintro e w37 ⟨rfl, hb⟩
                  have HT_15 := Lib.hid (HT_14.out.keep hb)
                  have HX_15 := Lib.hid (HX_14.out.keep hb)
                  have ks_15 := ks_14.keep hb
                  have L1_15 := Lib.hid (L1_14.out.trans (hb.mono L1_14.out.size))
                  have L2_15 := Lib.hid (L2_14.out.trans (hb.mono L2_14.out.size))
                  have E_15 := Lib.hid (E_14.out.trans (hb.mono E_14.out.size))
                  clear HT_14 HX_14 ks_14 L1_14 L2_14 E_14 x1 x2 hb
                  obtain ⟨x1, x2, -, -⟩ := id ks_15
                  go_wp2_with fail
                  refine (XT.out _ HX_15.out).mono ?_; rintro e w38 ⟨rfl, hb⟩
                  have HT_16 := Lib.hid (HT_15.out.keep hb)
                  have HX_16 := Lib.hid (HX_15.out.keep hb)
                  have ks_16 := ks_15.keep hb
                  have L1_16 := Lib.hid (L1_15.out.trans (hb.mono L1_15.out.size))
                  have L2_16 := Lib.hid (L2_15.out.trans (hb.mono L2_15.out.size))
                  have E_16 := Lib.hid (E_15.out.trans (hb.mono E_15.out.size))
                  clear HT_15 HX_15 ks_15 L1_15 L2_15 E_15 x1 x2 hb
                  obtain ⟨x1, x2, -, -⟩ := id ks_16
                  go_wp2_with fail
                  refine (wpAt_any (k : Int) hk0 (by omega) _).mono ?_; rintro e w39 ⟨rfl, hb⟩
                  have HT_17 := Lib.hid (HT_16.out.keep hb)
                  have HX_17 := Lib.hid (HX_16.out.keep hb)
                  have ks_17 := ks_16.keep hb
                  have L1_17 := Lib.hid (L1_16.out.trans (hb.mono L1_16.out.size))
                  have L2_17 := Lib.hid (L2_16.out.trans (hb.mono L2_16.out.size))
                  have E_17 := Lib.hid (E_16.out.trans (hb.mono E_16.out.size))
                  clear HT_16 HX_16 ks_16 L1_16 L2_16 E_16 x1 x2 hb
                  obtain ⟨x1, x2, -, -⟩ := id ks_17
                  go_wp2_with fail
                  refine (MT.out _ HT_17.out).mono ?_; rintro e w40 ⟨rfl, hb⟩
                  have HT_18 := Lib.hid (HT_17.out.keep hb)
                  have HX_18 := Lib.hid (HX_17.out.keep hb)
                  have ks_18 := ks_17.keep hb
                  have L1_18 := Lib.hid (L1_17.out.trans (hb.mono L1_17.out.size))
                  have L2_18 := Lib.hid (L2_17.out.trans (hb.mono L2_17.out.size))
                  have E_18 := Lib.hid (E_17.out.trans (hb.mono E_17.out.size))
                  clear HT_17 HX_17 ks_17 L1_17 L2_17 E_17 x1 x2 hb
                  obtain ⟨x1, x2, -, -⟩ := id ks_18
                  go_wp2
                  go_roundg (3 - (j + 1))
                  case measure => omega
                  case rel => exact ⟨j + 1, rfl, by omega, by go_num, L2_18.out⟩
                · have hjn2 : ((j : Int) == (n : Int)) = false := by simp; omega
                  have mF := may_at hjl HQ.out hk0 hk1 false
                  have mT := may_at hjl HQ.out hk0 hk1 true
                  have xF := may_at hjl HXO.out hk0 hk1 false
                  have xT := may_at hjl HXO.out hk0 hk1 true
                  have hm := xv.out j (k : Int) hk0 hk1
                  rw [if_neg hoff] at hm
                  rw [hm] at xF xT
                  clear hm
                  obtain ⟨a, ha⟩ : ∃ a, decide (wantOf false ≤ mfn (T.getD j hd0) (k : Int)) = a := ⟨_, rfl⟩
                  obtain ⟨c, hc⟩ : ∃ c, decide (wantOf true ≤ mfn (T.getD j hd0) (k : Int)) = c := ⟨_, rfl⟩
                  rw [ha] at mF xF
                  rw [hc] at mT xT
                  have MF := Lib.hid (fun W h => implLockMay_any v T (j : Int) false (k : Int) ((k : Int) + 1) W h)
                  rw [mF] at MF
                  have MT := Lib.hid (fun W h => implLockMay_any v T (j : Int) true (k : Int) ((k : Int) + 1) W h)
                  rw [mT] at MT
                  have XF := Lib.hid (fun W h => implLockMay_any vx X (j : Int) false (k : Int) ((k : Int) + 1) W h)
                  rw [xF] at XF
                  have XT := Lib.hid (fun W h => implLockMay_any vx X (j : Int) true (k : Int) ((k : Int) + 1) W h)
                  rw [xT] at XT
                  clear mF mT xF xT ha hc
                  have ea : (a != a) = false := by cases a <;> rfl
                  have ec : (c != c) = false := by cases c <;> rfl
                  obtain ⟨x1, x2, -, -⟩ := id ks_10
                  go_wp2_with fail
                  refine (wpAt_any (k : Int) hk0 (by omega) _).mono ?_; rintro e w41 ⟨rfl, hb⟩
                  have HT_11 := Lib.hid (HT_10.out.keep hb)
                  have HX_11 := Lib.hid (HX_10.out.keep hb)
                  have ks_11 := ks_10.keep hb
                  have L1_11 := Lib.hid (L1_10.out.trans (hb.mono L1_10.out.size))
                  have L2_11 := Lib.hid (L2_0.out.trans (hb.mono L2_0.out.size))
                  have E_11 := Lib.hid (E_10.out.trans (hb.mono E_10.out.size))
                  clear HT_10 HX_10 ks_10 L1_10 L2_0 E_10 x1 x2 hb
                  obtain ⟨x1, x2, -, -⟩ := id ks_11
                  go_wp2_with fail
                  refine (XF.out _ HX_11.out).mono ?_; rintro e w42 ⟨rfl, hb⟩
                  have HT_12 := Lib.hid (HT_11.out.keep hb)
                  have HX_12 := Lib.hid (HX_11.out.keep hb)
                  have ks_12 := ks_11.keep hb
                  have L1_12 := Lib.hid (L1_11.out.trans (hb.mono L1_11.out.size))
                  have L2_12 := Lib.hid (L2_11.out.trans (hb.mono L2_11.out.size))
                  have E_12 := Lib.hid (E_11.out.trans (hb.mono E_11.out.size))
                  clear HT_11 HX_11 ks_11 L1_11 L2_11 E_11 x1 x2 hb
                  obtain ⟨x1, x2, -, -⟩ := id ks_12
                  go_wp2_with fail
                  refine (wpAt_any (k : Int) hk0 (by omega) _).mono ?_; rintro e w43 ⟨rfl, hb⟩
                  have HT_13 := Lib.hid (HT_12.out.keep hb)
                  have HX_13 := Lib.hid (HX_12.out.keep hb)
                  have ks_13 := ks_12.keep hb
                  have L1_13 := Lib.hid (L1_12.out.trans (hb.mono L1_12.out.size))
                  have L2_13 := Lib.hid (L2_12.out.trans (hb.mono L2_12.out.size))
                  have E_13 := Lib.hid (E_12.out.trans (hb.mono E_12.out.size))
                  clear HT_12 HX_12 ks_12 L1_12 L2_12 E_12 x1 x2 hb
                  obtain ⟨x1, x2, -, -⟩ := id ks_13
                  go_wp2_with fail
                  refine (MF.out _ HT_13.out).mono ?_; rintro e w44 ⟨rfl, hb⟩
                  have HT_14 := Lib.hid (HT_13.out.keep hb)
                  have HX_14 := Lib.hid (HX_13.out.keep hb)
                  have ks_14 := ks_13.keep hb
                  have L1_14 := Lib.hid (L1_13.out.trans (hb.mono L1_13.out.size))
                  have L2_14 := Lib.hid (L2_13.out.trans (hb.mono L2_13.out.size))
                  have E_14 := Lib.hid (E_13.out.trans (hb.mono E_13.out.size))
                  clear HT_13 HX_13 ks_13 L1_13 L2_13 E_13 x1 x2 hb
                  obtain ⟨x1, x2, -, -⟩ := id ks_14
                  go_wp2_with fail
                  refine (wpAt_any (k : Int) hk0 (by omega) _).mono ?_; rintro e w45 ⟨rfl, hb⟩
                  have HT_15 := Lib.hid (HT_14.out.keep hb)
                  have HX_15 := Lib.hid (HX_14.out.keep hb)
                  have ks_15 := ks_14.keep hb
                  have L1_15 := Lib.hid (L1_14.out.trans (hb.mono L1_14.out.size))
                  have L2_15 := Lib.hid (L2_14.out.trans (hb.mono L2_14.out.size))
                  have E_15 := Lib.hid (E_14.out.trans (hb.mono E_14.out.size))
                  clear HT_14 HX_14 ks_14 L1_14 L2_14 E_14 x1 x2 hb
                  obtain ⟨x1, x2, -, -⟩ := id ks_15
                  go_wp2_with fail
                  refine (XT.out _ HX_15.out).mono ?_; rintro e w46 ⟨rfl, hb⟩
                  have HT_16 := Lib.hid (HT_15.out.keep hb)
                  have HX_16 := Lib.hid (HX_15.out.keep hb)
                  have ks_16 := ks_15.keep hb
                  have L1_16 := Lib.hid (L1_15.out.trans (hb.mono L1_15.out.size))
                  have L2_16 := Lib.hid (L2_15.out.trans (hb.mono L2_15.out.size))
                  have E_16 := Lib.hid (E_15.out.trans (hb.mono E_15.out.size))
                  clear HT_15 HX_15 ks_15 L1_15 L2_15 E_15 x1 x2 hb
                  obtain ⟨x1, x2, -, -⟩ := id ks_16
                  go_wp2_with fail
                  refine (wpAt_any (k : Int) hk0 (by omega) _).mono ?_; rintro e w47 ⟨rfl, hb⟩
                  have HT_17 := Lib.hid (HT_16.out.keep hb)
                  have HX_17 := Lib.hid (HX_16.out.keep hb)
                  have ks_17 := ks_16.keep hb
                  have L1_17 := Lib.hid (L1_16.out.trans (hb.mono L1_16.out.size))
                  have L2_17 := Lib.hid (L2_16.out.trans (hb.mono L2_16.out.size))
                  have E_17 := Lib.hid (E_16.out.trans (hb.mono E_16.out.size))
                  clear HT_16 HX_16 ks_16 L1_16 L2_16 E_16 x1 x2 hb
                  obtain ⟨x1, x2, -, -⟩ := id ks_17
                  go_wp2_with fail
                  refine (MT.out _ HT_17.out).mono ?_; rintro e w48 ⟨rfl, hb⟩
                  have HT_18 := Lib.hid (HT_17.out.keep hb)
                  have HX_18 := Lib.hid (HX_17.out.keep hb)
                  have ks_18 := ks_17.keep hb
                  have L1_18 := Lib.hid (L1_17.out.trans (hb.mono L1_17.out.size))
                  have L2_18 := Lib.hid (L2_17.out.trans (hb.mono L2_17.out.size))
                  have E_18 := Lib.hid (E_17.out.trans (hb.mono E_17.out.size))
                  clear HT_17 HX_17 ks_17 L1_17 L2_17 E_17 x1 x2 hb
                  obtain ⟨x1, x2, -, -⟩ := id ks_18
                  go_wp2
                  go_roundg (3 - (j + 1))
                  case measure => omega
                  case rel => exact ⟨j + 1, rfl, by omega, by go_num, L2_18.out⟩
              · obtain ⟨x1, x2, -, -⟩ := id ks_10
                go_wp2
                go_roundg (48 - (k + 1))
                case measure => omega
                case rel => exact ⟨k + 1, rfl, by omega, by go_num, L1_10.out⟩
          · have hnin : Hid (lo ≤ (k : Int) ∧ (k : Int) < hi) := ⟨c1, c2⟩
            clear hin
            obtain ⟨x1, x2, -, -⟩ := id ks_9
            go_wp2_with fail
            go_loopg [13] 3 (fun gi s13 wi => ∃ j : Nat, gi = 3 - j ∧ j ≤ 3 ∧ s13 = .int .i64 j ∧ Below wr.heap.size wr wi)
            case atStart => exact ⟨0, rfl, Nat.zero_le _, rfl, Below.refl _ _⟩
            case round =>
              obtain ⟨j, rfl, hj, rfl, hb⟩ := hrel
              clear x1 x2
              have L2_0 := Lib.hid hb
              have HT_10 := Lib.hid (HT_9.out.keep hb)
              have HX_10 := Lib.hid (HX_9.out.keep hb)
              have ks_10 := ks_9.keep hb
              have L1_10 := Lib.hid (L1_0.out.trans (hb.mono L1_0.out.size))
              have E_10 := Lib.hid (E_9.out.trans (hb.mono E_9.out.size))
              clear HT_9 HX_9 ks_9 L1_0 E_9 hb
              by_cases hjl : j < 3
              · by_cases hjn : j = n
                · subst hjn
                  obtain ⟨x1, x2, -, -⟩ := id ks_10
                  go_wp2
                  go_roundg (3 - (j + 1))
                  case measure => omega
                  case rel => exact ⟨j + 1, rfl, by omega, by go_num, L2_0.out⟩
                · have hoff : ¬ (j = n ∧ lo ≤ (k : Int) ∧ (k : Int) < hi) := fun h => hjn h.1
                  have hjn2 : ((j : Int) == (n : Int)) = false := by simp; omega
                  have mF := may_at hjl HQ.out hk0 hk1 false
                  have mT := may_at hjl HQ.out hk0 hk1 true
                  have xF := may_at hjl HXO.out hk0 hk1 false
                  have xT := may_at hjl HXO.out hk0 hk1 true
                  have hm := xv.out j (k : Int) hk0 hk1
                  rw [if_neg hoff] at hm
                  rw [hm] at xF xT
                  clear hm
                  obtain ⟨a, ha⟩ : ∃ a, decide (wantOf false ≤ mfn (T.getD j hd0) (k : Int)) = a := ⟨_, rfl⟩
                  obtain ⟨c, hc⟩ : ∃ c, decide (wantOf true ≤ mfn (T.getD j hd0) (k : Int)) = c := ⟨_, rfl⟩
                  rw [ha] at mF xF
                  rw [hc] at mT xT
                  have MF := Lib.hid (fun W h => implLockMay_any v T (j : Int) false (k : Int) ((k : Int) + 1) W h)
                  rw [mF] at MF
                  have MT := Lib.hid (fun W h => implLockMay_any v T (j : Int) true (k : Int) ((k : Int) + 1) W h)
                  rw [mT] at MT
                  have XF := Lib.hid (fun W h => implLockMay_any vx X (j : Int) false (k : Int) ((k : Int) + 1) W h)
                  rw [xF] at XF
                  have XT := Lib.hid (fun W h => implLockMay_any vx X (j : Int) true (k : Int) ((k : Int) + 1) W h)
                  rw [xT] at XT
                  clear mF mT xF xT ha hc
                  have ea : (a != a) = false := by cases a <;> rfl
                  have ec : (c != c) = false := by cases c <;> rfl
                  obtain ⟨x1, x2, -, -⟩ := id ks_10
                  go_wp2_with fail
                  refine (wpAt_any (k : Int) hk0 (by omega) _).mono ?_; rintro e w49 ⟨rfl, hb⟩
                  have HT_11 := Lib.hid (HT_10.out.keep hb)
                  have HX_11 := Lib.hid (HX_10.out.keep hb)
                  have ks_11 := ks_10.keep hb
                  have L1_11 := Lib.hid (L1_10.out.trans (hb.mono L1_10.out.size))
                  have L2_11 := Lib.hid (L2_0.out.trans (hb.mono L2_0.out.size))
                  have E_11 := Lib.hid (E_10.out.trans (hb.mono E_10.out.size))
                  clear HT_10 HX_10 ks_10 L1_10 L2_0 E_10 x1 x2 hb
                  obtain ⟨x1, x2, -, -⟩ := id ks_11
                  go_wp2_with fail
                  refine (XF.out _ HX_11.out).mono ?_; rintro e w50 ⟨rfl, hb⟩
                  have HT_12 := Lib.hid (HT_11.out.keep hb)
                  have HX_12 := Lib.hid (HX_11.out.keep hb)
                  have ks_12 := ks_11.keep hb
                  have L1_12 := Lib.hid (L1_11.out.trans (hb.mono L1_11.out.size))
                  have L2_12 := Lib.hid (L2_11.out.trans (hb.mono L2_11.out.size))
                  have E_12 := Lib.hid (E_11.out.trans (hb.mono E_11.out.size))
                  clear HT_11 HX_11 ks_11 L1_11 L2_11 E_11 x1 x2 hb
                  obtain ⟨x1, x2, -, -⟩ := id ks_12
                  go_wp2_with fail
                  refine (wpAt_any (k : Int) hk0 (by omega) _).mono ?_; rintro e w51 ⟨rfl, hb⟩
                  have HT_13 := Lib.hid (HT_12.out.keep hb)
                  have HX_13 := Lib.hid (HX_12.out.keep hb)
                  have ks_13 := ks_12.keep hb
                  have L1_13 := Lib.hid (L1_12.out.trans (hb.mono L1_12.out.size))
                  have L2_13 := Lib.hid (L2_12.out.trans (hb.mono L2_12.out.size))
                  have E_13 := Lib.hid (E_12.out.trans (hb.mono E_12.out.size))
                  clear HT_12 HX_12 ks_12 L1_12 L2_12 E_12 x1 x2 hb
                  obtain ⟨x1, x2, -, -⟩ := id ks_13
                  go_wp2_with fail
                  refine (MF.out _ HT_13.out).mono ?_; rintro e w52 ⟨rfl, hb⟩
                  have HT_14 := Lib.hid (HT_13.out.keep hb)
                  have HX_14 := Lib.hid (HX_13.out.keep hb)
                  have ks_14 := ks_13.keep hb
                  have L1_14 := Lib.hid (L1_13.out.trans (hb.mono L1_13.out.size))
                  have L2_14 := Lib.hid (L2_13.out.trans (hb.mono L2_13.out.size))
                  have E_14 := Lib.hid (E_13.out.trans (hb.mono E_13.out.size))
                  clear HT_13 HX_13 ks_13 L1_13 L2_13 E_13 x1 x2 hb
                  obtain ⟨x1, x2, -, -⟩ := id ks_14
                  go_wp2_with fail
                  refine (wpAt_any (k : Int) hk0 (by omega) _).mono ?_; rintro e w53 ⟨rfl, hb⟩
                  have HT_15 := Lib.hid (HT_14.out.keep hb)
                  have HX_15 := Lib.hid (HX_14.out.keep hb)
                  have ks_15 := ks_14.keep hb
                  have L1_15 := Lib.hid (L1_14.out.trans (hb.mono L1_14.out.size))
                  have L2_15 := Lib.hid (L2_14.out.trans (hb.mono L2_14.out.size))
                  have E_15 := Lib.hid (E_14.out.trans (hb.mono E_14.out.size))
                  clear HT_14 HX_14 ks_14 L1_14 L2_14 E_14 x1 x2 hb
                  obtain ⟨x1, x2, -, -⟩ := id ks_15
                  go_wp2_with fail
                  refine (XT.out _ HX_15.out).mono ?_; rintro e w54 ⟨rfl, hb⟩
                  have HT_16 := Lib.hid (HT_15.out.keep hb)
                  have HX_16 := Lib.hid (HX_15.out.keep hb)
                  have ks_16 := ks_15.keep hb
                  have L1_16 := Lib.hid (L1_15.out.trans (hb.mono L1_15.out.size))
                  have L2_16 := Lib.hid (L2_15.out.trans (hb.mono L2_15.out.size))
                  have E_16 := Lib.hid (E_15.out.trans (hb.mono E_15.out.size))
                  clear HT_15 HX_15 ks_15 L1_15 L2_15 E_15 x1 x2 hb
                  obtain ⟨x1, x2, -, -⟩ := id ks_16
                  go_wp2_with fail
                  refine (wpAt_any (k : Int) hk0 (by omega) _).mono ?_; rintro e w55 ⟨rfl, hb⟩
                  have HT_17 := Lib.hid (HT_16.out.keep hb)
                  have HX_17 := Lib.hid (HX_16.out.keep hb)
                  have ks_17 := ks_16.keep hb
                  have L1_17 := Lib.hid (L1_16.out.trans (hb.mono L1_16.out.size))
                  have L2_17 := Lib.hid (L2_16.out.trans (hb.mono L2_16.out.size))
                  have E_17 := Lib.hid (E_16.out.trans (hb.mono E_16.out.size))
                  clear HT_16 HX_16 ks_16 L1_16 L2_16 E_16 x1 x2 hb
                  obtain ⟨x1, x2, -, -⟩ := id ks_17
                  go_wp2_with fail
                  refine (MT.out _ HT_17.out).mono ?_; rintro e w56 ⟨rfl, hb⟩
                  have HT_18 := Lib.hid (HT_17.out.keep hb)
                  have HX_18 := Lib.hid (HX_17.out.keep hb)
                  have ks_18 := ks_17.keep hb
                  have L1_18 := Lib.hid (L1_17.out.trans (hb.mono L1_17.out.size))
                  have L2_18 := Lib.hid (L2_17.out.trans (hb.mono L2_17.out.size))
                  have E_18 := Lib.hid (E_17.out.trans (hb.mono E_17.out.size))
                  clear HT_17 HX_17 ks_17 L1_17 L2_17 E_17 x1 x2 hb
                  obtain ⟨x1, x2, -, -⟩ := id ks_18
                  go_wp2
                  go_roundg (3 - (j + 1))
                  case measure => omega
                  case rel => exact ⟨j + 1, rfl, by omega, by go_num, L2_18.out⟩
              · obtain ⟨x1, x2, -, -⟩ := id ks_10
                go_wp2
                go_roundg (48 - (k + 1))
                case measure => omega
                case rel => exact ⟨k + 1, rfl, by omega, by go_num, L1_10.out⟩
        · obtain ⟨x1, x2, -, -⟩ := id ks_9
          go_wp2
          go_ret
          exact ⟨rfl, E_9.out⟩
  · go_enter Try.func3, Try.ntmps3
    go_wp2
    go_ret
    exact ⟨rfl, Below.refl _ _⟩

end Go.Proofs.Ytfifimdaepebeaa.fnLockGive
