/-
  laws.FnLockNone returns true at every code: the walk of the law. No condition.
-/
import Derived.Test.YtfifimdaepebeaaDrawLk2
import Derived.Test.YtfifimdaepebeaaImplMay
import Derived.Test.YtfifimdaepebeaaSpecMay
import Derived.Test.YtfifimdaepebeaaLkMath
import Derived.Test.YtfifimdaepebeaaLkLaws
import Derived.Test.YtfifimdaepebeaaImplGive
import Derived.Test.YtfifimdaepebeaaSpecGive
import Derived.Test.YtfifimdaepebeaaLockSame
import Derived.Test.YtfifimdaepebeaaNums
namespace Go.Proofs.Ytfifimdaepebeaa.fnLockNone
open Go.RowKit

set_option maxRecDepth 100000 in
set_option maxHeartbeats 8000000 in
theorem walk (v0 : Value) (len0 : Nat) (w : World) (h0 : Byt w v0 len0) :
    Calls Try.prog 13 #[v0] w fun e w' => e = .returned (.bool true) ∧ Below w.heap.size w w' := by
  have HB0 := Lib.hid h0
  have hlen0 : len0 ≤ 9223372036854775807 := by obtain ⟨z, a, cap, -, h1, h2, -⟩ := h0; unfold maxLen at h2; omega
  obtain ⟨z0, a0, cap0, rfl, -, -, -⟩ := h0
  by_cases hL : len0 ≤ 1048576
  · go_enter Try.func13, Try.ntmps13
    go_wp2_with fail
    refine (drawLockBars_any _ len0 _ HB0.out).mono ?_; rintro e w1 ⟨v, T, who, wt, lo, hi, rfl, hd, hb⟩
    have ks_0 := new_box w1 lo hi 25
    have hal : Below w1.heap.size w1 (w1.alloc (.cells #[.int .i64 lo, .int .i64 hi] 25)) := (Below.refl _ _).alloc (Nat.le_refl _) _
    have HT_0 := Lib.hid (hd.out _ (Btw.of_below hal))
    have E_0 := Lib.hid (hb.trans (hal.mono hb.size))
    clear hd hb hal HB0
    obtain ⟨p, hp⟩ : ∃ p, lockOkB T = p := ⟨_, rfl⟩
    have O2 := Lib.hid (fun W h => specLockOk_any v T W h)
    rw [hp] at O2
    have hyl := barsL_len T who wt lo hi
    obtain ⟨Y, hY⟩ : ∃ Y, barsL T who wt lo hi = Y := ⟨_, rfl⟩
    have IB := Lib.hid (fun W h => implLockBars_any v T who wt lo hi W h)
    rw [hY] at IB
    have SB := Lib.hid (fun W h => specLockBars_any v T who wt lo hi W h)
    rw [hY] at SB
    obtain ⟨x1, x2, -, -⟩ := id ks_0
    go_wp2_with fail
    refine (IB.out _ HT_0.out).mono ?_; rintro e w2 ⟨vl, rfl, ho, hb⟩
    have HL := Lib.hid (own_ints ho.out)
    clear ho
    have HT_1 := Lib.hid (HT_0.out.keep hb)
    have ks_1 := ks_0.keep hb
    have E_1 := Lib.hid (E_0.out.trans (hb.mono E_0.out.size))
    clear HT_0 ks_0 E_0 x1 x2 hb
    obtain ⟨x1, x2, -, -⟩ := id ks_1
    go_wp2_with fail
    refine (SB.out _ HT_1.out).mono ?_; rintro e w3 ⟨vm, rfl, ho, hb⟩
    have HM := Lib.hid (own_ints ho.out)
    clear ho
    have HT_2 := Lib.hid (HT_1.out.keep hb)
    have HL_2 := Lib.hid (HL.out.keep hb)
    have ks_2 := ks_1.keep hb
    have E_2 := Lib.hid (E_1.out.trans (hb.mono E_1.out.size))
    clear HT_1 HL ks_1 E_1 x1 x2 hb
    obtain ⟨x1, x2, -, -⟩ := id ks_2
    go_wp2_with fail
    refine (wpNums_same _ _ Y.length (fun i => Y.getD i 0) _ HL_2.out HM.out).mono ?_; rintro e w4 ⟨rfl, hb⟩
    have HT_3 := Lib.hid (HT_2.out.keep hb)
    have HL_3 := Lib.hid (HL_2.out.keep hb)
    have HM_3 := Lib.hid (HM.out.keep hb)
    have ks_3 := ks_2.keep hb
    have E_3 := Lib.hid (E_2.out.trans (hb.mono E_2.out.size))
    clear HT_2 HL_2 HM ks_2 E_2 x1 x2 hb
    clear HM_3
    obtain ⟨x1, x2, -, -⟩ := id ks_3
    go_wp2_with fail
    refine (O2.out _ HT_3.out).mono ?_; rintro e w5 ⟨rfl, hb⟩
    have HT_4 := Lib.hid (HT_3.out.keep hb)
    have HL_4 := Lib.hid (HL_3.out.keep hb)
    have ks_4 := ks_3.keep hb
    have E_4 := Lib.hid (E_3.out.trans (hb.mono E_3.out.size))
    clear HT_3 HL_3 ks_3 E_3 x1 x2 hb
    cases p
    · obtain ⟨x1, x2, -, -⟩ := id ks_4
      go_wp2_with fail
      refine (SB.out _ HT_4.out).mono ?_; rintro e w6 ⟨vm2, rfl, ho, hb⟩
      have HM := Lib.hid (own_ints ho.out)
      clear ho
      have HT_5 := Lib.hid (HT_4.out.keep hb)
      have HL_5 := Lib.hid (HL_4.out.keep hb)
      have ks_5 := ks_4.keep hb
      have E_5 := Lib.hid (E_4.out.trans (hb.mono E_4.out.size))
      clear HT_4 HL_4 ks_4 E_4 x1 x2 hb
      obtain ⟨x1, x2, -, -⟩ := id ks_5
      go_wp2_with fail
      refine (wpNums_same _ _ Y.length (fun i => Y.getD i 0) _ HL_5.out HM.out).mono ?_; rintro e w7 ⟨rfl, hb⟩
      have HT_6 := Lib.hid (HT_5.out.keep hb)
      have HL_6 := Lib.hid (HL_5.out.keep hb)
      have HM_6 := Lib.hid (HM.out.keep hb)
      have ks_6 := ks_5.keep hb
      have E_6 := Lib.hid (E_5.out.trans (hb.mono E_5.out.size))
      clear HT_5 HL_5 HM ks_5 E_5 x1 x2 hb
      obtain ⟨x1, x2, -, -⟩ := id ks_6
      go_wp2
      go_ret
      exact ⟨rfl, E_6.out⟩
    · clear HL_4
      have HQ := Lib.hid hp
      clear hp IB SB O2 hY hyl
      obtain ⟨x1, x2, -, -⟩ := id ks_4
      go_wp2_with fail
      go_loopg [8, 9] 3 (fun g s8 s9 wr => ∃ (k : Nat) (vx : Value), g = 3 - k ∧ k ≤ 3 ∧ s9 = .int .i64 k ∧ vx = s8 ∧ Hid (Hds wr vx (offN T k)) ∧ Below w5.heap.size w5 wr)
      case atStart => exact ⟨0, v, rfl, Nat.zero_le _, rfl, rfl, Lib.hid HT_4.out, Below.refl _ _⟩
      case round =>
        obtain ⟨k, vx, rfl, hk, rfl, rfl, HX, hb⟩ := hrel
        clear x1 x2
        have L1_0 := Lib.hid hb
        have HT_5 := Lib.hid (HT_4.out.keep hb)
        have ks_5 := ks_4.keep hb
        have E_5 := Lib.hid (E_4.out.trans (hb.mono E_4.out.size))
        clear HT_4 ks_4 E_4 hb
        by_cases hlt : k < 3
        · obtain ⟨O, hO⟩ : ∃ O, offN T (k + 1) = O := ⟨_, rfl⟩
          obtain ⟨P, hP⟩ : ∃ P, offN T k = P := ⟨_, rfl⟩
          have hst : chT (offN T k) (k : Int) 0 48 (fun x => mn x 0) = (offN T (k + 1), true) := off_set (offN_ok HQ.out k (by omega)) hlt
          rw [hO, hP] at hst
          rw [hP] at HX
          have HO := Lib.hid hO
          clear hO hP
          have OF := Lib.hid (fun W h => implOff_any vx P (k : Int) W h)
          rw [hst] at OF
          clear hst
          obtain ⟨x1, x2, -, -⟩ := id ks_5
          go_wp2_with fail
          refine (OF.out _ HX.out).mono ?_; rintro e w8 ⟨vz, rfl, hz, hb⟩
          have HZ := Lib.hid hz.out.hds
          clear hz
          have HT_6 := Lib.hid (HT_5.out.keep hb)
          have HX_6 := Lib.hid (HX.out.keep hb)
          have ks_6 := ks_5.keep hb
          have L1_6 := Lib.hid (L1_0.out.trans (hb.mono L1_0.out.size))
          have E_6 := Lib.hid (E_5.out.trans (hb.mono E_5.out.size))
          clear HT_5 HX ks_5 L1_0 E_5 x1 x2 hb
          obtain ⟨x1, x2, -, -⟩ := id ks_6
          go_wp2
          go_roundg (3 - (k + 1))
          case measure => omega
          case rel => exact ⟨k + 1, vz, rfl, by omega, by go_num, rfl, by rw [HO.out]; exact Lib.hid HZ.out, L1_6.out⟩
        · obtain rfl : k = 3 := by omega
          have hxo := offN_ok HQ.out 3 (by omega)
          have hx0 := (offN_at (ok_len HQ.out) 3 (by omega)).2
          generalize offN T 3 = X at *
          have O3 := Lib.hid (fun W h => implLockOk_any vx X W h)
          rw [hxo] at O3
          obtain ⟨ps, hps⟩ : ∃ p, spanOkB lo hi = p := ⟨_, rfl⟩
          have SP := Lib.hid (fun W => specSpanOk_any lo hi W)
          rw [hps] at SP
          obtain ⟨x1, x2, -, -⟩ := id ks_5
          go_wp2_with fail
          refine (SP.out _).mono ?_; rintro e w9 ⟨rfl, hb⟩
          have HT_6 := Lib.hid (HT_5.out.keep hb)
          have HX_6 := Lib.hid (HX.out.keep hb)
          have ks_6 := ks_5.keep hb
          have L1_6 := Lib.hid (L1_0.out.trans (hb.mono L1_0.out.size))
          have E_6 := Lib.hid (E_5.out.trans (hb.mono E_5.out.size))
          clear HT_5 HX ks_5 L1_0 E_5 x1 x2 hb
          cases ps
          · obtain ⟨x1, x2, -, -⟩ := id ks_6
            go_wp2_with fail
            refine (O3.out _ HX_6.out).mono ?_; rintro e w10 ⟨rfl, hb⟩
            have HT_7 := Lib.hid (HT_6.out.keep hb)
            have HX_7 := Lib.hid (HX_6.out.keep hb)
            have ks_7 := ks_6.keep hb
            have L1_7 := Lib.hid (L1_6.out.trans (hb.mono L1_6.out.size))
            have E_7 := Lib.hid (E_6.out.trans (hb.mono E_6.out.size))
            clear HT_6 HX_6 ks_6 L1_6 E_6 x1 x2 hb
            obtain ⟨x1, x2, -, -⟩ := id ks_7
            go_wp2
            go_ret
            exact ⟨rfl, E_7.out⟩
          · by_cases w0 : who < 0
            · obtain ⟨x1, x2, -, -⟩ := id ks_6
              go_wp2_with fail
              refine (O3.out _ HX_6.out).mono ?_; rintro e w11 ⟨rfl, hb⟩
              have HT_7 := Lib.hid (HT_6.out.keep hb)
              have HX_7 := Lib.hid (HX_6.out.keep hb)
              have ks_7 := ks_6.keep hb
              have L1_7 := Lib.hid (L1_6.out.trans (hb.mono L1_6.out.size))
              have E_7 := Lib.hid (E_6.out.trans (hb.mono E_6.out.size))
              clear HT_6 HX_6 ks_6 L1_6 E_6 x1 x2 hb
              obtain ⟨x1, x2, -, -⟩ := id ks_7
              go_wp2
              go_ret
              exact ⟨rfl, E_7.out⟩
            · by_cases w1 : 3 ≤ who
              · obtain ⟨x1, x2, -, -⟩ := id ks_6
                go_wp2_with fail
                refine (O3.out _ HX_6.out).mono ?_; rintro e w12 ⟨rfl, hb⟩
                have HT_7 := Lib.hid (HT_6.out.keep hb)
                have HX_7 := Lib.hid (HX_6.out.keep hb)
                have ks_7 := ks_6.keep hb
                have L1_7 := Lib.hid (L1_6.out.trans (hb.mono L1_6.out.size))
                have E_7 := Lib.hid (E_6.out.trans (hb.mono E_6.out.size))
                clear HT_6 HX_6 ks_6 L1_6 E_6 x1 x2 hb
                obtain ⟨x1, x2, -, -⟩ := id ks_7
                go_wp2
                go_ret
                exact ⟨rfl, E_7.out⟩
              · obtain ⟨n, rfl⟩ : ∃ n : Nat, who = n := ⟨who.toNat, by omega⟩
                obtain ⟨n1, n2, n3⟩ := none_give hxo hx0 (show n < 3 by omega) hps wt
                obtain ⟨⟨Z, q⟩, hC⟩ : ∃ C, chT X (n : Int) lo hi (fun x => mx x (wantOf wt)) = C := ⟨_, rfl⟩
                rw [hC] at n1 n2
                dsimp only at n1 n2
                subst n1
                have IG := Lib.hid (fun W h => implGive_any vx X (n : Int) wt lo hi W h)
                rw [hC] at IG
                have IM := Lib.hid (fun vy W h => implLockMay_any vy Z (n : Int) wt lo hi W h)
                rw [n2] at IM
                have IB := Lib.hid (fun W h => implLockBars_any vx X (n : Int) wt lo hi W h)
                rw [n3] at IB
                clear n2 n3 hC hx0 hxo hps
                obtain ⟨x1, x2, -, -⟩ := id ks_6
                go_wp2_with fail
                refine (IG.out _ HX_6.out).mono ?_; rintro e w13 ⟨vy, rfl, hy, hb⟩
                have HY := Lib.hid hy.out.hds
                clear hy
                have HT_7 := Lib.hid (HT_6.out.keep hb)
                have HX_7 := Lib.hid (HX_6.out.keep hb)
                have ks_7 := ks_6.keep hb
                have L1_7 := Lib.hid (L1_6.out.trans (hb.mono L1_6.out.size))
                have E_7 := Lib.hid (E_6.out.trans (hb.mono E_6.out.size))
                clear HT_6 HX_6 ks_6 L1_6 E_6 x1 x2 hb
                obtain ⟨x1, x2, -, -⟩ := id ks_7
                go_wp2_with fail
                refine (IB.out _ HX_7.out).mono ?_; rintro e w14 ⟨vb, rfl, ho, hb⟩
                obtain ⟨ba, bc, rfl, -, -, -⟩ := own_ints ho.out
                clear ho
                have HT_8 := Lib.hid (HT_7.out.keep hb)
                have HX_8 := Lib.hid (HX_7.out.keep hb)
                have HY_8 := Lib.hid (HY.out.keep hb)
                have ks_8 := ks_7.keep hb
                have L1_8 := Lib.hid (L1_7.out.trans (hb.mono L1_7.out.size))
                have E_8 := Lib.hid (E_7.out.trans (hb.mono E_7.out.size))
                clear HT_7 HX_7 HY ks_7 L1_7 E_7 x1 x2 hb
                obtain ⟨x1, x2, -, -⟩ := id ks_8
                go_wp2_with fail
                refine (IM.out vy _ HY_8.out).mono ?_; rintro e w15 ⟨rfl, hb⟩
                have HT_9 := Lib.hid (HT_8.out.keep hb)
                have HX_9 := Lib.hid (HX_8.out.keep hb)
                have HY_9 := Lib.hid (HY_8.out.keep hb)
                have ks_9 := ks_8.keep hb
                have L1_9 := Lib.hid (L1_8.out.trans (hb.mono L1_8.out.size))
                have E_9 := Lib.hid (E_8.out.trans (hb.mono E_8.out.size))
                clear HT_8 HX_8 HY_8 ks_8 L1_8 E_8 x1 x2 hb
                obtain ⟨x1, x2, -, -⟩ := id ks_9
                go_wp2
                go_ret
                exact ⟨rfl, E_9.out⟩
  · go_enter Try.func13, Try.ntmps13
    go_wp2
    go_ret
    exact ⟨rfl, Below.refl _ _⟩

end Go.Proofs.Ytfifimdaepebeaa.fnLockNone
