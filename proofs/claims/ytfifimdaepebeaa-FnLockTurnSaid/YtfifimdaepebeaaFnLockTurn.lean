/-
  laws.FnLockTurn returns true at every two codes: the walk of the law. No condition.
-/
import Derived.Test.YtfifimdaepebeaaDrawLk2
import Derived.Test.YtfifimdaepebeaaImplMay
import Derived.Test.YtfifimdaepebeaaSpecMay
import Derived.Test.YtfifimdaepebeaaLkMath
import Derived.Test.YtfifimdaepebeaaLkLaws
import Derived.Test.YtfifimdaepebeaaImplGive
import Derived.Test.YtfifimdaepebeaaSpecGive
import Derived.Test.YtfifimdaepebeaaLockSame
import Derived.Test.YtfifimdaepebeaaMeetS
namespace Go.Proofs.Ytfifimdaepebeaa.fnLockTurn
open Go.RowKit

set_option maxRecDepth 100000 in
set_option maxHeartbeats 8000000 in
theorem walk (v0 : Value) (len0 : Nat) (v1 : Value) (len1 : Nat) (w : World) (h0 : Byt w v0 len0) (h1 : Byt w v1 len1) :
    Calls Try.prog 9 #[v0, v1] w fun e w' => e = .returned (.bool true) ∧ Below w.heap.size w w' := by
  have HB0 := Lib.hid h0
  have hlen0 : len0 ≤ 9223372036854775807 := by obtain ⟨z, a, cap, -, h1, h2, -⟩ := h0; unfold maxLen at h2; omega
  obtain ⟨z0, a0, cap0, rfl, -, -, -⟩ := h0
  have HB1 := Lib.hid h1
  have hlen1 : len1 ≤ 9223372036854775807 := by obtain ⟨z, a, cap, -, h1, h2, -⟩ := h1; unfold maxLen at h2; omega
  obtain ⟨z1, a1, cap1, rfl, -, -, -⟩ := h1
  by_cases hL : len0 ≤ 1048576
  · by_cases hL2 : len1 ≤ 1048576
    · go_enter Try.func9, Try.ntmps9
      go_wp2_with fail
      refine (drawLockGive_any _ len0 _ HB0.out).mono ?_; rintro e w1 ⟨v, T, who, wr, lo, hi, rfl, hd, hb⟩
      have ks_0 := new_box w1 lo hi 25
      have hal : Below w1.heap.size w1 (w1.alloc (.cells #[.int .i64 lo, .int .i64 hi] 25)) := (Below.refl _ _).alloc (Nat.le_refl _) _
      have HT_0 := Lib.hid (hd.out _ (Btw.of_below hal))
      have E_0 := Lib.hid (hb.trans (hal.mono hb.size))
      have HC_0 := Lib.hid ((byt_stay (byt_stay HB1.out hb) hal))
      clear hd hb hal HB0 HB1
      obtain ⟨x1, x2, -, -⟩ := id ks_0
      go_wp2_with fail
      refine (drawLockGive_any _ len1 _ HC_0.out).mono ?_; rintro e w2 ⟨v9, T9, other, also, lo2, hi2, rfl, hd, hb⟩
      have hal2 : Below w2.heap.size w2 (w2.alloc (.cells #[.int .i64 lo2, .int .i64 hi2] 25)) := (Below.refl _ _).alloc (Nat.le_refl _) _
      have ku_0 := new_box w2 lo2 hi2 25
      replace hb := hb.trans (hal2.mono hb.size)
      clear hal2 hd
      clear HC_0
      have HT_1 := Lib.hid (HT_0.out.keep hb)
      have ks_1 := ks_0.keep hb
      have E_1 := Lib.hid (E_0.out.trans (hb.mono E_0.out.size))
      clear HT_0 ks_0 E_0 x1 x2 hb
      obtain ⟨⟨X, q⟩, hC⟩ : ∃ C, chT T who lo hi (fun x => mx x (wantOf wr)) = C := ⟨_, rfl⟩
      have IG := Lib.hid (fun W h => implGive_any v T who wr lo hi W h)
      rw [hC] at IG
      have SG := Lib.hid (fun W h => specGive_any v T who wr lo hi W h)
      rw [hC] at SG
      obtain ⟨m, hm⟩ : ∃ m, smB lo hi lo2 hi2 = m := ⟨_, rfl⟩
      have SM := Lib.hid (fun W => implSpanMeet_any lo hi lo2 hi2 W)
      rw [hm] at SM
      obtain ⟨x1, x2, -, -⟩ := id ks_1
      obtain ⟨x5, x6, -, -⟩ := id ku_0
      go_wp2_with fail
      refine (IG.out _ HT_1.out).mono ?_; rintro e w3 ⟨vx, rfl, hx, hb⟩
      have HX := Lib.hid hx.out.hds
      clear hx
      have HT_2 := Lib.hid (HT_1.out.keep hb)
      have ks_2 := ks_1.keep hb
      have ku_2 := ku_0.keep hb
      have E_2 := Lib.hid (E_1.out.trans (hb.mono E_1.out.size))
      clear HT_1 ks_1 ku_0 E_1 x1 x2 x5 x6 hb
      obtain ⟨x1, x2, -, -⟩ := id ks_2
      obtain ⟨x5, x6, -, -⟩ := id ku_2
      go_wp2_with fail
      refine (SG.out _ HT_2.out).mono ?_; rintro e w4 ⟨vy, rfl, -, hb⟩
      have HT_3 := Lib.hid (HT_2.out.keep hb)
      have HX_3 := Lib.hid (HX.out.keep hb)
      have ks_3 := ks_2.keep hb
      have ku_3 := ku_2.keep hb
      have E_3 := Lib.hid (E_2.out.trans (hb.mono E_2.out.size))
      clear HT_2 HX ks_2 ku_2 E_2 x1 x2 x5 x6 hb
      obtain ⟨x1, x2, -, -⟩ := id ks_3
      obtain ⟨x5, x6, -, -⟩ := id ku_3
      go_wp2_with fail
      refine (SM.out _).mono ?_; rintro e w5 ⟨rfl, hb⟩
      replace hb := hb.trans ((show Below w5.heap.size w5 (w5.alloc (.cells #[.int .i64 (smLo lo hi lo2 hi2), .int .i64 (smHi lo hi lo2 hi2)] 25)) from (Below.refl _ _).alloc (Nat.le_refl _) _).mono hb.size)
      have HT_4 := Lib.hid (HT_3.out.keep hb)
      have HX_4 := Lib.hid (HX_3.out.keep hb)
      have ks_4 := ks_3.keep hb
      have ku_4 := ku_3.keep hb
      have E_4 := Lib.hid (E_3.out.trans (hb.mono E_3.out.size))
      clear HT_3 HX_3 ks_3 ku_3 E_3 x1 x2 x5 x6 hb
      cases q
      · obtain ⟨x1, x2, -, -⟩ := id ks_4
        obtain ⟨x5, x6, -, -⟩ := id ku_4
        go_wp2
        go_ret
        exact ⟨rfl, E_4.out⟩
      · by_cases ho : other = who
        · subst ho
          obtain ⟨x1, x2, -, -⟩ := id ks_4
          obtain ⟨x5, x6, -, -⟩ := id ku_4
          go_wp2
          go_ret
          exact ⟨rfl, E_4.out⟩
        · cases m
          · obtain ⟨h1, h2⟩ := give_turn (g := fun x => mx x (wantOf also)) (F3_give wr) (F3_give also) hC ho hm
            obtain ⟨⟨Y, p⟩, hD⟩ : ∃ C, chT X other lo2 hi2 (fun x => mx x (wantOf also)) = C := ⟨_, rfl⟩
            obtain ⟨⟨Z, p2⟩, hF⟩ : ∃ C, chT T other lo2 hi2 (fun x => mx x (wantOf also)) = C := ⟨_, rfl⟩
            rw [hD, hF] at h1 h2
            dsimp only at h1 h2
            subst h1
            have ID := Lib.hid (fun W h => implGive_any vx X other also lo2 hi2 W h)
            rw [hD] at ID
            have IF := Lib.hid (fun W h => implGive_any v T other also lo2 hi2 W h)
            rw [hF] at IF
            have he := Lib.hid (eqT_self Y)
            have ho1 : (other == who) = false := by simpa using ho
            have H2 := Lib.hid h2
            clear hC hD hF h2 hm
            obtain ⟨x1, x2, -, -⟩ := id ks_4
            obtain ⟨x5, x6, -, -⟩ := id ku_4
            go_wp2_with fail
            refine (ID.out _ HX_4.out).mono ?_; rintro e w6 ⟨va, rfl, ha, hb⟩
            have HA := Lib.hid ha.out.hds
            clear ha
            have HT_5 := Lib.hid (HT_4.out.keep hb)
            have HX_5 := Lib.hid (HX_4.out.keep hb)
            have ks_5 := ks_4.keep hb
            have ku_5 := ku_4.keep hb
            have E_5 := Lib.hid (E_4.out.trans (hb.mono E_4.out.size))
            clear HT_4 HX_4 ks_4 ku_4 E_4 x1 x2 x5 x6 hb
            obtain ⟨x1, x2, -, -⟩ := id ks_5
            obtain ⟨x5, x6, -, -⟩ := id ku_5
            go_wp2_with fail
            refine (IF.out _ HT_5.out).mono ?_; rintro e w7 ⟨vb, rfl, hbb, hb⟩
            have HBB := Lib.hid hbb.out.hds
            clear hbb
            have HT_6 := Lib.hid (HT_5.out.keep hb)
            have HX_6 := Lib.hid (HX_5.out.keep hb)
            have HA_6 := Lib.hid (HA.out.keep hb)
            have ks_6 := ks_5.keep hb
            have ku_6 := ku_5.keep hb
            have E_6 := Lib.hid (E_5.out.trans (hb.mono E_5.out.size))
            clear HT_5 HX_5 HA ks_5 ku_5 E_5 x1 x2 x5 x6 hb
            cases p
            · obtain ⟨x1, x2, -, -⟩ := id ks_6
              obtain ⟨x5, x6, -, -⟩ := id ku_6
              go_wp2
              go_ret
              exact ⟨rfl, E_6.out⟩
            · have IE := Lib.hid (fun W h => implGive_any vb Z who wr lo hi W h)
              rw [H2.out rfl] at IE
              obtain ⟨x1, x2, -, -⟩ := id ks_6
              obtain ⟨x5, x6, -, -⟩ := id ku_6
              go_wp2_with fail
              refine (IE.out _ HBB.out).mono ?_; rintro e w8 ⟨vc, rfl, hc, hb⟩
              have HCC := Lib.hid hc.out.hds
              clear hc
              have HT_7 := Lib.hid (HT_6.out.keep hb)
              have HX_7 := Lib.hid (HX_6.out.keep hb)
              have HA_7 := Lib.hid (HA_6.out.keep hb)
              have HBB_7 := Lib.hid (HBB.out.keep hb)
              have ks_7 := ks_6.keep hb
              have ku_7 := ku_6.keep hb
              have E_7 := Lib.hid (E_6.out.trans (hb.mono E_6.out.size))
              clear HT_6 HX_6 HA_6 HBB ks_6 ku_6 E_6 x1 x2 x5 x6 hb
              obtain ⟨x1, x2, -, -⟩ := id ks_7
              obtain ⟨x5, x6, -, -⟩ := id ku_7
              go_wp2_with fail
              refine (implLockSame_any va vc Y Y _ HA_7.out HCC.out).mono ?_; rintro e w9 ⟨rfl, hb⟩
              rw [he.out]
              have HT_8 := Lib.hid (HT_7.out.keep hb)
              have HX_8 := Lib.hid (HX_7.out.keep hb)
              have HA_8 := Lib.hid (HA_7.out.keep hb)
              have HBB_8 := Lib.hid (HBB_7.out.keep hb)
              have HCC_8 := Lib.hid (HCC.out.keep hb)
              have ks_8 := ks_7.keep hb
              have ku_8 := ku_7.keep hb
              have E_8 := Lib.hid (E_7.out.trans (hb.mono E_7.out.size))
              clear HT_7 HX_7 HA_7 HBB_7 HCC ks_7 ku_7 E_7 x1 x2 x5 x6 hb
              obtain ⟨x1, x2, -, -⟩ := id ks_8
              obtain ⟨x5, x6, -, -⟩ := id ku_8
              go_wp2
              go_ret
              exact ⟨rfl, E_8.out⟩
          · have ho1 : (other == who) = false := by simpa using ho
            obtain ⟨x1, x2, -, -⟩ := id ks_4
            obtain ⟨x5, x6, -, -⟩ := id ku_4
            go_wp2
            go_ret
            exact ⟨rfl, E_4.out⟩
    · go_enter Try.func9, Try.ntmps9
      go_wp2
      go_ret
      exact ⟨rfl, Below.refl _ _⟩
  · go_enter Try.func9, Try.ntmps9
    go_wp2
    go_ret
    exact ⟨rfl, Below.refl _ _⟩

end Go.Proofs.Ytfifimdaepebeaa.fnLockTurn
