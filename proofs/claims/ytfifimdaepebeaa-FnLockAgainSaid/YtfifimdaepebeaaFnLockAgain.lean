/-
  laws.FnLockAgain returns true at every code: the walk of the law. No condition.
-/
import Derived.Test.YtfifimdaepebeaaDrawLk2
import Derived.Test.YtfifimdaepebeaaImplMay
import Derived.Test.YtfifimdaepebeaaSpecMay
import Derived.Test.YtfifimdaepebeaaLkMath
import Derived.Test.YtfifimdaepebeaaLkLaws
import Derived.Test.YtfifimdaepebeaaImplGive
import Derived.Test.YtfifimdaepebeaaSpecGive
import Derived.Test.YtfifimdaepebeaaLockSame
namespace Go.Proofs.Ytfifimdaepebeaa.fnLockAgain
open Go.RowKit

set_option maxRecDepth 100000 in
set_option maxHeartbeats 8000000 in
theorem walk (v0 : Value) (len0 : Nat) (w : World) (h0 : Byt w v0 len0) :
    Calls Try.prog 11 #[v0] w fun e w' => e = .returned (.bool true) ∧ Below w.heap.size w w' := by
  have HB0 := Lib.hid h0
  have hlen0 : len0 ≤ 9223372036854775807 := by obtain ⟨z, a, cap, -, h1, h2, -⟩ := h0; unfold maxLen at h2; omega
  obtain ⟨z0, a0, cap0, rfl, -, -, -⟩ := h0
  by_cases hL : len0 ≤ 1048576
  · go_enter Try.func11, Try.ntmps11
    go_wp2_with fail
    refine (drawLockGive_any _ len0 _ HB0.out).mono ?_; rintro e w1 ⟨v, T, who, wr, lo, hi, rfl, hd, hb⟩
    have ks_0 := new_box w1 lo hi 25
    have hal : Below w1.heap.size w1 (w1.alloc (.cells #[.int .i64 lo, .int .i64 hi] 25)) := (Below.refl _ _).alloc (Nat.le_refl _) _
    have HT_0 := Lib.hid (hd.out _ (Btw.of_below hal))
    have E_0 := Lib.hid (hb.trans (hal.mono hb.size))
    clear hd hb hal HB0
    obtain ⟨⟨X, q⟩, hC⟩ : ∃ C, chT T who lo hi (fun x => mx x (wantOf wr)) = C := ⟨_, rfl⟩
    have IG := Lib.hid (fun W h => implGive_any v T who wr lo hi W h)
    rw [hC] at IG
    have SG := Lib.hid (fun W h => specGive_any v T who wr lo hi W h)
    rw [hC] at SG
    obtain ⟨x1, x2, -, -⟩ := id ks_0
    go_wp2_with fail
    refine (IG.out _ HT_0.out).mono ?_; rintro e w2 ⟨vx, rfl, hx, hb⟩
    have HX := Lib.hid hx.out.hds
    have HT_1 := Lib.hid (HT_0.out.keep hb)
    have ks_1 := ks_0.keep hb
    have E_1 := Lib.hid (E_0.out.trans (hb.mono E_0.out.size))
    clear HT_0 ks_0 E_0 x1 x2 hb
    clear hx
    obtain ⟨x1, x2, -, -⟩ := id ks_1
    go_wp2_with fail
    refine (SG.out _ HT_1.out).mono ?_; rintro e w3 ⟨vy, rfl, -, hb⟩
    have HT_2 := Lib.hid (HT_1.out.keep hb)
    have HX_2 := Lib.hid (HX.out.keep hb)
    have ks_2 := ks_1.keep hb
    have E_2 := Lib.hid (E_1.out.trans (hb.mono E_1.out.size))
    clear HT_1 HX ks_1 E_1 x1 x2 hb
    cases q
    · obtain ⟨x1, x2, -, -⟩ := id ks_2
      go_wp2
      go_ret
      exact ⟨rfl, E_2.out⟩
    · have h1 := ch_again (g := fun x => mx x (wantOf wr)) hC (F3_give wr) (give_again wr wr (.inl rfl))
      have h2 := ch_again (g := fun x => mx x (wantOf false)) hC (F3_give wr) (give_again wr false (.inr rfl))
      have he := Lib.hid (eqT_self X)
      have IG2 := Lib.hid (fun W h => implGive_any vx X who wr lo hi W h)
      rw [h1] at IG2
      have IG3 := Lib.hid (fun W h => implGive_any vx X who false lo hi W h)
      rw [h2] at IG3
      clear h1 h2 hC
      obtain ⟨x1, x2, -, -⟩ := id ks_2
      go_wp2_with fail
      refine (IG2.out _ HX_2.out).mono ?_; rintro e w4 ⟨vz, rfl, hz, hb⟩
      have HZ := Lib.hid hz.out.hds
      clear hz
      have HT_3 := Lib.hid (HT_2.out.keep hb)
      have HX_3 := Lib.hid (HX_2.out.keep hb)
      have ks_3 := ks_2.keep hb
      have E_3 := Lib.hid (E_2.out.trans (hb.mono E_2.out.size))
      clear HT_2 HX_2 ks_2 E_2 x1 x2 hb
      obtain ⟨x1, x2, -, -⟩ := id ks_3
      go_wp2_with fail
      refine (IG3.out _ HX_3.out).mono ?_; rintro e w5 ⟨vu, rfl, hu, hb⟩
      have HU := Lib.hid hu.out.hds
      clear hu
      have HT_4 := Lib.hid (HT_3.out.keep hb)
      have HX_4 := Lib.hid (HX_3.out.keep hb)
      have HZ_4 := Lib.hid (HZ.out.keep hb)
      have ks_4 := ks_3.keep hb
      have E_4 := Lib.hid (E_3.out.trans (hb.mono E_3.out.size))
      clear HT_3 HX_3 HZ ks_3 E_3 x1 x2 hb
      obtain ⟨x1, x2, -, -⟩ := id ks_4
      go_wp2_with fail
      refine (implLockSame_any vx vz X X _ HX_4.out HZ_4.out).mono ?_; rintro e w6 ⟨rfl, hb⟩
      rw [he.out]
      have HT_5 := Lib.hid (HT_4.out.keep hb)
      have HX_5 := Lib.hid (HX_4.out.keep hb)
      have HZ_5 := Lib.hid (HZ_4.out.keep hb)
      have HU_5 := Lib.hid (HU.out.keep hb)
      have ks_5 := ks_4.keep hb
      have E_5 := Lib.hid (E_4.out.trans (hb.mono E_4.out.size))
      clear HT_4 HX_4 HZ_4 HU ks_4 E_4 x1 x2 hb
      obtain ⟨x1, x2, -, -⟩ := id ks_5
      go_wp2_with fail
      refine (implLockSame_any vx vu X X _ HX_5.out HU_5.out).mono ?_; rintro e w7 ⟨rfl, hb⟩
      rw [he.out]
      have HT_6 := Lib.hid (HT_5.out.keep hb)
      have HX_6 := Lib.hid (HX_5.out.keep hb)
      have HZ_6 := Lib.hid (HZ_5.out.keep hb)
      have HU_6 := Lib.hid (HU_5.out.keep hb)
      have ks_6 := ks_5.keep hb
      have E_6 := Lib.hid (E_5.out.trans (hb.mono E_5.out.size))
      clear HT_5 HX_5 HZ_5 HU_5 ks_5 E_5 x1 x2 hb
      obtain ⟨x1, x2, -, -⟩ := id ks_6
      go_wp2
      go_ret
      exact ⟨rfl, E_6.out⟩
  · go_enter Try.func11, Try.ntmps11
    go_wp2
    go_ret
    exact ⟨rfl, Below.refl _ _⟩

end Go.Proofs.Ytfifimdaepebeaa.fnLockAgain
