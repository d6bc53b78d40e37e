/-
  laws.FnLockOff returns true at every code: the walk of the law. No condition.
-/
import Derived.Test.YtfifimdaepebeaaDrawLk2
import Derived.Test.YtfifimdaepebeaaImplMay
import Derived.Test.YtfifimdaepebeaaSpecMay
import Derived.Test.YtfifimdaepebeaaLkMath
import Derived.Test.YtfifimdaepebeaaLkLaws
import Derived.Test.YtfifimdaepebeaaImplGive
import Derived.Test.YtfifimdaepebeaaSpecGive
import Derived.Test.YtfifimdaepebeaaLockSame
import Derived.Test.YtfifimdaepebeaaSpecOff
namespace Go.Proofs.Ytfifimdaepebeaa.fnLockOff
open Go.RowKit

set_option maxRecDepth 100000 in
set_option maxHeartbeats 8000000 in
theorem walk (v0 : Value) (len0 : Nat) (w : World) (h0 : Byt w v0 len0) :
    Calls Try.prog 8 #[v0] w fun e w' => e = .returned (.bool true) ∧ Below w.heap.size w w' := by
  have HB0 := Lib.hid h0
  have hlen0 : len0 ≤ 9223372036854775807 := by obtain ⟨z, a, cap, -, h1, h2, -⟩ := h0; unfold maxLen at h2; omega
  obtain ⟨z0, a0, cap0, rfl, -, -, -⟩ := h0
  by_cases hL : len0 ≤ 1048576
  · go_enter Try.func8, Try.ntmps8
    go_wp2_with fail
    refine (drawLockOff_any _ len0 _ HB0.out).mono ?_; rintro e w1 ⟨v, T, who, rfl, hd, hb⟩
    have HT_0 := Lib.hid (hd.out _ (Btw.refl _ _ _))
    have E_0 := Lib.hid hb
    clear hd hb HB0
    obtain ⟨⟨X, q⟩, hC⟩ : ∃ C, chT T who 0 48 (fun x => mn x 0) = C := ⟨_, rfl⟩
    have IG := Lib.hid (fun W h => implOff_any v T who W h)
    rw [hC] at IG
    have SG := Lib.hid (fun W h => specOff_any v T who W h)
    rw [hC] at SG
    have ID := Lib.hid (fun W h => implDrop_any v T who 0 48 W h)
    rw [hC] at ID
    have he := Lib.hid (eqT_self X)
    go_wp2_with fail
    refine (IG.out _ HT_0.out).mono ?_; rintro e w2 ⟨vx, rfl, hx, hb⟩
    have HX := Lib.hid hx.out.hds
    clear hx
    have HT_1 := Lib.hid (HT_0.out.keep hb)
    have E_1 := Lib.hid (E_0.out.trans (hb.mono E_0.out.size))
    clear HT_0 E_0 hb
    go_wp2_with fail
    refine (SG.out _ HT_1.out).mono ?_; rintro e w3 ⟨vy, rfl, hy, hb⟩
    have HY := Lib.hid hy.out.hds
    clear hy
    have HT_2 := Lib.hid (HT_1.out.keep hb)
    have HX_2 := Lib.hid (HX.out.keep hb)
    have E_2 := Lib.hid (E_1.out.trans (hb.mono E_1.out.size))
    clear HT_1 HX E_1 hb
    cases q
    · clear hC
      go_wp2_with fail
      refine (implLockSame_any vx vy X X _ HX_2.out HY.out).mono ?_; rintro e w4 ⟨rfl, hb⟩
      rw [he.out]
      have HT_3 := Lib.hid (HT_2.out.keep hb)
      have HX_3 := Lib.hid (HX_2.out.keep hb)
      have HY_3 := Lib.hid (HY.out.keep hb)
      have E_3 := Lib.hid (E_2.out.trans (hb.mono E_2.out.size))
      clear HT_2 HX_2 HY E_2 hb
      go_wp2_with fail
      refine (implLockSame_any vx vy X X _ HX_3.out HY_3.out).mono ?_; rintro e w5 ⟨rfl, hb⟩
      rw [he.out]
      have HT_4 := Lib.hid (HT_3.out.keep hb)
      have HX_4 := Lib.hid (HX_3.out.keep hb)
      have HY_4 := Lib.hid (HY_3.out.keep hb)
      have E_4 := Lib.hid (E_3.out.trans (hb.mono E_3.out.size))
      clear HT_3 HX_3 HY_3 E_3 hb
      go_wp2
      go_ret
      exact ⟨rfl, E_4.out⟩
    · obtain ⟨k, hk, rfl, hq, -, hX, hx⟩ := chT_true hC
      have h3 := ok_len hx
      have hn : X.getD k hd0 = ([], []) := by rw [hX, set_at (by have := ok_len hq; omega)]; exact off_mH (ok_at hq hk)
      clear hC hq hX hx
      go_wp2_with fail
      refine (implLockSame_any vx vy X X _ HX_2.out HY.out).mono ?_; rintro e w6 ⟨rfl, hb⟩
      rw [he.out]
      have HT_3 := Lib.hid (HT_2.out.keep hb)
      have HX_3 := Lib.hid (HX_2.out.keep hb)
      have HY_3 := Lib.hid (HY.out.keep hb)
      have E_3 := Lib.hid (E_2.out.trans (hb.mono E_2.out.size))
      clear HT_2 HX_2 HY E_2 hb
      go_wp2_with fail
      refine (ID.out _ HT_3.out).mono ?_; rintro e w7 ⟨vz, rfl, hz, hb⟩
      have HZ := Lib.hid hz.out.hds
      clear hz
      have HT_4 := Lib.hid (HT_3.out.keep hb)
      have HX_4 := Lib.hid (HX_3.out.keep hb)
      have HY_4 := Lib.hid (HY_3.out.keep hb)
      have E_4 := Lib.hid (E_3.out.trans (hb.mono E_3.out.size))
      clear HT_3 HX_3 HY_3 E_3 hb
      go_wp2_with fail
      refine (implLockSame_any vz vx X X _ HZ.out HX_4.out).mono ?_; rintro e w8 ⟨rfl, hb⟩
      rw [he.out]
      have HT_5 := Lib.hid (HT_4.out.keep hb)
      have HX_5 := Lib.hid (HX_4.out.keep hb)
      have HY_5 := Lib.hid (HY_4.out.keep hb)
      have HZ_5 := Lib.hid (HZ.out.keep hb)
      have E_5 := Lib.hid (E_4.out.trans (hb.mono E_4.out.size))
      clear HT_4 HX_4 HY_4 HZ E_4 hb
      have hxx := HX_5.out
      obtain ⟨xa, xc, rfl, xl, xm, xd⟩ := hxx
      obtain ⟨xb, xo, rfl, xe⟩ := xd (fun hh => by rw [hh] at h3; cases h3)
      obtain ⟨r, s, c1, c2, p1, p2⟩ := xe k (by omega)
      rw [hn] at p1 p2
      obtain ⟨pa, pc, rfl, -, -, -⟩ := p1
      obtain ⟨qa, qc, rfl, -, -, -⟩ := p2
      clear xd xe hn
      go_wp2
      go_ret
      exact ⟨rfl, E_5.out⟩
  · go_enter Try.func8, Try.ntmps8
    go_wp2
    go_ret
    exact ⟨rfl, Below.refl _ _⟩

end Go.Proofs.Ytfifimdaepebeaa.fnLockOff
