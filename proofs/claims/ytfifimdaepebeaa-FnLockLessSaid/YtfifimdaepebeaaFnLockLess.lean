/-
  laws.FnLockLess returns true at every two codes: the walk of the law. No condition.
-/
import Derived.Test.YtfifimdaepebeaaDrawLk2
import Derived.Test.YtfifimdaepebeaaImplMay
import Derived.Test.YtfifimdaepebeaaSpecMay
import Derived.Test.YtfifimdaepebeaaLkMath
namespace Go.Proofs.Ytfifimdaepebeaa.fnLockLess
open Go.RowKit

set_option maxRecDepth 100000 in
set_option maxHeartbeats 8000000 in
theorem walk (v0 : Value) (len0 : Nat) (v1 : Value) (len1 : Nat) (w : World) (h0 : Byt w v0 len0) (h1 : Byt w v1 len1) :
    Calls Try.prog 12 #[v0, v1] w fun e w' => e = .returned (.bool true) ∧ Below w.heap.size w w' := by
  have HB0 := Lib.hid h0
  have hlen0 : len0 ≤ 9223372036854775807 := by obtain ⟨z, a, cap, -, h1, h2, -⟩ := h0; unfold maxLen at h2; omega
  obtain ⟨z0, a0, cap0, rfl, -, -, -⟩ := h0
  have HB1 := Lib.hid h1
  have hlen1 : len1 ≤ 9223372036854775807 := by obtain ⟨z, a, cap, -, h1, h2, -⟩ := h1; unfold maxLen at h2; omega
  obtain ⟨z1, a1, cap1, rfl, -, -, -⟩ := h1
  by_cases hL : len0 ≤ 1048576
  · by_cases hL2 : len1 ≤ 1048576
    · go_enter Try.func12, Try.ntmps12
      go_wp2_with fail
      refine (drawLockMay_any _ len0 _ HB0.out).mono ?_; rintro e w1 ⟨v, T, who, wr, lo, hi, rfl, hd, hb⟩
      have ks_0 := new_box w1 lo hi 25
      have hal : Below w1.heap.size w1 (w1.alloc (.cells #[.int .i64 lo, .int .i64 hi] 25)) := (Below.refl _ _).alloc (Nat.le_refl _) _
      have HT_0 := Lib.hid (hd.out _ (Btw.of_below hal))
      have E_0 := Lib.hid (hb.trans (hal.mono hb.size))
      clear hd hb hal HB0 HB1
      obtain ⟨q, hq⟩ : ∃ q, mayB T who wr lo hi = q := ⟨_, rfl⟩
      have C1 := Lib.hid (fun W h => implLockMay_any v T who wr lo hi W h)
      have C2 := Lib.hid (fun W h => specLockMay_any v T who wr lo hi W h)
      rw [hq] at C1 C2
      obtain ⟨x1, x2, -, -⟩ := id ks_0
      go_wp2_with fail
      refine (C1.out _ HT_0.out).mono ?_; rintro e w2 ⟨rfl, hb⟩
      have HT_1 := Lib.hid (HT_0.out.keep hb)
      have ks_1 := ks_0.keep hb
      have E_1 := Lib.hid (E_0.out.trans (hb.mono E_0.out.size))
      clear HT_0 ks_0 E_0 x1 x2 hb
      cases q
      · clear hq
        obtain ⟨x1, x2, -, -⟩ := id ks_1
        go_wp2_with fail
        refine (C2.out _ HT_1.out).mono ?_; rintro e w3 ⟨rfl, hb⟩
        have HT_2 := Lib.hid (HT_1.out.keep hb)
        have ks_2 := ks_1.keep hb
        have E_2 := Lib.hid (E_1.out.trans (hb.mono E_1.out.size))
        clear HT_1 ks_1 E_1 x1 x2 hb
        obtain ⟨x1, x2, -, -⟩ := id ks_2
        go_wp2_with fail
        refine (C2.out _ HT_2.out).mono ?_; rintro e w4 ⟨rfl, hb⟩
        have HT_3 := Lib.hid (HT_2.out.keep hb)
        have ks_3 := ks_2.keep hb
        have E_3 := Lib.hid (E_2.out.trans (hb.mono E_2.out.size))
        clear HT_2 ks_2 E_2 x1 x2 hb
        obtain ⟨x1, x2, -, -⟩ := id ks_3
        go_wp2
        go_ret
        exact ⟨rfl, E_3.out⟩
      · obtain ⟨hok, hwho, hs, hall⟩ := mayB_iff.1 hq
        obtain ⟨s0, s1, s2⟩ := spanOkB_iff.1 hs
        have hqF : mayB T who false lo hi = true := may_false hq
        obtain ⟨ln, hln⟩ : ∃ n : Nat, hi - lo = n := ⟨(hi - lo).toNat, by omega⟩
        obtain ⟨m, hm⟩ : ∃ m : Nat, len1 % ln = m := ⟨_, rfl⟩
        obtain ⟨k, hk⟩ : ∃ k : Int, lo + (m : Int) = k := ⟨_, rfl⟩
        have hln0 : 0 < ln := by omega
        have hmod : m < ln := by rw [← hm]; exact Nat.mod_lt _ hln0
        have hk0 : lo ≤ k := by omega
        have hk1 : k < hi := by omega
        have hqA : mayB T who wr k hi = true := may_part hq hk0 (Int.le_refl _) hk1
        have hqB : mayB T who wr lo (k + 1) = true := may_part hq (Int.le_refl _) (by omega) (by omega)
        have C3 := Lib.hid (fun W h => implLockMay_any v T who wr k hi W h)
        have C4 := Lib.hid (fun W h => implLockMay_any v T who wr lo (k + 1) W h)
        have C5 := Lib.hid (fun W h => implLockMay_any v T who false lo hi W h)
        rw [hqA] at C3
        rw [hqB] at C4
        rw [hqF] at C5
        have hw1 : IntKind.i64.wrap (hi - lo) = (ln : Int) := by rw [IntKind.wrap_i64]; omega
        have hw2 : IntKind.i64.wrap (lo + (m : Int)) = k := by rw [IntKind.wrap_i64]; omega
        have hw3 : IntKind.i64.wrap (k + 1) = k + 1 := by rw [IntKind.wrap_i64]; omega
        have hw0 : IntKind.i64.wrap (ln : Int) = (ln : Int) := by rw [IntKind.wrap_i64]; omega
        have hne : ¬ ln = 0 := by omega
        have hne1 : ¬ (ln : Int) = 0 := by omega
        have hwm : IntKind.i64.wrap (m : Int) = (m : Int) := by rw [IntKind.wrap_i64]; omega
        have hm1 : ((len1 : Int)).tmod (ln : Int) = (m : Int) := by rw [← hm]; rfl
        have hm2 : ((len1 : Int)) % (ln : Int) = (m : Int) := by rw [← hm]; rfl
        clear hm hq hqA hqB hqF hall hok hwho hs
        obtain ⟨x1, x2, -, -⟩ := id ks_1
        go_wp2_with fail
        refine (C2.out _ HT_1.out).mono ?_; rintro e w5 ⟨rfl, hb⟩
        have HT_2 := Lib.hid (HT_1.out.keep hb)
        have ks_2 := ks_1.keep hb
        have E_2 := Lib.hid (E_1.out.trans (hb.mono E_1.out.size))
        clear HT_1 ks_1 E_1 x1 x2 hb
        obtain ⟨x1, x2, -, -⟩ := id ks_2
        go_wp2_with fail
        go_region
        have hb : Below w5.heap.size w5 w5.drew := (Below.refl _ _).drew
        have HT_3 := Lib.hid (HT_2.out.keep hb)
        have ks_3 := ks_2.keep hb
        have E_3 := Lib.hid (E_2.out.trans (hb.mono E_2.out.size))
        clear HT_2 ks_2 E_2 x1 x2 hb
        obtain ⟨x1, x2, -, -⟩ := id ks_3
        go_wp2_with fail
        refine (C3.out _ HT_3.out).mono ?_; rintro e w6 ⟨rfl, hb⟩
        have HT_4 := Lib.hid (HT_3.out.keep hb)
        have ks_4 := ks_3.keep hb
        have E_4 := Lib.hid (E_3.out.trans (hb.mono E_3.out.size))
        clear HT_3 ks_3 E_3 x1 x2 hb
        obtain ⟨x1, x2, -, -⟩ := id ks_4
        go_wp2_with fail
        refine (C4.out _ HT_4.out).mono ?_; rintro e w7 ⟨rfl, hb⟩
        have HT_5 := Lib.hid (HT_4.out.keep hb)
        have ks_5 := ks_4.keep hb
        have E_5 := Lib.hid (E_4.out.trans (hb.mono E_4.out.size))
        clear HT_4 ks_4 E_4 x1 x2 hb
        obtain ⟨x1, x2, -, -⟩ := id ks_5
        go_wp2_with fail
        refine (C5.out _ HT_5.out).mono ?_; rintro e w8 ⟨rfl, hb⟩
        have HT_6 := Lib.hid (HT_5.out.keep hb)
        have ks_6 := ks_5.keep hb
        have E_6 := Lib.hid (E_5.out.trans (hb.mono E_5.out.size))
        clear HT_5 ks_5 E_5 x1 x2 hb
        obtain ⟨x1, x2, -, -⟩ := id ks_6
        go_wp2
        go_ret
        exact ⟨rfl, E_6.out⟩
    · go_enter Try.func12, Try.ntmps12
      go_wp2
      go_ret
      exact ⟨rfl, Below.refl _ _⟩
  · go_enter Try.func12, Try.ntmps12
    go_wp2
    go_ret
    exact ⟨rfl, Below.refl _ _⟩

end Go.Proofs.Ytfifimdaepebeaa.fnLockLess
