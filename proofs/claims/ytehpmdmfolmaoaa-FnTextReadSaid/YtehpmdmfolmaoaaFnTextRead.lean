/-
  laws.FnTextRead returns true at every pair of codes: the walk of the law. No condition.
-/
import Derived.Test.YtehpmdmfolmaoaaDrawTextR
import Derived.Test.YtehpmdmfolmaoaaRead
import Derived.Test.YtehpmdmfolmaoaaSpecRead
import Derived.Test.YtehpmdmfolmaoaaTextLaws
import Derived.Test.YtehpmdmfolmaoaaSpecWrite
namespace Go.Proofs.Ytehpmdmfolmaoaa.fnTextRead
open Go.RowKit

set_option maxRecDepth 100000 in
set_option maxHeartbeats 8000000 in
theorem walk (v : Value) (len : Nat) (v2 : Value) (len2 : Nat) (w : World) (h : Byt w v len) (h2 : Byt w v2 len2) :
    Calls Try.prog 5 #[v, v2] w fun e w' => e = .returned (.bool true) ∧ Below w.heap.size w w' := by
  have HB := Lib.hid h
  have hlen : len ≤ 9223372036854775807 := by obtain ⟨z, a, cap, -, h1, h2, -⟩ := h; unfold maxLen at h2; omega
  obtain ⟨z, ad, cap, rfl, -, -, -⟩ := h
  have hlen2 : len2 ≤ 9223372036854775807 := by obtain ⟨z, a, cap, -, h1, h2, -⟩ := h2; unfold maxLen at h2; omega
  obtain ⟨z2, ad2, cap2, rfl, -, -, -⟩ := h2
  by_cases hL : len ≤ 1048576
  · by_cases hL2 : len2 ≤ 1048576
    · go_enter Try.func5, Try.ntmps5
      go_wp2_with fail
      refine (drawTextRead_any _ len _ HB.out).mono ?_; rintro e w1 ⟨l, lo, hi, rfl, hl, hb1⟩
      have k0 := new_box w1 lo hi 24
      have hal : Below w1.heap.size w1 (w1.alloc (.cells #[.int .i64 lo, .int .i64 hi] 24)) := (Below.refl _ _).alloc (Nat.le_refl _) _
      have e1 := hb1.trans (hal.mono hb1.size)
      have H1 := Lib.hid (fun W => specTextRead_any l lo hi (by omega) W)
      have H2 := Lib.hid (fun W => implTextRead_any l lo hi (by omega) W)
      have HK : Hid (∀ W, Calls Try.prog 16 #[.string (mkB l)] W fun e w' => e = .returned (.bool (tokB l)) ∧ W = w') := fun W => specTextOk_any (mkB l) (by rw [mkB_size]; omega) W
      have z2 : (mkB l).size = l.length := mkB_size l
      obtain ⟨x1, x2, -, -⟩ := id k0
      go_wp2_with fail
      obtain ⟨g, hg⟩ : ∃ g, g = w1.heap.size := ⟨_, rfl⟩
      rw [← hg] at k0 x1 x2
      simp only [← hg]
      generalize w1.alloc (.cells #[.int .i64 lo, .int .i64 hi] 24) = W1 at *
      clear hal hg hb1
      by_cases hts : tokB l = true ∧ (spanOkB lo hi = true ∧ 2 ≤ hi - lo)
      · obtain ⟨ht, hsp, h2⟩ := hts
        obtain ⟨s0, s1, s2⟩ := spanOkB_iff.1 hsp
        obtain ⟨a, rfl⟩ : ∃ a : Nat, lo = a := ⟨lo.toNat, by omega⟩
        obtain ⟨b, rfl⟩ : ∃ b : Nat, hi = b := ⟨hi.toNat, by omega⟩
        rw [ht] at HK
        rw [trS_yes ht hsp] at H1 H2
        obtain ⟨K, hKK⟩ : ∃ K, a + 1 + len2 % (b - a - 1) = K := ⟨_, rfl⟩
        have hm := Nat.mod_lt len2 (show 0 < b - a - 1 by omega)
        have hK1 : a < K := by omega
        have hK2 : K < b := by omega
        have H3 := fun W => implTextRead_any l a K (by omega) W
        have H4 := fun W => implTextRead_any l K b (by omega) W
        rw [trS_yes ht (spanOkB_true ⟨by omega, by omega, by omega⟩)] at H3 H4
        have G3 := Lib.hid H3
        have G4 := Lib.hid H4
        have hadd := fun W => add_mk (rdL l a K) (rdL l K b) (by rw [rdL_len, rdL_len]; omega) W
        rw [rd_split l a K b (by omega) (by omega)] at hadd
        have hXl : (rdL l a b).length ≤ b - a := by rw [rdL_len]; omega
        have hX0 : l.length = 0 → rdL l a b = [] := fun h => List.eq_nil_of_length_eq_zero (by rw [rdL_len]; omega)
        have HX0 := Lib.hid hX0
        clear H3 H4 hX0
        generalize rdL l a b = X at *
        generalize rdL l a K = A at *
        generalize rdL l K b = B at *
        have q1 : ((mkB X).toList == (mkB X).toList) = true := by simp
        have z1 : (mkB X).size = X.length := mkB_size X
        refine (H2.out _).mono ?_; rintro e w2 ⟨rfl, hb2⟩
        clear x1 x2
        replace k0 := k0.keep hb2
        obtain ⟨x1, x2, -, -⟩ := id k0
        go_wp2_with fail
        refine (H1.out _).mono ?_; rintro e w3 ⟨rfl, hb3⟩
        go_wp2_with fail
        refine (HK.out _).mono ?_; rintro e w4 ⟨rfl, rfl⟩
        clear x1 x2
        replace k0 := k0.keep hb3
        obtain ⟨x1, x2, -, -⟩ := id k0
        have e3 := e1.trans ((hb2.trans (hb3.mono hb2.size)).mono e1.size)
        clear hb2 hb3 e1
        go_wp2_with fail
        refine (specSpanOk_any a b _).mono ?_; rintro e w5 ⟨rfl, hb5⟩
        clear x1 x2
        replace k0 := k0.keep hb5
        obtain ⟨x1, x2, -, -⟩ := id k0
        have e5 := e3.trans (hb5.mono e3.size)
        clear hb5 e3
        obtain ⟨R, hR⟩ : ∃ R, len2 % (b - a - 1) = R := ⟨_, rfl⟩
        have u1 : IntKind.i64.wrap ((a : Int) + 1) = (a : Int) + 1 := IntWalk.i64_in _ (by omega)
        have u2 : IntKind.i64.wrap ((b : Int) - (a : Int)) = (b : Int) - (a : Int) := IntWalk.i64_in _ (by omega)
        have u3 : IntKind.i64.wrap ((b : Int) - (a : Int) - 1) = (b : Int) - (a : Int) - 1 := IntWalk.i64_in _ (by omega)
        have hmd : (len2 : Int) % ((b : Int) - (a : Int) - 1) = (R : Int) := by
          rw [← hR, show ((b : Int) - (a : Int) - 1) = ((b - a - 1 : Nat) : Int) by omega, ← Int.natCast_emod]
        have u4 : (len2 : Int).tmod ((b : Int) - (a : Int) - 1) = (R : Int) := by
          rw [Int.tmod_eq_emod_of_nonneg (by omega)]; exact hmd
        have u5 : IntKind.i64.wrap ((a : Int) + 1 + (R : Int)) = (K : Int) := by
          rw [hR] at hKK
          rw [IntWalk.i64_in _ (by omega)]; omega
        have u6 : ¬ ((b : Int) - (a : Int) - 1 = 0) := by omega
        have u7 : (a : Int) + 1 + (R : Int) = (K : Int) := by rw [hR] at hKK; omega
        have u8 : IntKind.i64.wrap (R : Int) = (R : Int) := IntWalk.i64_in _ (by omega)
        clear hR hKK hm
        go_wp2
        go_quiet (fail)
        clear u1 u2 u3 u4 u5 u6 u8 hmd u7
        go_wp2_with fail
        refine (G3.out _).mono ?_; rintro e w6 ⟨rfl, hb6⟩
        have b6 := (below_drewN w5 _).trans (hb6.mono (Nat.le_refl _))
        clear x1 x2
        replace k0 := k0.keep b6
        obtain ⟨x1, x2, -, -⟩ := id k0
        have e6 := e5.trans (b6.mono e5.size)
        clear hb6 b6 e5
        go_wp2_with fail
        refine (G4.out _).mono ?_; rintro e w7 ⟨rfl, hb7⟩
        clear x1 x2
        replace k0 := k0.keep hb7
        obtain ⟨x1, x2, -, -⟩ := id k0
        have e7 := e6.trans (hb7.mono e6.size)
        clear hb7 e6
        by_cases hl0 : 0 < l.length
        · go_wp2
          go_ret
          exact ⟨rfl, e7⟩
        · have hXn := HX0.out (by omega)
          subst hXn
          have q3 : (mkB []).toList.isEmpty = true := by rw [mkB_toList']; rfl
          have q4 : (mkB []).toList = [] := mkB_toList' []
          go_wp2
          go_ret
          exact ⟨rfl, e7⟩
      · generalize hX : trS l lo hi = X at *
        have q1 : ((mkB X).toList == (mkB X).toList) = true := by simp
        clear hX
        refine (H2.out _).mono ?_; rintro e w2 ⟨rfl, hb2⟩
        clear x1 x2
        replace k0 := k0.keep hb2
        obtain ⟨x1, x2, -, -⟩ := id k0
        go_wp2_with fail
        refine (H1.out _).mono ?_; rintro e w3 ⟨rfl, hb3⟩
        clear x1 x2
        replace k0 := k0.keep hb3
        obtain ⟨x1, x2, -, -⟩ := id k0
        have e3 := e1.trans ((hb2.trans (hb3.mono hb2.size)).mono e1.size)
        clear hb2 hb3 e1
        by_cases ht : tokB l = true
        · rw [ht] at HK
          go_wp2_with fail
          refine (HK.out _).mono ?_; rintro e w4 ⟨rfl, rfl⟩
          go_wp2_with fail
          refine (specSpanOk_any lo hi _).mono ?_; rintro e w5 ⟨rfl, hb5⟩
          clear x1 x2
          replace k0 := k0.keep hb5
          obtain ⟨x1, x2, -, -⟩ := id k0
          have e5 := e3.trans (hb5.mono e3.size)
          clear hb5 e3
          by_cases hsp : spanOkB lo hi = true
          · have hlt2 : hi - lo < 2 := by
              rcases Int.lt_or_le (hi - lo) 2 with h | h
              · exact h
              · exact absurd ⟨ht, hsp, h⟩ hts
            obtain ⟨s0, s1, s2⟩ := spanOkB_iff.1 hsp
            clear hts
            go_wp2_with fail
            refine (H1.out _).mono ?_; rintro e w6 ⟨rfl, hb6⟩
            go_wp2
            go_ret
            exact ⟨rfl, e5.trans (hb6.mono e5.size)⟩
          · replace hsp : spanOkB lo hi = false := by simpa using hsp
            clear hts
            go_wp2_with fail
            refine (H1.out _).mono ?_; rintro e w6 ⟨rfl, hb6⟩
            go_wp2
            go_ret
            exact ⟨rfl, e5.trans (hb6.mono e5.size)⟩
        · replace ht : tokB l = false := by simpa using ht
          rw [ht] at HK
          clear hts
          go_wp2_with fail
          refine (HK.out _).mono ?_; rintro e w4 ⟨rfl, rfl⟩
          go_wp2_with fail
          refine (H1.out _).mono ?_; rintro e w6 ⟨rfl, hb6⟩
          go_wp2
          go_ret
          exact ⟨rfl, e3.trans (hb6.mono e3.size)⟩
    · go_enter Try.func5, Try.ntmps5
      go_wp2
      go_ret
      exact ⟨rfl, Below.refl _ _⟩
  · go_enter Try.func5, Try.ntmps5
    go_wp2
    go_ret
    exact ⟨rfl, Below.refl _ _⟩

end Go.Proofs.Ytehpmdmfolmaoaa.fnTextRead
