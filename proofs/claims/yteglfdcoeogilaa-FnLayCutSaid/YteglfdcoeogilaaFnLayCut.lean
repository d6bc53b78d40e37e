/-
  laws.FnLayCut returns true at every two codes: the walk of the law. No condition.
-/
import Derived.Test.YteglfdcoeogilaaDrawLayOf
import Derived.Test.YteglfdcoeogilaaImplLof
import Derived.Test.YteglfdcoeogilaaStrEq
import Derived.Test.YteglfdcoeogilaaLofLaws
import Derived.Deep.RegionHeld3
namespace Go.Proofs.Yteglfdcoeogilaa.fnLayCut
open Go.RowKit

set_option maxRecDepth 100000 in
set_option maxHeartbeats 8000000 in
theorem walk (v : Value) (len : Nat) (v0 : Value) (len2 : Nat) (w : World) (h : Byt w v len) (h0 : Byt w v0 len2) :
    Calls Try.prog 12 #[v, v0] w fun e w' => e = .returned (.bool true) ∧ Below w.heap.size w w' := by
  have HB := Lib.hid h
  have hlen : len ≤ 9223372036854775807 := by obtain ⟨z, a, cap, -, h1, h2, -⟩ := h; unfold maxLen at h2; omega
  have hlen2 : len2 ≤ 9223372036854775807 := by obtain ⟨z, a, cap, -, h1, h2, -⟩ := h0; unfold maxLen at h2; omega
  obtain ⟨z, a, cap, rfl, -, -, -⟩ := h
  obtain ⟨z', a', cap', rfl, -, -, -⟩ := h0
  by_cases hL : len ≤ 1048576
  · by_cases hL2 : len2 ≤ 1048576
    · go_enter Try.func12, Try.ntmps12
      go_wp2_with fail
      refine (drawLayOf_any _ len _ HB.out).mono ?_; rintro e w1 ⟨size, many, l, rfl, hl, hb1⟩
      have kl := new_box w1 size many 24
      have hal1 : Below w1.heap.size w1 (w1.alloc (.cells #[.int .i64 size, .int .i64 many] 24)) := (Below.refl _ _).alloc (Nat.le_refl _) _
      have e1 := hb1.trans (hal1.mono hb1.size)
      obtain ⟨L, hLl⟩ : ∃ L, loL size many l = L := ⟨_, rfl⟩
      have H1 : Hid (∀ X, Calls Try.prog 26 #[.agg #[.int .i64 size, .int .i64 many], .string (mkB l)] X (RgS X L)) := fun X => by rw [← hLl]; exact implLayOf_any size many l (by omega) X
      have H2 : Hid (∀ X, Calls Try.prog 27 #[.agg #[.int .i64 size, .int .i64 many], .string (mkB l)] X (RgS X L)) := fun X => by rw [← hLl]; exact specLayOf_any size many l (by omega) X
      have H3 := Lib.hid (fun W => specLayOk_any size many W)
      have htk := fun W => specTextOk_any (mkB l) (by rw [mkB_size]; omega) W
      rw [mkB_toList] at htk
      have H4 := Lib.hid htk
      have HLl := Lib.hid hLl
      clear htk hLl
      obtain ⟨x1, x2, -, -⟩ := id kl
      go_wp2_with fail
      refine (H1.out _).mono ?_; rintro e w2 ⟨v1, rfl, ho2, hb2⟩
      have e2 := e1.trans (hb2.mono e1.size)
      have P2 := Lib.hid (own_strs (n := L.length) rfl ho2.out)
      have kl2 := kl.keep hb2
      clear x1 x2 ho2 hb2 kl hal1 hb1 e1
      obtain ⟨x1, x2, -, -⟩ := id kl2
      go_wp2_with fail
      refine (H2.out _).mono ?_; rintro e w3 ⟨v2, rfl, ho3, hb3⟩
      have e3 := e2.trans (hb3.mono e2.size)
      have P3 := Lib.hid (P2.out.keep hb3)
      have Q3 := Lib.hid (own_strs (n := L.length) rfl ho3.out)
      have kl3 := kl2.keep hb3
      clear x1 x2 ho3 hb3 kl2 P2 e2
      go_wp2_with fail
      refine (wpTexts3_same v1 v2 _ _ _ P3.out Q3.out).mono ?_; rintro e w4 ⟨rfl, hb4⟩
      have e4 := e3.trans (hb4.mono e3.size)
      have P4 := Lib.hid (P3.out.keep hb4)
      have kl4 := kl3.keep hb4
      clear hb4 kl3 P3 Q3 e3
      obtain ⟨x1, x2, x3, x4⟩ := id kl4
      by_cases hv : layOkB size many = true ∧ tokB l = true
      · obtain ⟨hy, ht⟩ := hv
        have HY := Lib.hid hy
        have HT := Lib.hid ht
        rw [hy] at H3
        rw [ht] at H4
        go_wp2_with fail
        refine (H3.out _).mono ?_; rintro e w5 ⟨rfl, hb5⟩
        have e5 := e4.trans (hb5.mono e4.size)
        have P5 := Lib.hid (P4.out.keep hb5)
        have kl5 := kl4.keep hb5
        clear x1 x2 x3 x4 hb5 kl4 P4 e4 hy ht
        obtain ⟨x1, x2, x3, x4⟩ := id kl5
        go_wp2_with fail
        refine (H4.out _).mono ?_; rintro e w6 ⟨rfl, rfl⟩
        obtain ⟨K, hKK⟩ : ∃ K, len2 % (l.length + 1) = K := ⟨_, rfl⟩
        have hK1 : K ≤ l.length := by have := Nat.mod_lt len2 (show 0 < l.length + 1 by omega); omega
        have hKi : (len2 : Int) % ((l.length : Int) + 1) = K := by
          rw [← hKK, show ((l.length : Int) + 1) = ((l.length + 1 : Nat) : Int) by omega, ← Int.natCast_emod]
        have hKt : (len2 : Int).tmod ((l.length : Int) + 1) = K := by rw [Int.tmod_eq_emod_of_nonneg (by omega), hKi]
        have z1 : ((l.length : Int) + 1 == 0) = false := by simp; omega
        have z2 : (l.length : Int) + 1 ≠ 0 := by omega
        have j1 : IntKind.i64.wrap ((l.length : Int) + 1) = l.length + 1 := IntWalk.i64_in _ (by omega)
        have q0 : (mkB l).extract 0 K = mkB (l.take K) := by rw [mkB_extract]; rfl
        obtain ⟨T, hTk⟩ : ∃ T, loL size many (l.take K) = T := ⟨_, rfl⟩
        have H5 : Hid (∀ X, Calls Try.prog 26 #[.agg #[.int .i64 size, .int .i64 many], .string (mkB (l.take K))] X (RgS X T)) := fun X => by rw [← hTk]; exact implLayOf_any size many (l.take K) (by rw [List.length_take]; omega) X
        have hTL : T.length = L.length := by rw [← hTk, ← HLl.out, loL_len HY.out (tokB_take HT.out _), loL_len HY.out HT.out]
        have HPre : Hid (∀ k, k < L.length → T.getD k [] <+: L.getD k []) := fun k hk => by
          rw [← HLl.out, loL_len HY.out HT.out] at hk
          rw [← hTk, ← HLl.out]
          exact lof_cut HY.out HT.out hK1 hk
        have HLen : Hid (∀ k, k < L.length → (L.getD k []).length ≤ 49) := fun k hk => by
          rw [← HLl.out, loL_len HY.out HT.out] at hk
          rw [← HLl.out, loL_get HY.out HT.out hk]
          exact Nat.le_trans (loF_len _) hl
        have zz : (mkB l).size = l.length := mkB_size l
        clear hTk HLl HY HT
        go_wp2_with fail
        go_region_held3 (fun w' => w'.cell? ⟨w1.heap.size, 0, none⟩ = some (.int .i64 size) ∧ w'.cell? ⟨w1.heap.size, 1, none⟩ = some (.int .i64 many))
          (refine ⟨?_, ?_⟩ <;> first | (go_keep; done) | (refine cell_keep hb ?_; first | (go_keep; done) | (go_simp; done)))
          (first
            | (go_at_call 26; refine (H5.out _).mono ?_; rintro e w' ⟨v3, rfl, ho, hb⟩; have HO := ho; clear ho; have hbW := (Below.drew (Below.refl _ _)).trans hb))
        have E6 : Below w5.heap.size w5 w' := hbW.mono (by simp)
        have R6 := Lib.hid (own_strs (n := T.length) rfl HO.out)
        have P6 := Lib.hid (P5.out.keep E6)
        have e6 := e5.trans (E6.mono e5.size)
        clear hb hbW HO x1 x2 x3 x4 kl5 P5 E6 e5
        generalize w' = w6 at *
        obtain ⟨a1, cap1, rfl, hl1, hm1, hc1⟩ := P6.out
        obtain ⟨a3, cap3, rfl, hl3, hm3, hc3⟩ := R6.out
        rw [hTL] at hl3 hc3
        unfold maxLen at hm1 hm3
        have HC1 := Lib.hid hc1
        have HC3 := Lib.hid hc3
        clear hc1 hc3 P6 R6
        rw [hTL]
        go_wp2_with fail
        go_loopg [9] L.length (fun g s9 wr => ∃ k : Nat, g = L.length - k ∧ k ≤ L.length ∧ s9 = .int .i64 k ∧ Below w6.heap.size w6 wr)
        case atStart => exact ⟨0, rfl, Nat.zero_le _, rfl, Below.refl _ _⟩
        case round =>
          obtain ⟨k, rfl, hk, rfl, hbr⟩ := hrel
          by_cases hlt : k < L.length
          · obtain ⟨b1, off1, rfl, hcc1⟩ := HC1.out (by omega)
            obtain ⟨b3, off3, rfl, hcc3⟩ := HC3.out (by omega)
            have c1 := cell_keep hbr (hcc1 k hlt)
            have c3 := cell_keep hbr (hcc3 k hlt)
            have i0 : (0 : Int) ≤ (k : Int) := by omega
            have i1 : (k : Int) < (L.length : Int) := by omega
            have hpre := HPre.out k hlt
            have hl49 := HLen.out k hlt
            generalize T.getD k [] = Y at *
            generalize L.getD k [] = Z at *
            have hYl := hpre.length_le
            have q3 : Z.take Y.length = Y := (List.prefix_iff_eq_take.1 hpre).symm
            have q1 : (mkB Z).extract 0 Y.length = mkB Y := by rw [mkB_extract, q3]; rfl
            have q2 : ((mkB Y).toList == (mkB Y).toList) = true := by simp
            have d1 : ∀ x : BelowOf wr, x.w.cell? ⟨b1, off1 + k, none⟩ = some (.string (mkB Z)) := fun x => x.cell c1
            have d3 : ∀ x : BelowOf wr, x.w.cell? ⟨b3, off3 + k, none⟩ = some (.string (mkB Y)) := fun x => x.cell c3
            have i2 : (Y.length : Int) ≤ (Z.length : Int) := by omega
            have zy : (mkB Y).size = Y.length := mkB_size Y
            have zx : (mkB Z).size = Z.length := mkB_size Z
            have i3 : decide ((Z.length : Int) < (Y.length : Int)) = false := by simp; omega
            have i4 : ¬ ((Z.length : Int) < (Y.length : Int)) := by omega
            have i5 : ¬ (Z.length < Y.length) := by omega
            have i6 : decide (Z.length < Y.length) = false := by simp; omega
            clear hcc1 hcc3 hpre q3
            go_wp2_with fail
            refine wp_region_calm (by kernel_rfl) (by kernel_rfl) ?_
            repeat (go_big_quiet_step (fail))
            refine wpQuiet_nil ?_
            rintro _ ⟨x, rfl⟩
            have hbn := hbr.trans (x.below.mono hbr.size)
            clear d1 d3
            generalize x.w = wx at *
            go_wp2
            go_roundg (L.length - (k + 1))
            case measure => omega
            case rel => exact ⟨k + 1, rfl, by omega, by go_num, hbn⟩
          · go_wp2
            go_ret
            exact ⟨rfl, e6.trans (hbr.mono e6.size)⟩
      · have hbad : (layOkB size many = false) ∨ (layOkB size many = true ∧ tokB l = false) := by
          cases h1 : layOkB size many with
          | false => exact Or.inl rfl
          | true => exact Or.inr ⟨rfl, by simpa [h1] using hv⟩
        clear hv
        rcases hbad with hy | ⟨hy, ht⟩
        · rw [hy] at H3
          go_wp2_with fail
          refine (H3.out _).mono ?_; rintro e w5 ⟨rfl, hb5⟩
          have e5 := e4.trans (hb5.mono e4.size)
          have P5 := Lib.hid (P4.out.keep hb5)
          have kl5 := kl4.keep hb5
          clear x1 x2 x3 x4 hb5 kl4 P4 e4
          obtain ⟨x1, x2, x3, x4⟩ := id kl5
          go_wp2_with fail
          refine (H2.out _).mono ?_; rintro e w7 ⟨v4, rfl, ho7, hb7⟩
          have e7 := e5.trans (hb7.mono e5.size)
          have P7 := Lib.hid (P5.out.keep hb7)
          have Q7 := Lib.hid (own_strs (n := L.length) rfl ho7.out)
          clear x1 x2 x3 x4
          go_wp2_with fail
          refine (wpTexts3_same v1 v4 _ _ _ P7.out Q7.out).mono ?_; rintro e w8 ⟨rfl, hb8⟩
          have e8 := e7.trans (hb8.mono e7.size)
          go_wp2
          go_ret
          exact ⟨rfl, e8⟩
        · rw [hy] at H3
          rw [ht] at H4
          go_wp2_with fail
          refine (H3.out _).mono ?_; rintro e w5 ⟨rfl, hb5⟩
          have e5 := e4.trans (hb5.mono e4.size)
          have P5 := Lib.hid (P4.out.keep hb5)
          have kl5 := kl4.keep hb5
          clear x1 x2 x3 x4 hb5 kl4 P4 e4
          obtain ⟨x1, x2, x3, x4⟩ := id kl5
          go_wp2_with fail
          refine (H4.out _).mono ?_; rintro e w6 ⟨rfl, rfl⟩
          go_wp2_with fail
          refine (H2.out _).mono ?_; rintro e w7 ⟨v4, rfl, ho7, hb7⟩
          have e7 := e5.trans (hb7.mono e5.size)
          have P7 := Lib.hid (P5.out.keep hb7)
          have Q7 := Lib.hid (own_strs (n := L.length) rfl ho7.out)
          clear x1 x2 x3 x4
          go_wp2_with fail
          refine (wpTexts3_same v1 v4 _ _ _ P7.out Q7.out).mono ?_; rintro e w8 ⟨rfl, hb8⟩
          have e8 := e7.trans (hb8.mono e7.size)
          go_wp2
          go_ret
          exact ⟨rfl, e8⟩
    · go_enter Try.func12, Try.ntmps12
      go_wp2
      go_ret
      exact ⟨rfl, Below.refl _ _⟩
  · go_enter Try.func12, Try.ntmps12
    go_wp2
    go_ret
    exact ⟨rfl, Below.refl _ _⟩

end Go.Proofs.Yteglfdcoeogilaa.fnLayCut
