/-
  toOwn, szOwn, eqOwn: conversions of caches, what they hold, whether two are one.
-/
import Derived.Test.YtldafphfnkamjaaOwnV
import Derived.Test.YtldafphfnkamjaaToHold
namespace Go.Proofs.Ytldafphfnkamjaa
open Go.RowKit

set_option maxRecDepth 100000 in
set_option maxHeartbeats 4000000 in
theorem toOwn_any (v1 v2 : Value) (O : OwT) (w : World) (h : Ow w v1 v2 O) (h1 : O.hav.length ≤ 1048576) (h2 : O.dirt.length ≤ 1048576) :
    Calls Try.prog 6 #[.agg #[.string (mkB O.text), v1, v2]] w (ToOw w O) := by
  obtain ⟨T, H, D⟩ := O
  obtain ⟨a1, c1, rfl, -, -⟩ := spn_form h.hav
  obtain ⟨a2, c2, rfl, -, -⟩ := spn_form h.dirt
  dsimp only at h1 h2
  obtain ⟨B, hB⟩ : ∃ B, B = w.heap.size := ⟨_, rfl⟩
  obtain ⟨W, hW⟩ : ∃ W, ((w.alloc (.cells #[.string (mkB T), .slice a1 H.length c1, .slice a2 D.length c2] 24)).alloc (.cells #[.string ⟨#[]⟩, .slice none 0 0, .slice none 0 0] 29)).alloc (.cells #[.string ⟨#[]⟩, .slice none 0 0, .slice none 0 0] 29) = W := ⟨_, rfl⟩
  have hal : Below w.heap.size w W := by rw [← hW]; exact (((Below.refl _ _).alloc (Nat.le_refl _) _).alloc (by simp) _).alloc (by simp; omega) _
  have A0 : Box3 W w.heap.size (.string (mkB T)) (.slice a1 H.length c1) (.slice a2 D.length c2) := by
    rw [← hW]
    exact (new_box3 w _ _ _ _).keep (((Below.refl _ _).alloc (Nat.le_refl _) _).alloc (by simp) _)
  have R0 : Box3W W (w.heap.size + 1) (.string ⟨#[]⟩) (.slice none 0 0) (.slice none 0 0) := by
    rw [← hW]
    have := (new_box3W (w.alloc (.cells #[.string (mkB T), .slice a1 H.length c1, .slice a2 D.length c2] 24)) (.string ⟨#[]⟩) (.slice none 0 0) (.slice none 0 0) 29).keep ((Below.refl _ _).alloc (Nat.le_refl _) (.cells #[.string ⟨#[]⟩, .slice none 0 0, .slice none 0 0] 29))
    simpa using this
  have U0 : Box3W W (w.heap.size + 2) (.string ⟨#[]⟩) (.slice none 0 0) (.slice none 0 0) := by
    rw [← hW]
    have := new_box3W ((w.alloc (.cells #[.string (mkB T), .slice a1 H.length c1, .slice a2 D.length c2] 24)).alloc (.cells #[.string ⟨#[]⟩, .slice none 0 0, .slice none 0 0] 29)) (.string ⟨#[]⟩) (.slice none 0 0) (.slice none 0 0) 29
    simpa using this
  have hl : w.heap.size + 2 < W.heap.size := by rw [← hW]; simp
  obtain ⟨X, hX⟩ : ∃ X, W.setCell ⟨w.heap.size + 2, 0, none⟩ (.string (mkB T)) = X := ⟨_, rfl⟩
  have ht : Btn (w.heap.size + 2) (w.heap.size + 3) W X := by rw [← hX]; exact btn_set _ _ _ _
  have U1 : Box3W X (w.heap.size + 2) (.string (mkB T)) (.slice none 0 0) (.slice none 0 0) := by rw [← hX]; exact U0.set0 _
  have A1 := A0.btn ht (by omega)
  have R1 := R0.btn ht (by omega)
  have E1 := hal.trans (ht.below (by omega) hal.size)
  have l1 := Nat.lt_of_lt_of_le hl ht.size
  have HU0 := Lib.hid U0
  have HA0 := Lib.hid A0
  have HU1 := Lib.hid U1
  have HA1 := Lib.hid A1
  have HR1 := Lib.hid R1
  have HE1 := Lib.hid E1
  have HH := Lib.hid (h.hav.keep E1)
  have HDw := Lib.hid h.dirt
  have HT1 := Lib.hid (fun W h => toSpanS2_any (.slice a1 H.length c1) H W h h1)
  have HT2 := Lib.hid (fun W h => toSpanS2_any (.slice a2 D.length c2) D W h h2)
  clear hal A0 R0 U0 hl ht U1 A1 R1 E1 h
  obtain ⟨x1, x2, x3⟩ := HA0.out
  obtain ⟨u1, u2, u3, g1, g2, g3⟩ := HU0.out
  obtain ⟨y1, y2, y3⟩ := HA1.out
  go_enter Try.func6, Try.ntmps6
  go_wp2_with fail
  clear hW hX x1 x2 x3 u1 u2 u3 g1 g2 g3 y1 y2 y3
  refine (HT1.out _ HH.out).mono ?_; rintro e w2 ⟨b1, rfl, hb1, hb1s, hr1, hb⟩
  have HU2 := Lib.hid (HU1.out.keep hb)
  have HA2 := Lib.hid (HA1.out.keep hb)
  have HR2 := Lib.hid (HR1.out.keep hb)
  have HE2 := Lib.hid (HE1.out.trans (hb.mono HE1.out.size))
  obtain ⟨X2, hX2⟩ : ∃ X2, w2.setCell ⟨w.heap.size + 2, 1, none⟩ (.slice (some ⟨b1, 0, none⟩) H.length H.length) = X2 := ⟨_, rfl⟩
  have ht : Btn (w.heap.size + 2) (w.heap.size + 3) w2 X2 := by rw [← hX2]; exact btn_set _ _ _ _
  have l2 := Nat.lt_of_lt_of_le l1 hb.size
  have HU3 : Hid (Box3W X2 (w.heap.size + 2) (.string (mkB T)) (.slice (some ⟨b1, 0, none⟩) H.length H.length) (.slice none 0 0)) := by rw [← hX2]; exact HU2.out.set1 _
  have HA3 := Lib.hid (HA2.out.btn ht (by omega))
  have HR3 := Lib.hid (HR2.out.btn ht (by omega))
  have HE3 := Lib.hid (HE2.out.trans (ht.below (by omega) HE2.out.size))
  have HQ3 := Lib.hid (row2_btn hr1 ht (by omega))
  have HD3 : Hid (Spn X2 (.slice a2 D.length c2) D) := HDw.out.keep HE3.out
  have l3 := Nat.lt_of_lt_of_le l2 ht.size
  have hs3 := ht.size
  clear HU1 HA1 HR1 HE1 hb HDw HH hr1 ht
  obtain ⟨u1, u2, u3, g1, g2, g3⟩ := HU2.out
  obtain ⟨y1, y2, y3⟩ := HA3.out
  go_wp2_with fail
  clear hX2 u1 u2 u3 g1 g2 g3 y1 y2 y3
  refine (HT2.out _ HD3.out).mono ?_; rintro e w4 ⟨b2, rfl, hb2, hb2s, hr2, hb⟩
  have HU4 := Lib.hid (HU3.out.keep hb)
  have HR4 := Lib.hid (HR3.out.keep hb)
  have HE4 := Lib.hid (HE3.out.trans (hb.mono HE3.out.size))
  have HQ4 := Lib.hid (HQ3.out.keep hb)
  obtain ⟨X4, hX4⟩ : ∃ X4, w4.setCell ⟨w.heap.size + 2, 2, none⟩ (.slice (some ⟨b2, 0, none⟩) D.length D.length) = X4 := ⟨_, rfl⟩
  have ht : Btn (w.heap.size + 2) (w.heap.size + 3) w4 X4 := by rw [← hX4]; exact btn_set _ _ _ _
  have l4 := Nat.lt_of_lt_of_le l3 hb.size
  have HU5 : Hid (Box3W X4 (w.heap.size + 2) (.string (mkB T)) (.slice (some ⟨b1, 0, none⟩) H.length H.length) (.slice (some ⟨b2, 0, none⟩) D.length D.length)) := by rw [← hX4]; exact HU4.out.set2 _
  have HR5 := Lib.hid (HR4.out.btn ht (by omega))
  have HE5 := Lib.hid (HE4.out.trans (ht.below (by omega) HE4.out.size))
  have HQ5 := Lib.hid (row2_btn HQ4.out ht (by omega))
  have HP5 := Lib.hid (row2_btn hr2 ht (by omega))
  have hs5 := ht.size
  have hs4 := hb.size
  obtain ⟨Z, hZ⟩ : ∃ Z, ((X4.setCell ⟨w.heap.size + 1, 0, none⟩ (.string (mkB T))).setCell ⟨w.heap.size + 1, 1, none⟩ (.slice (some ⟨b1, 0, none⟩) H.length H.length)).setCell ⟨w.heap.size + 1, 2, none⟩ (.slice (some ⟨b2, 0, none⟩) D.length D.length) = Z := ⟨_, rfl⟩
  have hz : Box3W Z (w.heap.size + 1) (.string (mkB T)) (.slice (some ⟨b1, 0, none⟩) H.length H.length) (.slice (some ⟨b2, 0, none⟩) D.length D.length) := by rw [← hZ]; exact ((HR5.out.set0 _).set1 _).set2 _
  have htz : Btn (w.heap.size + 1) (w.heap.size + 2) X4 Z := by rw [← hZ]; exact ((btn_set _ _ _ _).trans (btn_set _ _ _ _)).trans (btn_set _ _ _ _)
  have HZ : Hid (Below w.heap.size w Z) := HE5.out.trans (htz.below (by omega) HE5.out.size)
  have HQ6 := Lib.hid (row2_btn HQ5.out htz (by omega))
  have HP6 := Lib.hid (row2_btn HP5.out htz (by omega))
  have hs6 := htz.size
  clear HU3 HA3 HR3 HE3 HQ3 HD3 hb ht htz HR4 HQ4 HE4
  obtain ⟨u1, u2, u3, g1, g2, g3⟩ := HU4.out
  obtain ⟨t1, t2, t3, f1, f2, f3⟩ := HR5.out
  obtain ⟨s1, s2, s3, -, -, -⟩ := HU5.out
  go_wp2
  clear u1 u2 u3 g1 g2 g3 t1 t2 t3 f1 f2 f3 s1 s2 s3
  obtain ⟨t1, t2, t3, -, -, -⟩ := hz
  exact bodyPost_ret (v := .agg #[.string (mkB T), .slice (some ⟨b1, 0, none⟩) H.length H.length, .slice (some ⟨b2, 0, none⟩) D.length D.length]) (by simp [results, Try.results6, go_sem, t1, t2, t3]) rfl ⟨b1, b2, rfl, by omega, by omega, by omega, HQ6, HP6, HZ.out⟩

set_option maxRecDepth 100000 in
set_option maxHeartbeats 4000000 in
theorem szOwn_any (v1 v2 : Value) (O : OwT) (left : Int) (w : World) (h : Ow w v1 v2 O) (ht : O.text.length ≤ 9223372036854775807) (l0 : 0 ≤ left) (l1 : left ≤ 1048576) :
    Calls Try.prog 4 #[.agg #[.string (mkB O.text), v1, v2], .int .i64 left] w fun e w' => ∃ z : Int, e = .returned (.int .i64 z) ∧ -1 ≤ z ∧ z ≤ left ∧ (0 ≤ z → O.text.length ≤ 1048576 ∧ O.hav.length ≤ 1048576 ∧ O.dirt.length ≤ 1048576) ∧ Below w.heap.size w w' := by
  obtain ⟨T, H, D⟩ := O
  obtain ⟨a1, c1, rfl, hc1, hm1⟩ := spn_form h.hav
  obtain ⟨a2, c2, rfl, hc2, hm2⟩ := spn_form h.dirt
  dsimp only at ht hc1 hm1 hc2 hm2
  unfold maxLen at hm1 hm2
  have hal : Below w.heap.size w (w.alloc (.cells #[.string (mkB T), .slice a1 H.length c1, .slice a2 D.length c2] 24)) := (Below.refl _ _).alloc (Nat.le_refl _) _
  have H1 := Lib.hid (h.hav.keep hal)
  have H2 := Lib.hid (h.dirt.keep hal)
  have zt : (mkB T).size = T.length := mkB_size T
  clear h
  by_cases hn : left - (T.length : Int) < 0
  · go_enter Try.func4, Try.ntmps4
    go_wp2
    exact bodyPost_ret (v := .int .i64 (-1)) (by simp [results, Try.results4, go_sem]) rfl ⟨-1, rfl, by omega, by omega, fun q => by omega, hal⟩
  · obtain ⟨x, hx⟩ : ∃ x, left - (T.length : Int) = x := ⟨_, rfl⟩
    rw [hx] at hn
    have K1 := Lib.hid (szSpan2_any _ H x _ H1.out (by omega) (by omega))
    have B1 := szO_bd H.length x (by omega)
    obtain ⟨y, hy⟩ : ∃ y, szO H.length x = y := ⟨_, rfl⟩
    rw [hy] at K1 B1
    clear hy
    by_cases hm : y < 0
    · obtain rfl : y = -1 := by omega
      go_enter Try.func4, Try.ntmps4
      go_wp2_with fail
      refine K1.out.mono ?_; rintro e w' ⟨rfl, rfl⟩
      go_wp2
      exact bodyPost_ret (v := .int .i64 (-1)) (by simp [results, Try.results4, go_sem]) rfl ⟨-1, rfl, by omega, by omega, fun q => by omega, hal⟩
    · have K2 := Lib.hid (szSpan2_any _ D y _ H2.out (by omega) (by omega))
      have B2 := szO_bd D.length y (by omega)
      obtain ⟨z, hz⟩ : ∃ z, szO D.length y = z := ⟨_, rfl⟩
      rw [hz] at K2 B2
      clear hz
      by_cases hk : z < 0
      · obtain rfl : z = -1 := by omega
        go_enter Try.func4, Try.ntmps4
        go_wp2_with fail
        refine K1.out.mono ?_; rintro e w' ⟨rfl, rfl⟩
        go_wp2_with fail
        refine K2.out.mono ?_; rintro e w' ⟨rfl, rfl⟩
        go_wp2
        exact bodyPost_ret (v := .int .i64 (-1)) (by simp [results, Try.results4, go_sem]) rfl ⟨-1, rfl, by omega, by omega, fun q => by omega, hal⟩
      · go_enter Try.func4, Try.ntmps4
        go_wp2_with fail
        refine K1.out.mono ?_; rintro e w' ⟨rfl, rfl⟩
        go_wp2_with fail
        refine K2.out.mono ?_; rintro e w' ⟨rfl, rfl⟩
        go_wp2
        exact bodyPost_ret (v := .int .i64 z) (by simp [results, Try.results4, go_sem]) rfl ⟨z, rfl, by omega, by omega, fun q => ⟨by omega, by omega, by omega⟩, hal⟩

set_option maxRecDepth 100000 in
set_option maxHeartbeats 4000000 in
/-- Two caches of the same contents compare as one. -/
theorem eqOwn_same (v1 v2 u1 u2 : Value) (O : OwT) (w : World) (h : Ow w v1 v2 O) (h' : Ow w u1 u2 O) :
    Calls Try.prog 8 #[.agg #[.string (mkB O.text), v1, v2], .agg #[.string (mkB O.text), u1, u2]] w fun e w' => e = .returned (.bool true) ∧ Below w.heap.size w w' := by
  obtain ⟨T, H, D⟩ := O
  obtain ⟨a1, c1, rfl, -, -⟩ := spn_form h.hav
  obtain ⟨a2, c2, rfl, -, -⟩ := spn_form h.dirt
  obtain ⟨b1, d1, rfl, -, -⟩ := spn_form h'.hav
  obtain ⟨b2, d2, rfl, -, -⟩ := spn_form h'.dirt
  obtain ⟨W, hW⟩ : ∃ W, (w.alloc (.cells #[.string (mkB T), .slice a1 H.length c1, .slice a2 D.length c2] 29)).alloc (.cells #[.string (mkB T), .slice b1 H.length d1, .slice b2 D.length d2] 29) = W := ⟨_, rfl⟩
  have hal : Below w.heap.size w W := by rw [← hW]; exact ((Below.refl _ _).alloc (Nat.le_refl _) _).alloc (by simp) _
  have A0 : Box3 W w.heap.size (.string (mkB T)) (.slice a1 H.length c1) (.slice a2 D.length c2) := by
    rw [← hW]
    exact (new_box3 w _ _ _ _).keep ((Below.refl _ _).alloc (by simp) _)
  have B0 : Box3 W (w.heap.size + 1) (.string (mkB T)) (.slice b1 H.length d1) (.slice b2 D.length d2) := by
    rw [← hW]
    have := new_box3 (w.alloc (.cells #[.string (mkB T), .slice a1 H.length c1, .slice a2 D.length c2] 29)) (.string (mkB T)) (.slice b1 H.length d1) (.slice b2 D.length d2) 29
    simpa using this
  have H1 := Lib.hid (h.keep hal)
  have H2 := Lib.hid (h'.keep hal)
  have HA := Lib.hid A0
  have HB := Lib.hid B0
  have HE := Lib.hid hal
  have hq : eqB H H = true := by unfold eqB; simp
  have hr : eqB D D = true := by unfold eqB; simp
  have K1 : Hid (Calls Try.prog 13 #[.slice a1 H.length c1, .slice b1 H.length d1] W fun e w' => e = .returned (.bool true) ∧ Below W.heap.size W w') := by
    have := eqSpanS_any _ _ _ _ _ H1.out.hav H2.out.hav
    rwa [hq] at this
  have K2 : Hid (∀ w', Below W.heap.size W w' → Calls Try.prog 13 #[.slice a2 D.length c2, .slice b2 D.length d2] w' fun e w'' => e = .returned (.bool true) ∧ Below w'.heap.size w' w'') := fun w' hb => by
    have := eqSpanS_any _ _ _ _ _ (H1.out.keep hb).dirt (H2.out.keep hb).dirt
    rwa [hr] at this
  have q1 : ((mkB T).toList == (mkB T).toList) = true := by simp
  have q2 : ((mkB T).toList != (mkB T).toList) = false := by simp
  clear hal A0 B0 h h' H1 H2 hq hr
  obtain ⟨x1, x2, x3⟩ := HA.out
  obtain ⟨y1, y2, y3⟩ := HB.out
  go_enter Try.func8, Try.ntmps8
  go_wp2_with fail
  clear x1 x2 x3 y1 y2 y3 hW
  refine K1.out.mono ?_; rintro e w1 ⟨rfl, hb1⟩
  have HA1 := Lib.hid (HA.out.keep hb1)
  have HB1 := Lib.hid (HB.out.keep hb1)
  have HE1 := Lib.hid (HE.out.trans (hb1.mono HE.out.size))
  have K3 := Lib.hid (K2.out w1 hb1)
  clear hb1
  obtain ⟨x1, x2, x3⟩ := HA1.out
  obtain ⟨y1, y2, y3⟩ := HB1.out
  go_wp2_with fail
  refine K3.out.mono ?_; rintro e w2 ⟨rfl, hb2⟩
  have HE2 := Lib.hid (HE1.out.trans (hb2.mono HE1.out.size))
  clear hb2 x1 x2 x3 y1 y2 y3
  go_wp2
  go_ret
  exact ⟨rfl, HE2.out⟩

/-- .. the same, read as a cache. -/
theorem toOwn_ow (v1 v2 : Value) (O : OwT) (w : World) (h : Ow w v1 v2 O) (h1 : O.hav.length ≤ 1048576) (h2 : O.dirt.length ≤ 1048576) :
    Calls Try.prog 6 #[.agg #[.string (mkB O.text), v1, v2]] w fun e w' => ∃ p1 k1 p2 k2, e = .returned (.agg #[.string (mkB O.text), .slice p1 O.hav.length k1, .slice p2 O.dirt.length k2]) ∧ Hid (Ow w' (.slice p1 O.hav.length k1) (.slice p2 O.dirt.length k2) O) ∧ Below w.heap.size w w' :=
  (toOwn_any v1 v2 O w h h1 h2).mono fun e w' ⟨b1, b2, he, _, _, _, r1, r2, hb⟩ =>
    ⟨_, _, _, _, he, ⟨row2_spn r1.out (by unfold maxLen; omega), row2_spn r2.out (by unfold maxLen; omega)⟩, hb⟩

end Go.Proofs.Ytldafphfnkamjaa
