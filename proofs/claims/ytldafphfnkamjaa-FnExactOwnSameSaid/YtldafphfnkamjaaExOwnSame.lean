/-
  laws.FnExactOwnSame returns true at every input: the walk of the law. No condition.
-/
import Derived.Test.YtldafphfnkamjaaOwnSame
import Derived.Deep.RegionHeld3
namespace Go.Proofs.Ytldafphfnkamjaa.exOwnSame
open Go.RowKit

set_option maxRecDepth 100000 in
set_option maxHeartbeats 8000000 in
theorem walk (v1 v2 : Value) (S : OwT) (u1 u2 : Value) (R : OwT) (w : World) (h : Ow w v1 v2 S) (hz : S.text.length ≤ 9223372036854775807) (h' : Ow w u1 u2 R) (hz' : R.text.length ≤ 9223372036854775807) :
    Calls Try.prog 3 #[.agg #[.string (mkB S.text), v1, v2], .agg #[.string (mkB R.text), u1, u2]] w fun e w' => e = .returned (.bool true) ∧ Below w.heap.size w w' := by
  obtain ⟨a1, c1, rfl, -, -⟩ := spn_form h.hav
  obtain ⟨a2, c2, rfl, -, -⟩ := spn_form h.dirt
  obtain ⟨b1, d1, rfl, -, -⟩ := spn_form h'.hav
  obtain ⟨b2, d2, rfl, -, -⟩ := spn_form h'.dirt
  obtain ⟨W, hW⟩ : ∃ W, (w.alloc (.cells #[.string (mkB S.text), .slice a1 S.hav.length c1, .slice a2 S.dirt.length c2] 24)).alloc (.cells #[.string (mkB R.text), .slice b1 R.hav.length d1, .slice b2 R.dirt.length d2] 24) = W := ⟨_, rfl⟩
  have hal : Below w.heap.size w W := by rw [← hW]; exact ((Below.refl _ _).alloc (Nat.le_refl _) _).alloc (by simp) _
  have A0 : Box3 W w.heap.size (.string (mkB S.text)) (.slice a1 S.hav.length c1) (.slice a2 S.dirt.length c2) := by rw [← hW]; exact (new_box3 w _ _ _ _).keep ((Below.refl _ _).alloc (Nat.le_refl _) _)
  have B0 : Box3 W (w.heap.size + 1) (.string (mkB R.text)) (.slice b1 R.hav.length d1) (.slice b2 R.dirt.length d2) := by
    rw [← hW]
    have := new_box3 (w.alloc (.cells #[.string (mkB S.text), .slice a1 S.hav.length c1, .slice a2 S.dirt.length c2] 24)) (.string (mkB R.text)) (.slice b1 R.hav.length d1) (.slice b2 R.dirt.length d2) 24
    simpa using this
  have E_0 := Lib.hid hal
  have HH := Lib.hid h
  have HZ := Lib.hid hz
  have HH2 := Lib.hid h'
  have HZ2 := Lib.hid hz'
  have bA_0 := Lib.hid A0
  have bB_0 := Lib.hid B0
  clear h hz hal A0 h' hz' B0
  obtain ⟨x00, x01, x02⟩ := bA_0.out
  go_enter Try.func3, Try.ntmps3
  go_wp2_with fail
  clear hW
  refine (szOwn_any _ _ S 1048576 _ (HH.out.keep E_0.out) HZ.out (by omega) (by omega)).mono ?_; rintro e w1 ⟨z1, rfl, p1, p2, P, hb⟩
  have bA_2 := Lib.hid (bA_0.out.keep hb)
  have bB_3 := Lib.hid (bB_0.out.keep hb)
  have E_4 := Lib.hid (E_0.out.trans (hb.mono E_0.out.size))
  have S_4 := Lib.hid hb.size
  clear x00 x01 x02
  clear bA_0 bB_0 E_0 hb
  by_cases hz1 : z1 < 0
  · clear P
    go_wp2
    go_ret
    exact ⟨rfl, E_4.out⟩
  have BD := Lib.hid (P (by omega))
  clear P
  obtain ⟨x00, x01, x02⟩ := bB_3.out
  go_wp2_with fail
  refine (szOwn_any _ _ R z1 _ (HH2.out.keep E_4.out) HZ2.out (by omega) (by omega)).mono ?_; rintro e w5 ⟨z5, rfl, p1, p2, P, hb⟩
  have bA_6 := Lib.hid (bA_2.out.keep hb)
  have bB_7 := Lib.hid (bB_3.out.keep hb)
  have E_8 := Lib.hid (E_4.out.trans (hb.mono E_4.out.size))
  have S_8 := Lib.hid hb.size
  clear x00 x01 x02
  clear bA_2 bB_3 E_4 hb
  by_cases hz5 : z5 < 0
  · clear P
    go_wp2
    go_ret
    exact ⟨rfl, E_8.out⟩
  have BD2 := Lib.hid (P (by omega))
  clear P
  obtain ⟨x00, x01, x02⟩ := bA_6.out
  obtain ⟨x10, x11, x12⟩ := bB_7.out
  go_wp2_with fail
  have hD : Below w5.heap.size w5 w5.drew := (Below.refl _ _).drew
  go_region_held3 (fun w' => w'.cell? ⟨w.heap.size, 0, none⟩ = some (.string (mkB S.text)) ∧ w'.cell? ⟨w.heap.size, 1, none⟩ = some (.slice a1 S.hav.length c1) ∧ w'.cell? ⟨w.heap.size, 2, none⟩ = some (.slice a2 S.dirt.length c2) ∧ w'.cell? ⟨w.heap.size + 1, 0, none⟩ = some (.string (mkB R.text)) ∧ w'.cell? ⟨w.heap.size + 1, 1, none⟩ = some (.slice b1 R.hav.length d1) ∧ w'.cell? ⟨w.heap.size + 1, 2, none⟩ = some (.slice b2 R.dirt.length d2))
    (refine ⟨?_, ?_, ?_, ?_, ?_, ?_⟩ <;> first | (go_keep; done) | (refine cell_keep hb ?_; first | (go_keep; done) | (go_simp; done)))
    (first
      | (go_at_call 5; refine (specOwnSame_any _ _ _ _ S R _ MT2.out MS.out).mono ?_; rintro e r9_2 ⟨rfl, hb⟩; have hR2 := hR1.trans (hb.mono hR1.size); clear MT MT2 MS)
      | (go_at_call 6; refine (toOwn_ow _ _ R _ (HH2.out.keep ((E_8.out).trans (hR0.mono E_8.out.size))) BD2.out.2.1 BD2.out.2.2).mono ?_; rintro e r9_1 ⟨s1, j1, s2, j2, rfl, MS, hb⟩; have hR1 := hR0.trans (hb.mono hR0.size); have MT2 := Lib.hid (MT.out.keep hb))
      | (go_at_call 6; refine (toOwn_ow _ _ S _ (HH.out.keep ((E_8.out).trans (hD.mono E_8.out.size))) BD.out.2.1 BD.out.2.2).mono ?_; rintro e r9_0 ⟨t1, k1, t2, k2, rfl, MT, hb⟩; have hR0 := hD.trans (hb.mono hD.size)))
  have hbb : Below w5.heap.size w5 r9_2 := hR2
  clear hR0 hR1 hR2 hb hD
  have bA_10 := Lib.hid (bA_6.out.keep hbb)
  have bB_11 := Lib.hid (bB_7.out.keep hbb)
  have E_12 := Lib.hid (E_8.out.trans (hbb.mono E_8.out.size))
  have S_12 := Lib.hid hbb.size
  clear x00 x01 x02 x10 x11 x12
  clear bA_6 bB_7 E_8 hbb
  obtain ⟨x00, x01, x02⟩ := bA_10.out
  go_wp2_with fail
  refine (toOwn_ow _ _ S _ (HH.out.keep E_12.out) BD.out.2.1 BD.out.2.2).mono ?_; rintro e w13 ⟨f1, fk1, f2, fk2, rfl, M, hb⟩
  have bA_14 := Lib.hid (bA_10.out.keep hb)
  have bB_15 := Lib.hid (bB_11.out.keep hb)
  have E_16 := Lib.hid (E_12.out.trans (hb.mono E_12.out.size))
  have S_16 := Lib.hid hb.size
  clear x00 x01 x02
  clear bA_10 bB_11 E_12 hb
  have m2_17 := M
  clear M
  obtain ⟨W18, hW18⟩ : ∃ X, w13.alloc (.cells #[.string (mkB S.text), .slice f1 S.hav.length fk1, .slice f2 S.dirt.length fk2] 29) = X := ⟨_, rfl⟩
  have hb : Below w13.heap.size w13 W18 := by rw [← hW18]; exact (Below.refl _ _).alloc (Nat.le_refl _) _
  have hB : Box3 W18 w13.heap.size (.string (mkB S.text)) (.slice f1 S.hav.length fk1) (.slice f2 S.dirt.length fk2) := by rw [← hW18]; exact new_box3 _ _ _ _ _
  have bA_19 := Lib.hid (bA_14.out.keep hb)
  have bB_20 := Lib.hid (bB_15.out.keep hb)
  have m2_21 := Lib.hid (m2_17.out.keep hb)
  have E_22 := Lib.hid (E_16.out.trans (hb.mono E_16.out.size))
  have S_22 := Lib.hid hb.size
  clear bA_14 bB_15 m2_17 E_16 hb
  have bx_23 := Lib.hid hB
  clear hB
  obtain ⟨x00, x01, x02⟩ := bB_20.out
  go_wp2_with fail
  clear hW18
  refine (toOwn_ow _ _ R _ (HH2.out.keep E_22.out) BD2.out.2.1 BD2.out.2.2).mono ?_; rintro e w24 ⟨g1, gk1, g2, gk2, rfl, M, hb⟩
  have bA_25 := Lib.hid (bA_19.out.keep hb)
  have bB_26 := Lib.hid (bB_20.out.keep hb)
  have m2_27 := Lib.hid (m2_21.out.keep hb)
  have bx_28 := Lib.hid (bx_23.out.keep hb)
  have E_29 := Lib.hid (E_22.out.trans (hb.mono E_22.out.size))
  have S_29 := Lib.hid hb.size
  clear x00 x01 x02
  clear bA_19 bB_20 m2_21 bx_23 E_22 hb
  have m3_30 := M
  clear M
  obtain ⟨W31, hW31⟩ : ∃ X, w24.alloc (.cells #[.string (mkB R.text), .slice g1 R.hav.length gk1, .slice g2 R.dirt.length gk2] 29) = X := ⟨_, rfl⟩
  have hb : Below w24.heap.size w24 W31 := by rw [← hW31]; exact (Below.refl _ _).alloc (Nat.le_refl _) _
  have hB : Box3 W31 w24.heap.size (.string (mkB R.text)) (.slice g1 R.hav.length gk1) (.slice g2 R.dirt.length gk2) := by rw [← hW31]; exact new_box3 _ _ _ _ _
  have bA_32 := Lib.hid (bA_25.out.keep hb)
  have bB_33 := Lib.hid (bB_26.out.keep hb)
  have m2_34 := Lib.hid (m2_27.out.keep hb)
  have bx_35 := Lib.hid (bx_28.out.keep hb)
  have m3_36 := Lib.hid (m3_30.out.keep hb)
  have E_37 := Lib.hid (E_29.out.trans (hb.mono E_29.out.size))
  have S_37 := Lib.hid hb.size
  clear bA_25 bB_26 m2_27 bx_28 m3_30 E_29 hb
  have by_38 := Lib.hid hB
  clear hB
  obtain ⟨x00, x01, x02⟩ := bx_35.out
  obtain ⟨x10, x11, x12⟩ := by_38.out
  go_wp2_with fail
  clear hW31
  refine (implOwnSame_any _ _ _ _ S R _ m2_34.out m3_36.out).mono ?_; rintro e w39 ⟨rfl, hb⟩
  have bA_40 := Lib.hid (bA_32.out.keep hb)
  have bB_41 := Lib.hid (bB_33.out.keep hb)
  have m2_42 := Lib.hid (m2_34.out.keep hb)
  have bx_43 := Lib.hid (bx_35.out.keep hb)
  have m3_44 := Lib.hid (m3_36.out.keep hb)
  have by_45 := Lib.hid (by_38.out.keep hb)
  have E_46 := Lib.hid (E_37.out.trans (hb.mono E_37.out.size))
  have S_46 := Lib.hid hb.size
  clear x00 x01 x02 x10 x11 x12
  clear bA_32 bB_33 m2_34 bx_35 m3_36 by_38 E_37 hb
  have hqq : (sameO S R != sameO S R) = false := by simp
  generalize sameO S R = q at *
  obtain ⟨x00, x01, x02⟩ := bx_43.out
  obtain ⟨x10, x11, x12⟩ := bA_40.out
  go_wp2_with fail
  have hD : Below w39.heap.size w39 w39.drew := (Below.refl _ _).drew
  go_region_held3 (fun w' => w'.cell? ⟨w13.heap.size, 0, none⟩ = some (.string (mkB S.text)) ∧ w'.cell? ⟨w13.heap.size, 1, none⟩ = some (.slice f1 S.hav.length fk1) ∧ w'.cell? ⟨w13.heap.size, 2, none⟩ = some (.slice f2 S.dirt.length fk2) ∧ w'.cell? ⟨w.heap.size, 0, none⟩ = some (.string (mkB S.text)) ∧ w'.cell? ⟨w.heap.size, 1, none⟩ = some (.slice a1 S.hav.length c1) ∧ w'.cell? ⟨w.heap.size, 2, none⟩ = some (.slice a2 S.dirt.length c2))
    (refine ⟨?_, ?_, ?_, ?_, ?_, ?_⟩ <;> first | (go_keep; done) | (refine cell_keep hb ?_; first | (go_keep; done) | (go_simp; done)))
    (first
      | (go_at_call 8; refine (eqOwn_same _ _ _ _ S _ (m2_42.out.keep hR0) MT.out).mono ?_; rintro e r47_1 ⟨rfl, hb⟩; have hR1 := hR0.trans (hb.mono hR0.size); clear MT)
      | (go_at_call 6; refine (toOwn_ow _ _ S _ (HH.out.keep ((E_46.out).trans (hD.mono E_46.out.size))) BD.out.2.1 BD.out.2.2).mono ?_; rintro e r47_0 ⟨t1, k1, t2, k2, rfl, MT, hb⟩; have hR0 := hD.trans (hb.mono hD.size)))
  have hbb : Below w39.heap.size w39 r47_1 := hR1
  clear hR0 hR1 hb hD
  have bA_48 := Lib.hid (bA_40.out.keep hbb)
  have bB_49 := Lib.hid (bB_41.out.keep hbb)
  have m2_50 := Lib.hid (m2_42.out.keep hbb)
  have bx_51 := Lib.hid (bx_43.out.keep hbb)
  have m3_52 := Lib.hid (m3_44.out.keep hbb)
  have by_53 := Lib.hid (by_45.out.keep hbb)
  have E_54 := Lib.hid (E_46.out.trans (hbb.mono E_46.out.size))
  have S_54 := Lib.hid hbb.size
  clear x00 x01 x02 x10 x11 x12
  clear bA_40 bB_41 m2_42 bx_43 m3_44 by_45 E_46 hbb
  obtain ⟨x00, x01, x02⟩ := by_53.out
  obtain ⟨x10, x11, x12⟩ := bB_49.out
  go_wp2_with fail
  have hD : Below r47_1.heap.size r47_1 r47_1.drew := (Below.refl _ _).drew
  go_region_held3 (fun w' => w'.cell? ⟨w24.heap.size, 0, none⟩ = some (.string (mkB R.text)) ∧ w'.cell? ⟨w24.heap.size, 1, none⟩ = some (.slice g1 R.hav.length gk1) ∧ w'.cell? ⟨w24.heap.size, 2, none⟩ = some (.slice g2 R.dirt.length gk2) ∧ w'.cell? ⟨w.heap.size + 1, 0, none⟩ = some (.string (mkB R.text)) ∧ w'.cell? ⟨w.heap.size + 1, 1, none⟩ = some (.slice b1 R.hav.length d1) ∧ w'.cell? ⟨w.heap.size + 1, 2, none⟩ = some (.slice b2 R.dirt.length d2))
    (refine ⟨?_, ?_, ?_, ?_, ?_, ?_⟩ <;> first | (go_keep; done) | (refine cell_keep hb ?_; first | (go_keep; done) | (go_simp; done)))
    (first
      | (go_at_call 8; refine (eqOwn_same _ _ _ _ R _ (m3_52.out.keep hR0) MT.out).mono ?_; rintro e r55_1 ⟨rfl, hb⟩; have hR1 := hR0.trans (hb.mono hR0.size); clear MT)
      | (go_at_call 6; refine (toOwn_ow _ _ R _ (HH2.out.keep ((E_54.out).trans (hD.mono E_54.out.size))) BD2.out.2.1 BD2.out.2.2).mono ?_; rintro e r55_0 ⟨t1, k1, t2, k2, rfl, MT, hb⟩; have hR0 := hD.trans (hb.mono hD.size)))
  have hbb : Below r47_1.heap.size r47_1 r55_1 := hR1
  clear hR0 hR1 hb hD
  have bA_56 := Lib.hid (bA_48.out.keep hbb)
  have bB_57 := Lib.hid (bB_49.out.keep hbb)
  have m2_58 := Lib.hid (m2_50.out.keep hbb)
  have bx_59 := Lib.hid (bx_51.out.keep hbb)
  have m3_60 := Lib.hid (m3_52.out.keep hbb)
  have by_61 := Lib.hid (by_53.out.keep hbb)
  have E_62 := Lib.hid (E_54.out.trans (hbb.mono E_54.out.size))
  have S_62 := Lib.hid hbb.size
  clear x00 x01 x02 x10 x11 x12
  clear bA_48 bB_49 m2_50 bx_51 m3_52 by_53 E_54 hbb
  go_wp2
  go_ret
  exact ⟨rfl, E_62.out⟩

end Go.Proofs.Ytldafphfnkamjaa.exOwnSame
