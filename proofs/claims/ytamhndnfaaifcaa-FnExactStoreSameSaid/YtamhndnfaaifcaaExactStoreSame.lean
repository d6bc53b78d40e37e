/-
  laws.FnExactStoreSame returns true at every input: the walk of the law. No condition.
-/
import Derived.Test.YtamhndnfaaifcaaStoOk
import Derived.Test.YtamhndnfaaifcaaStoBox
import Derived.Test.YtamhndnfaaifcaaStoSame
import Derived.Deep.RegionHeld3
namespace Go.Proofs.Ytamhndnfaaifcaa.exStoreSame
open Go.RowKit

set_option maxRecDepth 100000 in
set_option maxHeartbeats 8000000 in
theorem walk (v0 v1 v2 v3 v4 : Value) (S : StT) (u0 u1 u2 u3 u4 : Value) (R : StT) (w : World) (h : Sto w v0 v1 v2 v3 v4 S) (hz : szT S) (h' : Sto w u0 u1 u2 u3 u4 R) (hz' : szT R) :
    Calls Try.prog 9 #[.agg #[v0, v1, v2, v3, v4], .agg #[u0, u1, u2, u3, u4]] w fun e w' => e = .returned (.bool true) ∧ Below w.heap.size w w' := by
  obtain ⟨a0, c0, rfl⟩ := h.now.form
  obtain ⟨a1, c1, rfl⟩ := h.sure.form
  obtain ⟨a2, c2, rfl⟩ := h.last.form
  obtain ⟨a3, c3, rfl⟩ := h.slast.form
  obtain ⟨a4, c4, rfl⟩ := h.floors.form
  obtain ⟨b0, d0, rfl⟩ := h'.now.form
  obtain ⟨b1, d1, rfl⟩ := h'.sure.form
  obtain ⟨b2, d2, rfl⟩ := h'.last.form
  obtain ⟨b3, d3, rfl⟩ := h'.slast.form
  obtain ⟨b4, d4, rfl⟩ := h'.floors.form
  obtain ⟨W, hW⟩ : ∃ W, (w.alloc (.cells #[.slice a0 S.now.length c0, .slice a1 S.sure.length c1, .slice a2 S.last.length c2, .slice a3 S.slast.length c3, .slice a4 S.floors.length c4] 30)).alloc (.cells #[.slice b0 R.now.length d0, .slice b1 R.sure.length d1, .slice b2 R.last.length d2, .slice b3 R.slast.length d3, .slice b4 R.floors.length d4] 30) = W := ⟨_, rfl⟩
  have hal : Below w.heap.size w W := by rw [← hW]; exact ((Below.refl _ _).alloc (Nat.le_refl _) _).alloc (by simp) _
  have A0 : Box5 W w.heap.size (.slice a0 S.now.length c0) (.slice a1 S.sure.length c1) (.slice a2 S.last.length c2) (.slice a3 S.slast.length c3) (.slice a4 S.floors.length c4) := by rw [← hW]; exact (new_box5 w _ _ _ _ _ _).keep ((Below.refl _ _).alloc (Nat.le_refl _) _)
  have B0 : Box5 W (w.heap.size + 1) (.slice b0 R.now.length d0) (.slice b1 R.sure.length d1) (.slice b2 R.last.length d2) (.slice b3 R.slast.length d3) (.slice b4 R.floors.length d4) := by
    rw [← hW]
    have := new_box5 (w.alloc (.cells #[.slice a0 S.now.length c0, .slice a1 S.sure.length c1, .slice a2 S.last.length c2, .slice a3 S.slast.length c3, .slice a4 S.floors.length c4] 30)) (.slice b0 R.now.length d0) (.slice b1 R.sure.length d1) (.slice b2 R.last.length d2) (.slice b3 R.slast.length d3) (.slice b4 R.floors.length d4) 30
    simpa using this
  have hl : w.heap.size < W.heap.size := by rw [← hW]; simp; omega
  have E_0 := Lib.hid hal
  have S_0 := Lib.hid hl
  have HH := Lib.hid h
  have HZ := Lib.hid hz
  have bA_0 := Lib.hid A0
  have HH2 := Lib.hid h'
  have HZ2 := Lib.hid hz'
  have bB_0 := Lib.hid B0
  clear h hz hal hl A0 h' hz' B0
  obtain ⟨x00, x01, x02, x03, x04⟩ := bA_0.out
  go_enter Try.func9, Try.ntmps9
  go_wp2_with fail
  clear hW
  refine (szStore_any _ _ _ _ _ S 1048576 _ (HH.out.keep E_0.out) HZ.out.1 HZ.out.2 (by omega) (by omega)).mono ?_; rintro e w1 ⟨z1, rfl, p1, p2, P, hb⟩
  have bA_2 := Lib.hid (bA_0.out.keep hb)
  have bB_3 := Lib.hid (bB_0.out.keep hb)
  have E_4 := Lib.hid (E_0.out.trans (hb.mono E_0.out.size))
  have S_4 := Lib.hid hb.size
  clear x00 x01 x02 x03 x04
  clear bA_0 bB_0 E_0 hb
  by_cases hz4 : z1 < 0
  · clear P
    go_wp2
    go_ret
    exact ⟨rfl, E_4.out⟩
  have BD := Lib.hid (P (by omega))
  clear P
  obtain ⟨x00, x01, x02, x03, x04⟩ := bB_3.out
  go_wp2_with fail
  refine (szStore_any _ _ _ _ _ R z1 _ (HH2.out.keep E_4.out) HZ2.out.1 HZ2.out.2 (by omega) (by omega)).mono ?_; rintro e w5 ⟨z5, rfl, p1, p2, P, hb⟩
  have bA_6 := Lib.hid (bA_2.out.keep hb)
  have bB_7 := Lib.hid (bB_3.out.keep hb)
  have E_8 := Lib.hid (E_4.out.trans (hb.mono E_4.out.size))
  have S_8 := Lib.hid hb.size
  clear x00 x01 x02 x03 x04
  clear bA_2 bB_3 E_4 hb
  by_cases hz8 : z5 < 0
  · clear P
    go_wp2
    go_ret
    exact ⟨rfl, E_8.out⟩
  have BD2 := Lib.hid (P (by omega))
  clear P
  obtain ⟨x00, x01, x02, x03, x04⟩ := bA_6.out
  obtain ⟨x10, x11, x12, x13, x14⟩ := bB_7.out
  go_wp2_with fail
  have hD : Below w5.heap.size w5 w5.drew := (Below.refl _ _).drew
  go_region_held3 (fun w' => w'.cell? ⟨w.heap.size, 0, none⟩ = some (.slice a0 S.now.length c0) ∧ w'.cell? ⟨w.heap.size, 1, none⟩ = some (.slice a1 S.sure.length c1) ∧ w'.cell? ⟨w.heap.size, 2, none⟩ = some (.slice a2 S.last.length c2) ∧ w'.cell? ⟨w.heap.size, 3, none⟩ = some (.slice a3 S.slast.length c3) ∧ w'.cell? ⟨w.heap.size, 4, none⟩ = some (.slice a4 S.floors.length c4) ∧ w'.cell? ⟨w.heap.size + 1, 0, none⟩ = some (.slice b0 R.now.length d0) ∧ w'.cell? ⟨w.heap.size + 1, 1, none⟩ = some (.slice b1 R.sure.length d1) ∧ w'.cell? ⟨w.heap.size + 1, 2, none⟩ = some (.slice b2 R.last.length d2) ∧ w'.cell? ⟨w.heap.size + 1, 3, none⟩ = some (.slice b3 R.slast.length d3) ∧ w'.cell? ⟨w.heap.size + 1, 4, none⟩ = some (.slice b4 R.floors.length d4))
    (refine ⟨?_, ?_, ?_, ?_, ?_, ?_, ?_, ?_, ?_, ?_⟩ <;> first | (go_keep; done) | (refine cell_keep hb ?_; first | (go_keep; done) | (go_simp; done)))
    (first
      | (go_at_call 28; refine (specSame_any _ _ _ _ _ _ _ _ _ _ S R _ MT2.out.sto MS.out.sto).mono ?_; rintro e r9_2 ⟨rfl, hb⟩; have hR2 := hR1.trans (hb.mono hR1.size); clear MT MT2 MS)
      | (go_at_call 17; refine (toStore_any _ _ _ _ _ R _ (HH2.out.keep ((E_8.out).trans (hR0.mono E_8.out.size))) BD2.out.le).mono ?_; rintro e r9_1 ⟨s0, s1, s2, s3, s4, rfl, MS, hb⟩; have hR1 := hR0.trans (hb.mono hR0.size); have MT2 := Lib.hid (MT.out.keep hb))
      | (go_at_call 17; refine (toStore_any _ _ _ _ _ S _ (HH.out.keep ((E_8.out).trans (hD.mono E_8.out.size))) BD.out.le).mono ?_; rintro e r9_0 ⟨t0, t1, t2, t3, t4, rfl, MT, hb⟩; have hR0 := hD.trans (hb.mono hD.size)))
  have hbb : Below w5.heap.size w5 r9_2 := hR2
  clear hR0 hR1 hR2 hb hD
  have bA_10 := Lib.hid (bA_6.out.keep hbb)
  have bB_11 := Lib.hid (bB_7.out.keep hbb)
  have E_12 := Lib.hid (E_8.out.trans (hbb.mono E_8.out.size))
  have S_12 := Lib.hid hbb.size
  clear x00 x01 x02 x03 x04 x10 x11 x12 x13 x14
  clear bA_6 bB_7 E_8 hbb
  obtain ⟨x00, x01, x02, x03, x04⟩ := bA_10.out
  go_wp2_with fail
  refine (toStore_any _ _ _ _ _ S _ (HH.out.keep E_12.out) BD.out.le).mono ?_; rintro e w13 ⟨s0, s1, s2, s3, s4, rfl, M, hb⟩
  have bA_14 := Lib.hid (bA_10.out.keep hb)
  have bB_15 := Lib.hid (bB_11.out.keep hb)
  have E_16 := Lib.hid (E_12.out.trans (hb.mono E_12.out.size))
  have S_16 := Lib.hid hb.size
  clear x00 x01 x02 x03 x04
  clear bA_10 bB_11 E_12 hb
  have m2_17 := M
  clear M
  obtain ⟨ps0, cs0, rfl⟩ := m2_17.out.a.vls.form
  obtain ⟨ps1, cs1, rfl⟩ := m2_17.out.b.vls.form
  obtain ⟨ps2, cs2, rfl⟩ := m2_17.out.c.vls.form
  obtain ⟨ps3, cs3, rfl⟩ := m2_17.out.d.vls.form
  obtain ⟨ps4, cs4, rfl⟩ := m2_17.out.e.vls.form
  obtain ⟨W18, hW18⟩ : ∃ X, w13.alloc (.cells #[.slice ps0 S.n5.a cs0, .slice ps1 S.n5.b cs1, .slice ps2 S.n5.c cs2, .slice ps3 S.n5.d cs3, .slice ps4 S.n5.e cs4] 25) = X := ⟨_, rfl⟩
  have hb : Below w13.heap.size w13 W18 := by rw [← hW18]; exact (Below.refl _ _).alloc (Nat.le_refl _) _
  have hB : Box5 W18 w13.heap.size (.slice ps0 S.n5.a cs0) (.slice ps1 S.n5.b cs1) (.slice ps2 S.n5.c cs2) (.slice ps3 S.n5.d cs3) (.slice ps4 S.n5.e cs4) := by rw [← hW18]; exact new_box5 _ _ _ _ _ _ _
  have hl : w13.heap.size < W18.heap.size := by rw [← hW18]; simp
  have bA_19 := Lib.hid (bA_14.out.keep hb)
  have bB_20 := Lib.hid (bB_15.out.keep hb)
  have m2_21 := Lib.hid (m2_17.out.keep hb)
  have E_22 := Lib.hid (E_16.out.trans (hb.mono E_16.out.size))
  have S_22 := Lib.hid hb.size
  clear bA_14 bB_15 m2_17 E_16 hb
  have bx_23 := Lib.hid hB
  have S_23b := Lib.hid hl
  clear hB hl
  obtain ⟨x00, x01, x02, x03, x04⟩ := bB_20.out
  go_wp2_with fail
  clear hW18
  refine (toStore_any _ _ _ _ _ R _ (HH2.out.keep E_22.out) BD2.out.le).mono ?_; rintro e w24 ⟨t0, t1, t2, t3, t4, rfl, M, hb⟩
  have bA_25 := Lib.hid (bA_19.out.keep hb)
  have bB_26 := Lib.hid (bB_20.out.keep hb)
  have m2_27 := Lib.hid (m2_21.out.keep hb)
  have bx_28 := Lib.hid (bx_23.out.keep hb)
  have E_29 := Lib.hid (E_22.out.trans (hb.mono E_22.out.size))
  have S_29 := Lib.hid hb.size
  clear x00 x01 x02 x03 x04
  clear bA_19 bB_20 m2_21 bx_23 E_22 hb
  have m3_30 := M
  clear M
  obtain ⟨pt0, ct0, rfl⟩ := m3_30.out.a.vls.form
  obtain ⟨pt1, ct1, rfl⟩ := m3_30.out.b.vls.form
  obtain ⟨pt2, ct2, rfl⟩ := m3_30.out.c.vls.form
  obtain ⟨pt3, ct3, rfl⟩ := m3_30.out.d.vls.form
  obtain ⟨pt4, ct4, rfl⟩ := m3_30.out.e.vls.form
  obtain ⟨W31, hW31⟩ : ∃ X, w24.alloc (.cells #[.slice pt0 R.n5.a ct0, .slice pt1 R.n5.b ct1, .slice pt2 R.n5.c ct2, .slice pt3 R.n5.d ct3, .slice pt4 R.n5.e ct4] 25) = X := ⟨_, rfl⟩
  have hb : Below w24.heap.size w24 W31 := by rw [← hW31]; exact (Below.refl _ _).alloc (Nat.le_refl _) _
  have hB : Box5 W31 w24.heap.size (.slice pt0 R.n5.a ct0) (.slice pt1 R.n5.b ct1) (.slice pt2 R.n5.c ct2) (.slice pt3 R.n5.d ct3) (.slice pt4 R.n5.e ct4) := by rw [← hW31]; exact new_box5 _ _ _ _ _ _ _
  have hl : w24.heap.size < W31.heap.size := by rw [← hW31]; simp
  have bA_32 := Lib.hid (bA_25.out.keep hb)
  have bB_33 := Lib.hid (bB_26.out.keep hb)
  have m2_34 := Lib.hid (m2_27.out.keep hb)
  have bx_35 := Lib.hid (bx_28.out.keep hb)
  have m3_36 := Lib.hid (m3_30.out.keep hb)
  have E_37 := Lib.hid (E_29.out.trans (hb.mono E_29.out.size))
  have S_37 := Lib.hid hb.size
  clear bA_25 bB_26 m2_27 bx_28 m3_30 E_29 hb
  have by_38 := Lib.hid hB
  have S_38b := Lib.hid hl
  clear hB hl
  obtain ⟨x00, x01, x02, x03, x04⟩ := bx_35.out
  obtain ⟨x10, x11, x12, x13, x14⟩ := by_38.out
  go_wp2_with fail
  clear hW31
  refine (implSame_any _ _ _ _ _ _ _ _ _ _ S R _ m2_34.out.sto m3_36.out.sto).mono ?_; rintro e w39 ⟨rfl, hb⟩
  have bA_40 := Lib.hid (bA_32.out.keep hb)
  have bB_41 := Lib.hid (bB_33.out.keep hb)
  have m2_42 := Lib.hid (m2_34.out.keep hb)
  have bx_43 := Lib.hid (bx_35.out.keep hb)
  have m3_44 := Lib.hid (m3_36.out.keep hb)
  have by_45 := Lib.hid (by_38.out.keep hb)
  have E_46 := Lib.hid (E_37.out.trans (hb.mono E_37.out.size))
  have S_46 := Lib.hid hb.size
  clear x00 x01 x02 x03 x04 x10 x11 x12 x13 x14
  clear bA_32 bB_33 m2_34 bx_35 m3_36 by_38 E_37 hb
  have hqq : (sameB S R != sameB S R) = false := by simp
  generalize sameB S R = q at *
  obtain ⟨x00, x01, x02, x03, x04⟩ := bx_43.out
  obtain ⟨x10, x11, x12, x13, x14⟩ := bA_40.out
  go_wp2_with fail
  have hD : Below w39.heap.size w39 w39.drew := (Below.refl _ _).drew
  go_region_held3 (fun w' => w'.cell? ⟨w13.heap.size, 0, none⟩ = some (.slice ps0 S.n5.a cs0) ∧ w'.cell? ⟨w13.heap.size, 1, none⟩ = some (.slice ps1 S.n5.b cs1) ∧ w'.cell? ⟨w13.heap.size, 2, none⟩ = some (.slice ps2 S.n5.c cs2) ∧ w'.cell? ⟨w13.heap.size, 3, none⟩ = some (.slice ps3 S.n5.d cs3) ∧ w'.cell? ⟨w13.heap.size, 4, none⟩ = some (.slice ps4 S.n5.e cs4) ∧ w'.cell? ⟨w.heap.size, 0, none⟩ = some (.slice a0 S.now.length c0) ∧ w'.cell? ⟨w.heap.size, 1, none⟩ = some (.slice a1 S.sure.length c1) ∧ w'.cell? ⟨w.heap.size, 2, none⟩ = some (.slice a2 S.last.length c2) ∧ w'.cell? ⟨w.heap.size, 3, none⟩ = some (.slice a3 S.slast.length c3) ∧ w'.cell? ⟨w.heap.size, 4, none⟩ = some (.slice a4 S.floors.length c4))
    (refine ⟨?_, ?_, ?_, ?_, ?_, ?_, ?_, ?_, ?_, ?_⟩ <;> first | (go_keep; done) | (refine cell_keep hb ?_; first | (go_keep; done) | (go_simp; done)))
    (first
      | (go_at_call 12; refine (eqStore_same _ _ _ _ _ _ _ _ _ _ S _ (m2_42.out.sto.keep hR0) MT.out.sto).mono ?_; rintro e r47_1 ⟨rfl, hb⟩; have hR1 := hR0.trans (hb.mono hR0.size); clear MT)
      | (go_at_call 17; refine (toStore_any _ _ _ _ _ S _ (HH.out.keep ((E_46.out).trans (hD.mono E_46.out.size))) BD.out.le).mono ?_; rintro e r47_0 ⟨t0, t1, t2, t3, t4, rfl, MT, hb⟩; have hR0 := hD.trans (hb.mono hD.size)))
  have hbb : Below w39.heap.size w39 r47_1 := hR1
  clear hR0 hR1 hb hD
  have bA_48 := Lib.hid (bA_40.out.keep hbb)
  have bB_49 := Lib.hid (bB_41.out.keep hbb)
  have m2_50 := Lib.hid (m2_42.out.keep hbb)
  have bx_51 := Lib.hid (bx_43.out.keep hbb)
  have m3_52 := Lib.hid (m3_44.out.keep hbb)
  have by_53 := Lib.hid (by_45.out.keep hbb)
  have E_54 := Lib.hid (E_46.out.trans (hbb.mono E_46.out.size))
  have S_54 := Lib.hid hbb.size
  clear x00 x01 x02 x03 x04 x10 x11 x12 x13 x14
  clear bA_40 bB_41 m2_42 bx_43 m3_44 by_45 E_46 hbb
  obtain ⟨x00, x01, x02, x03, x04⟩ := by_53.out
  obtain ⟨x10, x11, x12, x13, x14⟩ := bB_49.out
  go_wp2_with fail
  have hD : Below r47_1.heap.size r47_1 r47_1.drew := (Below.refl _ _).drew
  go_region_held3 (fun w' => w'.cell? ⟨w24.heap.size, 0, none⟩ = some (.slice pt0 R.n5.a ct0) ∧ w'.cell? ⟨w24.heap.size, 1, none⟩ = some (.slice pt1 R.n5.b ct1) ∧ w'.cell? ⟨w24.heap.size, 2, none⟩ = some (.slice pt2 R.n5.c ct2) ∧ w'.cell? ⟨w24.heap.size, 3, none⟩ = some (.slice pt3 R.n5.d ct3) ∧ w'.cell? ⟨w24.heap.size, 4, none⟩ = some (.slice pt4 R.n5.e ct4) ∧ w'.cell? ⟨w.heap.size + 1, 0, none⟩ = some (.slice b0 R.now.length d0) ∧ w'.cell? ⟨w.heap.size + 1, 1, none⟩ = some (.slice b1 R.sure.length d1) ∧ w'.cell? ⟨w.heap.size + 1, 2, none⟩ = some (.slice b2 R.last.length d2) ∧ w'.cell? ⟨w.heap.size + 1, 3, none⟩ = some (.slice b3 R.slast.length d3) ∧ w'.cell? ⟨w.heap.size + 1, 4, none⟩ = some (.slice b4 R.floors.length d4))
    (refine ⟨?_, ?_, ?_, ?_, ?_, ?_, ?_, ?_, ?_, ?_⟩ <;> first | (go_keep; done) | (refine cell_keep hb ?_; first | (go_keep; done) | (go_simp; done)))
    (first
      | (go_at_call 12; refine (eqStore_same _ _ _ _ _ _ _ _ _ _ R _ (m3_52.out.sto.keep hR0) MT.out.sto).mono ?_; rintro e r55_1 ⟨rfl, hb⟩; have hR1 := hR0.trans (hb.mono hR0.size); clear MT)
      | (go_at_call 17; refine (toStore_any _ _ _ _ _ R _ (HH2.out.keep ((E_54.out).trans (hD.mono E_54.out.size))) BD2.out.le).mono ?_; rintro e r55_0 ⟨t0, t1, t2, t3, t4, rfl, MT, hb⟩; have hR0 := hD.trans (hb.mono hD.size)))
  have hbb : Below r47_1.heap.size r47_1 r55_1 := hR1
  clear hR0 hR1 hb hD
  have bA_56 := Lib.hid (bA_48.out.keep hbb)
  have bB_57 := Lib.hid (bB_49.out.keep hbb)
  have m2_58 := Lib.hid (m2_50.out.keep hbb)
  have bx_59 := Lib.hid (bx_51.out.keep hbb)
  have m3_60 := Lib.hid (m3_52.out.keep hbb)
  have by_61 := Lib.hid (by_53.out.keep hbb)
  have E_62 := Lib.hid (E_54.out.trans (hbb.mono E_54.out.size))
  have S_62 := Lib.hid hbb.size
  clear x00 x01 x02 x03 x04 x10 x11 x12 x13 x14
  clear bA_48 bB_49 m2_50 bx_51 m3_52 by_53 E_54 hbb
  go_wp2
  go_ret
  exact ⟨rfl, E_62.out⟩

end Go.Proofs.Ytamhndnfaaifcaa.exStoreSame
