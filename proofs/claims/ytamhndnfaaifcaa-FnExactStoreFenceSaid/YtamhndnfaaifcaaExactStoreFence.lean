/-
  laws.FnExactStoreFence returns true at every input: the walk of the law. No condition.
-/
import Derived.Test.YtamhndnfaaifcaaStoOk
import Derived.Test.YtamhndnfaaifcaaStoBox
import Derived.Test.YtamhndnfaaifcaaStoFenY
import Derived.Test.YtamhndnfaaifcaaStoFen
import Derived.Deep.RegionHeld3
namespace Go.Proofs.Ytamhndnfaaifcaa.exStoreFence
open Go.RowKit

/-- Where a mark ends. -/
def mkEnd (N : N5) : Int := ((1 : Nat) : Int) + N.a + N.b + N.c + N.d + N.e
theorem mkEnd_pos (N : N5) : ¬ mkEnd N < 0 := by unfold mkEnd; omega
theorem mark1 (v0 v1 v2 v3 v4 : Value) (lo hi : Nat) (N : N5) (F : F5) (w : World) (h : M5 w lo hi v0 v1 v2 v3 v4 N F) (hhi : hi ≤ w.heap.size) (hn : N.le) :
    Calls Try.prog 13 #[.agg #[v0, v1, v2, v3, v4], .int .i64 1] w fun e w' => e = .returned (.int .i64 (mkEnd N)) ∧ Hid (M5 w' lo hi v0 v1 v2 v3 v4 N (mk5 1 N)) ∧ Btn lo hi w w' := markStore_any _ _ _ _ _ lo hi 1 N F w h hhi hn (by omega) (by omega)
theorem held1 (v0 v1 v2 v3 v4 : Value) (lo hi : Nat) (N : N5) (w : World) (h : M5 w lo hi v0 v1 v2 v3 v4 N (mk5 1 N)) (hn : N.le) :
    Calls Try.prog 14 #[.agg #[v0, v1, v2, v3, v4], .int .i64 1] w fun e w' => e = .returned (.int .i64 (mkEnd N)) ∧ Below w.heap.size w w' := heldStore_any _ _ _ _ _ lo hi 1 N w h hn (by omega) (by omega)
theorem specR (v0 v1 v2 v3 v4 : Value) (S R : StT) (who ep : Int) (q : Bool) (hR : fenT S who ep = R) (hq : fenB S who ep = q) (w : World) (h : Sto w v0 v1 v2 v3 v4 S) (hz : szT S) (hn : S.n5.le) : Calls Try.prog 23 #[.agg #[v0, v1, v2, v3, v4], .int .i64 who, .int .i64 ep] w (ToSB w R q) := by
  subst hR; subst hq; exact specFence_any _ _ _ _ _ S who ep w h hz hn
theorem implR (v0 v1 v2 v3 v4 : Value) (S R : StT) (who ep : Int) (q : Bool) (hR : fenT S who ep = R) (hq : fenB S who ep = q) (w : World) (h : Sto w v0 v1 v2 v3 v4 S) (hz : szT S) : Calls Try.prog 24 #[.agg #[v0, v1, v2, v3, v4], .int .i64 who, .int .i64 ep] w (ToSB w R q) := by
  subst hR; subst hq; exact implFence_any _ _ _ _ _ S who ep w h hz
theorem le_fn (S : StT) (who ep : Int) (h : S.n5.le) : (fenT S who ep).n5.le := by
  obtain ⟨h0, h1, h2, h3, h4⟩ := h
  unfold fenT
  split
  · split
    · exact ⟨h0, h1, h2, h3, by show (List.set _ _ _).length ≤ _; rw [List.length_set]; exact h4⟩
    · exact ⟨h0, h1, h2, h3, h4⟩
  · exact ⟨by decide, by decide, by decide, by decide, by decide⟩

set_option maxRecDepth 100000 in
set_option maxHeartbeats 8000000 in
theorem walk (v0 v1 v2 v3 v4 : Value) (S : StT) (who ep : Int) (w : World) (h : Sto w v0 v1 v2 v3 v4 S) (hz : szT S) :
    Calls Try.prog 7 #[.agg #[v0, v1, v2, v3, v4], .int .i64 who, .int .i64 ep] w fun e w' => e = .returned (.bool true) ∧ Below w.heap.size w w' := by
  obtain ⟨a0, c0, rfl⟩ := h.now.form
  obtain ⟨a1, c1, rfl⟩ := h.sure.form
  obtain ⟨a2, c2, rfl⟩ := h.last.form
  obtain ⟨a3, c3, rfl⟩ := h.slast.form
  obtain ⟨a4, c4, rfl⟩ := h.floors.form
  obtain ⟨W, hW⟩ : ∃ W, w.alloc (.cells #[.slice a0 S.now.length c0, .slice a1 S.sure.length c1, .slice a2 S.last.length c2, .slice a3 S.slast.length c3, .slice a4 S.floors.length c4] 30) = W := ⟨_, rfl⟩
  have hal : Below w.heap.size w W := by rw [← hW]; exact (Below.refl _ _).alloc (Nat.le_refl _) _
  have A0 : Box5 W w.heap.size (.slice a0 S.now.length c0) (.slice a1 S.sure.length c1) (.slice a2 S.last.length c2) (.slice a3 S.slast.length c3) (.slice a4 S.floors.length c4) := by rw [← hW]; exact new_box5 w _ _ _ _ _ _
  have hl : w.heap.size < W.heap.size := by rw [← hW]; simp
  have E_0 := Lib.hid hal
  have S_0 := Lib.hid hl
  have HH := Lib.hid h
  have HZ := Lib.hid hz
  have bA_0 := Lib.hid A0
  clear h hz hal hl A0
  obtain ⟨x00, x01, x02, x03, x04⟩ := bA_0.out
  go_enter Try.func7, Try.ntmps7
  go_wp2_with fail
  clear hW
  refine (szStore_any _ _ _ _ _ S 1048576 _ (HH.out.keep E_0.out) HZ.out.1 HZ.out.2 (by omega) (by omega)).mono ?_; rintro e w1 ⟨z1, rfl, p1, p2, P, hb⟩
  have bA_2 := Lib.hid (bA_0.out.keep hb)
  have E_3 := Lib.hid (E_0.out.trans (hb.mono E_0.out.size))
  have S_3 := Lib.hid hb.size
  clear x00 x01 x02 x03 x04
  clear bA_0 E_0 hb
  by_cases hz3 : z1 < 0
  · clear P
    go_wp2
    go_ret
    exact ⟨rfl, E_3.out⟩
  have BD := Lib.hid (P (by omega))
  clear P
  have HT : Hid (szT S) := HZ
  obtain ⟨R, hR0⟩ : ∃ R, fenT S who ep = R := ⟨_, rfl⟩
  obtain ⟨q, hq0⟩ : ∃ q, fenB S who ep = q := ⟨_, rfl⟩
  have HR := Lib.hid hR0
  have HQ := Lib.hid hq0
  have HRL : Hid R.n5.le := by rw [← hR0]; exact le_fn S who ep BD.out.le
  clear hR0 hq0
  have hqq : (q != q) = false := by simp
  obtain ⟨x00, x01, x02, x03, x04⟩ := bA_2.out
  go_wp2_with fail
  refine (toStore_any _ _ _ _ _ S _ (HH.out.keep E_3.out) BD.out.le).mono ?_; rintro e w4 ⟨t0, t1, t2, t3, t4, rfl, M, hb⟩
  have bA_5 := Lib.hid (bA_2.out.keep hb)
  have E_6 := Lib.hid (E_3.out.trans (hb.mono E_3.out.size))
  have S_6 := Lib.hid hb.size
  clear x00 x01 x02 x03 x04
  clear bA_2 E_3 hb
  have m0_7 := M
  clear M
  go_wp2_with fail
  refine (specR _ _ _ _ _ S R who ep q HR.out HQ.out _ m0_7.out.sto HZ.out BD.out.le).mono ?_; rintro e w8 ⟨o0, o1, o2, o3, o4, rfl, M, hb⟩
  have bA_9 := Lib.hid (bA_5.out.keep hb)
  have m0_10 := Lib.hid (m0_7.out.keep hb)
  have E_11 := Lib.hid (E_6.out.trans (hb.mono E_6.out.size))
  have S_11 := Lib.hid hb.size
  clear bA_5 m0_7 E_6 hb
  have mw_12 := M
  clear M
  obtain ⟨po0, co0, rfl⟩ := mw_12.out.a.vls.form
  obtain ⟨po1, co1, rfl⟩ := mw_12.out.b.vls.form
  obtain ⟨po2, co2, rfl⟩ := mw_12.out.c.vls.form
  obtain ⟨po3, co3, rfl⟩ := mw_12.out.d.vls.form
  obtain ⟨po4, co4, rfl⟩ := mw_12.out.e.vls.form
  obtain ⟨W13, hW13⟩ : ∃ X, w8.alloc (.cells #[.slice po0 R.n5.a co0, .slice po1 R.n5.b co1, .slice po2 R.n5.c co2, .slice po3 R.n5.d co3, .slice po4 R.n5.e co4] 25) = X := ⟨_, rfl⟩
  have hb : Below w8.heap.size w8 W13 := by rw [← hW13]; exact (Below.refl _ _).alloc (Nat.le_refl _) _
  have hB : Box5 W13 w8.heap.size (.slice po0 R.n5.a co0) (.slice po1 R.n5.b co1) (.slice po2 R.n5.c co2) (.slice po3 R.n5.d co3) (.slice po4 R.n5.e co4) := by rw [← hW13]; exact new_box5 _ _ _ _ _ _ _
  have hl : w8.heap.size < W13.heap.size := by rw [← hW13]; simp
  have bA_14 := Lib.hid (bA_9.out.keep hb)
  have m0_15 := Lib.hid (m0_10.out.keep hb)
  have mw_16 := Lib.hid (mw_12.out.keep hb)
  have E_17 := Lib.hid (E_11.out.trans (hb.mono E_11.out.size))
  have S_17 := Lib.hid hb.size
  clear bA_9 m0_10 mw_12 E_11 hb
  have bw_18 := Lib.hid hB
  have S_18b := Lib.hid hl
  clear hB hl
  clear m0_15
  obtain ⟨x00, x01, x02, x03, x04⟩ := bA_14.out
  go_wp2_with fail
  clear hW13
  refine (toStore_any _ _ _ _ _ S _ (HH.out.keep E_17.out) BD.out.le).mono ?_; rintro e w19 ⟨s0, s1, s2, s3, s4, rfl, M, hb⟩
  have bA_20 := Lib.hid (bA_14.out.keep hb)
  have mw_21 := Lib.hid (mw_16.out.keep hb)
  have bw_22 := Lib.hid (bw_18.out.keep hb)
  have E_23 := Lib.hid (E_17.out.trans (hb.mono E_17.out.size))
  have S_23 := Lib.hid hb.size
  clear x00 x01 x02 x03 x04
  clear bA_14 mw_16 bw_18 E_17 hb
  have mx_24 := M
  clear M
  obtain ⟨ps0, cs0, rfl⟩ := mx_24.out.a.vls.form
  obtain ⟨ps1, cs1, rfl⟩ := mx_24.out.b.vls.form
  obtain ⟨ps2, cs2, rfl⟩ := mx_24.out.c.vls.form
  obtain ⟨ps3, cs3, rfl⟩ := mx_24.out.d.vls.form
  obtain ⟨ps4, cs4, rfl⟩ := mx_24.out.e.vls.form
  obtain ⟨W25, hW25⟩ : ∃ X, w19.alloc (.cells #[.slice ps0 S.n5.a cs0, .slice ps1 S.n5.b cs1, .slice ps2 S.n5.c cs2, .slice ps3 S.n5.d cs3, .slice ps4 S.n5.e cs4] 25) = X := ⟨_, rfl⟩
  have hb : Below w19.heap.size w19 W25 := by rw [← hW25]; exact (Below.refl _ _).alloc (Nat.le_refl _) _
  have hB : Box5 W25 w19.heap.size (.slice ps0 S.n5.a cs0) (.slice ps1 S.n5.b cs1) (.slice ps2 S.n5.c cs2) (.slice ps3 S.n5.d cs3) (.slice ps4 S.n5.e cs4) := by rw [← hW25]; exact new_box5 _ _ _ _ _ _ _
  have hl : w19.heap.size < W25.heap.size := by rw [← hW25]; simp
  have bA_26 := Lib.hid (bA_20.out.keep hb)
  have mw_27 := Lib.hid (mw_21.out.keep hb)
  have bw_28 := Lib.hid (bw_22.out.keep hb)
  have mx_29 := Lib.hid (mx_24.out.keep hb)
  have E_30 := Lib.hid (E_23.out.trans (hb.mono E_23.out.size))
  have S_30 := Lib.hid hb.size
  clear bA_20 mw_21 bw_22 mx_24 E_23 hb
  have bx_31 := Lib.hid hB
  have S_31b := Lib.hid hl
  clear hB hl
  obtain ⟨x00, x01, x02, x03, x04⟩ := bx_31.out
  go_wp2_with fail
  clear hW25
  refine (implR _ _ _ _ _ S R who ep q HR.out HQ.out _ mx_29.out.sto HZ.out).mono ?_; rintro e w32 ⟨g0, g1, g2, g3, g4, rfl, M, hb⟩
  have bA_33 := Lib.hid (bA_26.out.keep hb)
  have mw_34 := Lib.hid (mw_27.out.keep hb)
  have bw_35 := Lib.hid (bw_28.out.keep hb)
  have mx_36 := Lib.hid (mx_29.out.keep hb)
  have bx_37 := Lib.hid (bx_31.out.keep hb)
  have E_38 := Lib.hid (E_30.out.trans (hb.mono E_30.out.size))
  have S_38 := Lib.hid hb.size
  clear x00 x01 x02 x03 x04
  clear bA_26 mw_27 bw_28 mx_29 bx_31 E_30 hb
  have mg_39 := M
  clear M
  obtain ⟨pg0, cg0, rfl⟩ := mg_39.out.a.vls.form
  obtain ⟨pg1, cg1, rfl⟩ := mg_39.out.b.vls.form
  obtain ⟨pg2, cg2, rfl⟩ := mg_39.out.c.vls.form
  obtain ⟨pg3, cg3, rfl⟩ := mg_39.out.d.vls.form
  obtain ⟨pg4, cg4, rfl⟩ := mg_39.out.e.vls.form
  obtain ⟨W40, hW40⟩ : ∃ X, w32.alloc (.cells #[.slice pg0 R.n5.a cg0, .slice pg1 R.n5.b cg1, .slice pg2 R.n5.c cg2, .slice pg3 R.n5.d cg3, .slice pg4 R.n5.e cg4] 25) = X := ⟨_, rfl⟩
  have hb : Below w32.heap.size w32 W40 := by rw [← hW40]; exact (Below.refl _ _).alloc (Nat.le_refl _) _
  have hB : Box5 W40 w32.heap.size (.slice pg0 R.n5.a cg0) (.slice pg1 R.n5.b cg1) (.slice pg2 R.n5.c cg2) (.slice pg3 R.n5.d cg3) (.slice pg4 R.n5.e cg4) := by rw [← hW40]; exact new_box5 _ _ _ _ _ _ _
  have hl : w32.heap.size < W40.heap.size := by rw [← hW40]; simp
  have bA_41 := Lib.hid (bA_33.out.keep hb)
  have mw_42 := Lib.hid (mw_34.out.keep hb)
  have bw_43 := Lib.hid (bw_35.out.keep hb)
  have mx_44 := Lib.hid (mx_36.out.keep hb)
  have bx_45 := Lib.hid (bx_37.out.keep hb)
  have mg_46 := Lib.hid (mg_39.out.keep hb)
  have E_47 := Lib.hid (E_38.out.trans (hb.mono E_38.out.size))
  have S_47 := Lib.hid hb.size
  clear bA_33 mw_34 bw_35 mx_36 bx_37 mg_39 E_38 hb
  have bg_48 := Lib.hid hB
  have S_48b := Lib.hid hl
  clear hB hl
  obtain ⟨x00, x01, x02, x03, x04⟩ := bg_48.out
  obtain ⟨x10, x11, x12, x13, x14⟩ := bw_43.out
  go_wp2_with fail
  clear hW40
  refine (eqStore_same _ _ _ _ _ _ _ _ _ _ R _ mg_46.out.sto mw_42.out.sto).mono ?_; rintro e w49 ⟨rfl, hb⟩
  have bA_50 := Lib.hid (bA_41.out.keep hb)
  have mw_51 := Lib.hid (mw_42.out.keep hb)
  have bw_52 := Lib.hid (bw_43.out.keep hb)
  have mx_53 := Lib.hid (mx_44.out.keep hb)
  have bx_54 := Lib.hid (bx_45.out.keep hb)
  have mg_55 := Lib.hid (mg_46.out.keep hb)
  have bg_56 := Lib.hid (bg_48.out.keep hb)
  have E_57 := Lib.hid (E_47.out.trans (hb.mono E_47.out.size))
  have S_57 := Lib.hid hb.size
  clear x00 x01 x02 x03 x04 x10 x11 x12 x13 x14
  clear bA_41 mw_42 bw_43 mx_44 bx_45 mg_46 bg_48 E_47 hb
  obtain ⟨x00, x01, x02, x03, x04⟩ := bx_54.out
  obtain ⟨x10, x11, x12, x13, x14⟩ := bA_50.out
  go_wp2_with fail
  have hD : Below w49.heap.size w49 w49.drew := (Below.refl _ _).drew
  go_region_held3 (fun w' => w'.cell? ⟨w19.heap.size, 0, none⟩ = some (.slice ps0 S.n5.a cs0) ∧ w'.cell? ⟨w19.heap.size, 1, none⟩ = some (.slice ps1 S.n5.b cs1) ∧ w'.cell? ⟨w19.heap.size, 2, none⟩ = some (.slice ps2 S.n5.c cs2) ∧ w'.cell? ⟨w19.heap.size, 3, none⟩ = some (.slice ps3 S.n5.d cs3) ∧ w'.cell? ⟨w19.heap.size, 4, none⟩ = some (.slice ps4 S.n5.e cs4) ∧ w'.cell? ⟨w.heap.size, 0, none⟩ = some (.slice a0 S.now.length c0) ∧ w'.cell? ⟨w.heap.size, 1, none⟩ = some (.slice a1 S.sure.length c1) ∧ w'.cell? ⟨w.heap.size, 2, none⟩ = some (.slice a2 S.last.length c2) ∧ w'.cell? ⟨w.heap.size, 3, none⟩ = some (.slice a3 S.slast.length c3) ∧ w'.cell? ⟨w.heap.size, 4, none⟩ = some (.slice a4 S.floors.length c4))
    (refine ⟨?_, ?_, ?_, ?_, ?_, ?_, ?_, ?_, ?_, ?_⟩ <;> first | (go_keep; done) | (refine cell_keep hb ?_; first | (go_keep; done) | (go_simp; done)))
    (first
      | (go_at_call 12; refine (eqStore_same _ _ _ _ _ _ _ _ _ _ S _ (mx_53.out.sto.keep hR0) MT.out.sto).mono ?_; rintro e r58_1 ⟨rfl, hb⟩; have hR1 := hR0.trans (hb.mono hR0.size); clear MT)
      | (go_at_call 17; refine (toStore_any _ _ _ _ _ S _ (HH.out.keep ((E_57.out).trans (hD.mono E_57.out.size))) BD.out.le).mono ?_; rintro e r58_0 ⟨t0, t1, t2, t3, t4, rfl, MT, hb⟩; have hR0 := hD.trans (hb.mono hD.size)))
  have hbb : Below w49.heap.size w49 r58_1 := hR1
  clear hR0 hR1 hb hD
  have bA_59 := Lib.hid (bA_50.out.keep hbb)
  have mw_60 := Lib.hid (mw_51.out.keep hbb)
  have bw_61 := Lib.hid (bw_52.out.keep hbb)
  have mx_62 := Lib.hid (mx_53.out.keep hbb)
  have bx_63 := Lib.hid (bx_54.out.keep hbb)
  have mg_64 := Lib.hid (mg_55.out.keep hbb)
  have bg_65 := Lib.hid (bg_56.out.keep hbb)
  have E_66 := Lib.hid (E_57.out.trans (hbb.mono E_57.out.size))
  have S_66 := Lib.hid hbb.size
  clear x00 x01 x02 x03 x04 x10 x11 x12 x13 x14
  clear bA_50 mw_51 bw_52 mx_53 bx_54 mg_55 bg_56 E_57 hbb
  obtain ⟨x00, x01, x02, x03, x04⟩ := bx_63.out
  go_wp2_with fail
  have q0 := S_0.out
  have q1 := S_3.out
  have q2 := S_6.out
  have q3 := S_11.out
  have q4 := S_17.out
  have q5 := S_18b.out
  have q6 := S_23.out
  have q7 := S_30.out
  have q8 := S_31b.out
  have q9 := S_38.out
  have q10 := S_47.out
  have q11 := S_48b.out
  have q12 := S_57.out
  have q13 := S_66.out
  have hhi := mark1 _ _ _ _ _ _ _ S.n5 _ _ mx_62.out (by omega) BD.out.le
  clear q0 q1 q2 q3 q4 q5 q6 q7 q8 q9 q10 q11 q12 q13
  refine hhi.mono ?_; rintro e w67 ⟨rfl, MM, ht⟩
  clear hhi
  have q0 := S_0.out
  have q1 := S_3.out
  have q2 := S_6.out
  have q3 := S_11.out
  have q4 := S_17.out
  have q5 := S_18b.out
  have q6 := S_23.out
  have q7 := S_30.out
  have q8 := S_31b.out
  have q9 := S_38.out
  have q10 := S_47.out
  have q11 := S_48b.out
  have q12 := S_57.out
  have q13 := S_66.out
  have bA_68 := Lib.hid (bA_59.out.btn ht (by omega))
  have mw_69 := Lib.hid (mw_60.out.btn ht (by omega))
  have bw_70 := Lib.hid (bw_61.out.btn ht (by omega))
  have bx_71 := Lib.hid (bx_63.out.btn ht (by omega))
  have mg_72 := Lib.hid (mg_64.out.btn ht (by omega))
  have bg_73 := Lib.hid (bg_65.out.btn ht (by omega))
  have E_74 := Lib.hid (E_66.out.trans (ht.below (by omega) E_66.out.size))
  have S_74 := Lib.hid ht.size
  clear x00 x01 x02 x03 x04
  clear bA_59 mw_60 bw_61 bx_63 mg_64 bg_65 E_66 q0 q1 q2 q3 q4 q5 q6 q7 q8 q9 q10 q11 q12 q13 ht
  have mx_75 := MM
  clear MM mx_62
  clear mx_75
  clear bx_71
  have k1 : decide (mkEnd S.n5 < 0) = false := by simpa using mkEnd_pos S.n5
  obtain ⟨x00, x01, x02, x03, x04⟩ := bg_73.out
  obtain ⟨x10, x11, x12, x13, x14⟩ := bw_70.out
  go_wp2_with fail
  refine (eqStore_same _ _ _ _ _ _ _ _ _ _ R _ mg_72.out.sto mw_69.out.sto).mono ?_; rintro e w76 ⟨rfl, hb⟩
  have bA_77 := Lib.hid (bA_68.out.keep hb)
  have mw_78 := Lib.hid (mw_69.out.keep hb)
  have bw_79 := Lib.hid (bw_70.out.keep hb)
  have mg_80 := Lib.hid (mg_72.out.keep hb)
  have bg_81 := Lib.hid (bg_73.out.keep hb)
  have E_82 := Lib.hid (E_74.out.trans (hb.mono E_74.out.size))
  have S_82 := Lib.hid hb.size
  clear x00 x01 x02 x03 x04 x10 x11 x12 x13 x14
  clear bA_68 mw_69 bw_70 mg_72 bg_73 E_74 hb
  clear k1
  obtain ⟨x00, x01, x02, x03, x04⟩ := bg_81.out
  go_wp2_with fail
  have q0 := S_0.out
  have q1 := S_3.out
  have q2 := S_6.out
  have q3 := S_11.out
  have q4 := S_17.out
  have q5 := S_18b.out
  have q6 := S_23.out
  have q7 := S_30.out
  have q8 := S_31b.out
  have q9 := S_38.out
  have q10 := S_47.out
  have q11 := S_48b.out
  have q12 := S_57.out
  have q13 := S_66.out
  have q14 := S_74.out
  have q15 := S_82.out
  have hhi := mark1 _ _ _ _ _ _ _ R.n5 _ _ mg_80.out (by omega) HRL.out
  clear q0 q1 q2 q3 q4 q5 q6 q7 q8 q9 q10 q11 q12 q13 q14 q15
  refine hhi.mono ?_; rintro e w83 ⟨rfl, MM, ht⟩
  clear hhi
  have q0 := S_0.out
  have q1 := S_3.out
  have q2 := S_6.out
  have q3 := S_11.out
  have q4 := S_17.out
  have q5 := S_18b.out
  have q6 := S_23.out
  have q7 := S_30.out
  have q8 := S_31b.out
  have q9 := S_38.out
  have q10 := S_47.out
  have q11 := S_48b.out
  have q12 := S_57.out
  have q13 := S_66.out
  have q14 := S_74.out
  have q15 := S_82.out
  have bA_84 := Lib.hid (bA_77.out.btn ht (by omega))
  have mw_85 := Lib.hid (mw_78.out.btn ht (by omega))
  have bw_86 := Lib.hid (bw_79.out.btn ht (by omega))
  have bg_87 := Lib.hid (bg_81.out.btn ht (by omega))
  have E_88 := Lib.hid (E_82.out.trans (ht.below (by omega) E_82.out.size))
  have S_88 := Lib.hid ht.size
  clear x00 x01 x02 x03 x04
  clear bA_77 mw_78 bw_79 bg_81 E_82 q0 q1 q2 q3 q4 q5 q6 q7 q8 q9 q10 q11 q12 q13 q14 q15 ht
  have mg_89 := MM
  clear MM mg_80
  have k2 : decide (mkEnd R.n5 < 0) = false := by simpa using mkEnd_pos R.n5
  obtain ⟨x00, x01, x02, x03, x04⟩ := bg_87.out
  go_wp2_with fail
  refine (held1 _ _ _ _ _ _ _ R.n5 _ mg_89.out HRL.out).mono ?_; rintro e w90 ⟨rfl, hb⟩
  have bA_91 := Lib.hid (bA_84.out.keep hb)
  have mw_92 := Lib.hid (mw_85.out.keep hb)
  have bw_93 := Lib.hid (bw_86.out.keep hb)
  have bg_94 := Lib.hid (bg_87.out.keep hb)
  have mg_95 := Lib.hid (mg_89.out.keep hb)
  have E_96 := Lib.hid (E_88.out.trans (hb.mono E_88.out.size))
  have S_96 := Lib.hid hb.size
  clear x00 x01 x02 x03 x04
  clear bA_84 mw_85 bw_86 bg_87 mg_89 E_88 hb
  obtain ⟨x00, x01, x02, x03, x04⟩ := bA_91.out
  go_wp2_with fail
  refine (toStore_any _ _ _ _ _ S _ (HH.out.keep E_96.out) BD.out.le).mono ?_; rintro e w97 ⟨y0, y1, y2, y3, y4, rfl, M, hb⟩
  have bA_98 := Lib.hid (bA_91.out.keep hb)
  have mw_99 := Lib.hid (mw_92.out.keep hb)
  have bw_100 := Lib.hid (bw_93.out.keep hb)
  have bg_101 := Lib.hid (bg_94.out.keep hb)
  have mg_102 := Lib.hid (mg_95.out.keep hb)
  have E_103 := Lib.hid (E_96.out.trans (hb.mono E_96.out.size))
  have S_103 := Lib.hid hb.size
  clear x00 x01 x02 x03 x04
  clear bA_91 mw_92 bw_93 bg_94 mg_95 E_96 hb
  have mz_104 := M
  clear M
  go_wp2_with fail
  refine (implR _ _ _ _ _ S R who ep q HR.out HQ.out _ mz_104.out.sto HZ.out).mono ?_; rintro e w105 ⟨h0, h1, h2, h3, h4, rfl, M, hb⟩
  have bA_106 := Lib.hid (bA_98.out.keep hb)
  have mw_107 := Lib.hid (mw_99.out.keep hb)
  have bw_108 := Lib.hid (bw_100.out.keep hb)
  have bg_109 := Lib.hid (bg_101.out.keep hb)
  have mg_110 := Lib.hid (mg_102.out.keep hb)
  have mz_111 := Lib.hid (mz_104.out.keep hb)
  have E_112 := Lib.hid (E_103.out.trans (hb.mono E_103.out.size))
  have S_112 := Lib.hid hb.size
  clear bA_98 mw_99 bw_100 bg_101 mg_102 mz_104 E_103 hb
  have mh_113 := M
  clear M
  obtain ⟨ph0, ch0, rfl⟩ := mh_113.out.a.vls.form
  obtain ⟨ph1, ch1, rfl⟩ := mh_113.out.b.vls.form
  obtain ⟨ph2, ch2, rfl⟩ := mh_113.out.c.vls.form
  obtain ⟨ph3, ch3, rfl⟩ := mh_113.out.d.vls.form
  obtain ⟨ph4, ch4, rfl⟩ := mh_113.out.e.vls.form
  obtain ⟨W114, hW114⟩ : ∃ X, w105.alloc (.cells #[.slice ph0 R.n5.a ch0, .slice ph1 R.n5.b ch1, .slice ph2 R.n5.c ch2, .slice ph3 R.n5.d ch3, .slice ph4 R.n5.e ch4] 25) = X := ⟨_, rfl⟩
  have hb : Below w105.heap.size w105 W114 := by rw [← hW114]; exact (Below.refl _ _).alloc (Nat.le_refl _) _
  have hB : Box5 W114 w105.heap.size (.slice ph0 R.n5.a ch0) (.slice ph1 R.n5.b ch1) (.slice ph2 R.n5.c ch2) (.slice ph3 R.n5.d ch3) (.slice ph4 R.n5.e ch4) := by rw [← hW114]; exact new_box5 _ _ _ _ _ _ _
  have hl : w105.heap.size < W114.heap.size := by rw [← hW114]; simp
  have bA_115 := Lib.hid (bA_106.out.keep hb)
  have mw_116 := Lib.hid (mw_107.out.keep hb)
  have bw_117 := Lib.hid (bw_108.out.keep hb)
  have bg_118 := Lib.hid (bg_109.out.keep hb)
  have mg_119 := Lib.hid (mg_110.out.keep hb)
  have mz_120 := Lib.hid (mz_111.out.keep hb)
  have mh_121 := Lib.hid (mh_113.out.keep hb)
  have E_122 := Lib.hid (E_112.out.trans (hb.mono E_112.out.size))
  have S_122 := Lib.hid hb.size
  clear bA_106 mw_107 bw_108 bg_109 mg_110 mz_111 mh_113 E_112 hb
  have bh_123 := Lib.hid hB
  have S_123b := Lib.hid hl
  clear hB hl
  clear mz_120
  obtain ⟨x00, x01, x02, x03, x04⟩ := bh_123.out
  obtain ⟨x10, x11, x12, x13, x14⟩ := bw_117.out
  go_wp2_with fail
  clear hW114
  refine (eqStore_same _ _ _ _ _ _ _ _ _ _ R _ mh_121.out.sto mw_116.out.sto).mono ?_; rintro e w124 ⟨rfl, hb⟩
  have bA_125 := Lib.hid (bA_115.out.keep hb)
  have mw_126 := Lib.hid (mw_116.out.keep hb)
  have bw_127 := Lib.hid (bw_117.out.keep hb)
  have bg_128 := Lib.hid (bg_118.out.keep hb)
  have mg_129 := Lib.hid (mg_119.out.keep hb)
  have mh_130 := Lib.hid (mh_121.out.keep hb)
  have bh_131 := Lib.hid (bh_123.out.keep hb)
  have E_132 := Lib.hid (E_122.out.trans (hb.mono E_122.out.size))
  have S_132 := Lib.hid hb.size
  clear x00 x01 x02 x03 x04 x10 x11 x12 x13 x14
  clear bA_115 mw_116 bw_117 bg_118 mg_119 mh_121 bh_123 E_122 hb
  obtain ⟨x00, x01, x02, x03, x04⟩ := bg_128.out
  go_wp2_with fail
  refine (held1 _ _ _ _ _ _ _ R.n5 _ mg_129.out HRL.out).mono ?_; rintro e w133 ⟨rfl, hb⟩
  have bA_134 := Lib.hid (bA_125.out.keep hb)
  have mw_135 := Lib.hid (mw_126.out.keep hb)
  have bw_136 := Lib.hid (bw_127.out.keep hb)
  have bg_137 := Lib.hid (bg_128.out.keep hb)
  have mg_138 := Lib.hid (mg_129.out.keep hb)
  have mh_139 := Lib.hid (mh_130.out.keep hb)
  have bh_140 := Lib.hid (bh_131.out.keep hb)
  have E_141 := Lib.hid (E_132.out.trans (hb.mono E_132.out.size))
  have S_141 := Lib.hid hb.size
  clear x00 x01 x02 x03 x04
  clear bA_125 mw_126 bw_127 bg_128 mg_129 mh_130 bh_131 E_132 hb
  go_wp2
  go_ret
  exact ⟨rfl, E_141.out⟩

end Go.Proofs.Ytamhndnfaaifcaa.exStoreFence
