/-
  laws.FnExactStoreRead returns true at every input: the walk of the law. No condition.
-/
import Derived.Test.YtamhndnfaaifcaaStoOk
import Derived.Test.YtamhndnfaaifcaaStoBox
import Derived.Test.YtamhndnfaaifcaaStoReadI
import Derived.Deep.RegionHeld3
namespace Go.Proofs.Ytamhndnfaaifcaa.exStoreRead
open Go.RowKit

set_option maxRecDepth 100000 in
set_option maxHeartbeats 8000000 in
theorem walk (v0 v1 v2 v3 v4 : Value) (S : StT) (obj lo hi : Int) (w : World) (h : Sto w v0 v1 v2 v3 v4 S) (hz : szT S) :
    Calls Try.prog 8 #[.agg #[v0, v1, v2, v3, v4], .int .i64 obj, .agg #[.int .i64 lo, .int .i64 hi]] w fun e w' => e = .returned (.bool true) ∧ Below w.heap.size w w' := by
  obtain ⟨a0, c0, rfl⟩ := h.now.form
  obtain ⟨a1, c1, rfl⟩ := h.sure.form
  obtain ⟨a2, c2, rfl⟩ := h.last.form
  obtain ⟨a3, c3, rfl⟩ := h.slast.form
  obtain ⟨a4, c4, rfl⟩ := h.floors.form
  obtain ⟨W, hW⟩ : ∃ W, (w.alloc (.cells #[.slice a0 S.now.length c0, .slice a1 S.sure.length c1, .slice a2 S.last.length c2, .slice a3 S.slast.length c3, .slice a4 S.floors.length c4] 30)).alloc (.cells #[.int .i64 lo, .int .i64 hi] 40) = W := ⟨_, rfl⟩
  have hal : Below w.heap.size w W := by rw [← hW]; exact ((Below.refl _ _).alloc (Nat.le_refl _) _).alloc (by simp) _
  have A0 : Box5 W w.heap.size (.slice a0 S.now.length c0) (.slice a1 S.sure.length c1) (.slice a2 S.last.length c2) (.slice a3 S.slast.length c3) (.slice a4 S.floors.length c4) := by rw [← hW]; exact (new_box5 w _ _ _ _ _ _).keep ((Below.refl _ _).alloc (Nat.le_refl _) _)
  have B0 : Box2 W (w.heap.size + 1) lo hi := by
    rw [← hW]
    have := new_box (w.alloc (.cells #[.slice a0 S.now.length c0, .slice a1 S.sure.length c1, .slice a2 S.last.length c2, .slice a3 S.slast.length c3, .slice a4 S.floors.length c4] 30)) lo hi 40
    simpa using this
  have hl : w.heap.size < W.heap.size := by rw [← hW]; simp; omega
  have E_0 := Lib.hid hal
  have S_0 := Lib.hid hl
  have HH := Lib.hid h
  have HZ := Lib.hid hz
  have bA_0 := Lib.hid A0
  have bB_0 := Lib.hid B0
  clear h hz hal hl A0 B0
  obtain ⟨x00, x01, x02, x03, x04⟩ := bA_0.out
  go_enter Try.func8, Try.ntmps8
  go_wp2_with fail
  clear hW
  refine (szStore_any _ _ _ _ _ S 1048576 _ (HH.out.keep E_0.out) HZ.out.1 HZ.out.2 (by omega) (by omega)).mono ?_; rintro e w1 ⟨z1, rfl, p1, p2, P, hb⟩
  have bA_2 := Lib.hid (bA_0.out.keep hb)
  have bB_3 := Lib.hid (bB_0.out.keep hb)
  have E_4 := Lib.hid (E_0.out.trans (hb.mono E_0.out.size))
  have S_4 := Lib.hid hb.size
  clear x00 x01 x02 x03 x04
  clear bA_0 bB_0 E_0 hb
  by_cases hz4 : z1 < 0
  · clear P
    go_wp2
    go_ret
    exact ⟨rfl, E_4.out⟩
  have BD := Lib.hid (P (by omega))
  clear P
  have HT : Hid (szT S) := HZ
  have HSR := Lib.hid (fun v0 v1 v2 v3 v4 w h => specRead_any v0 v1 v2 v3 v4 S obj lo hi w h HZ.out)
  have HIR := Lib.hid (fun v0 v1 v2 v3 v4 w h => implRead_any v0 v1 v2 v3 v4 S obj lo hi w h HZ.out)
  generalize rdT S obj lo hi = t at *
  generalize rdB S obj lo hi = q at *
  obtain ⟨x00, x01, x02, x03, x04⟩ := bA_2.out
  obtain ⟨x10, x11, x12, x13⟩ := bB_3.out
  go_wp2_with fail
  have hD : Below w1.heap.size w1 w1.drew := (Below.refl _ _).drew
  go_region_held3 (fun w' => w'.cell? ⟨w.heap.size, 0, none⟩ = some (.slice a0 S.now.length c0) ∧ w'.cell? ⟨w.heap.size, 1, none⟩ = some (.slice a1 S.sure.length c1) ∧ w'.cell? ⟨w.heap.size, 2, none⟩ = some (.slice a2 S.last.length c2) ∧ w'.cell? ⟨w.heap.size, 3, none⟩ = some (.slice a3 S.slast.length c3) ∧ w'.cell? ⟨w.heap.size, 4, none⟩ = some (.slice a4 S.floors.length c4) ∧ w'.cell? ⟨w.heap.size + 1, 0, none⟩ = some (.int .i64 lo) ∧ w'.cell? ⟨w.heap.size + 1, 1, none⟩ = some (.int .i64 hi))
    (refine ⟨?_, ?_, ?_, ?_, ?_, ?_, ?_⟩ <;> first | (go_keep; done) | (refine cell_keep hb ?_; first | (go_keep; done) | (go_simp; done)))
    (first
      | (go_at_call 25; refine (HSR.out _ _ _ _ _ _ MT2.out.sto).mono ?_; rintro e r5_2 ⟨rfl, hb⟩; have hR2 := hR1.trans (hb.mono hR1.size); clear MT MT2)
      | (go_at_call 26; refine (toSpan_any lo hi _).mono ?_; rintro e r5_1 ⟨rfl, hb⟩; have hR1 := hR0.trans (hb.mono hR0.size); have MT2 := Lib.hid (MT.out.keep hb))
      | (go_at_call 17; refine (toStore_any _ _ _ _ _ S _ (HH.out.keep ((E_4.out).trans (hD.mono E_4.out.size))) BD.out.le).mono ?_; rintro e r5_0 ⟨t0, t1, t2, t3, t4, rfl, MT, hb⟩; have hR0 := hD.trans (hb.mono hD.size)))
  have hbb : Below w1.heap.size w1 r5_2 := hR2
  clear hR0 hR1 hR2 hb hD HSR
  have bA_6 := Lib.hid (bA_2.out.keep hbb)
  have bB_7 := Lib.hid (bB_3.out.keep hbb)
  have E_8 := Lib.hid (E_4.out.trans (hbb.mono E_4.out.size))
  have S_8 := Lib.hid hbb.size
  clear x00 x01 x02 x03 x04 x10 x11 x12 x13
  clear bA_2 bB_3 E_4 hbb
  obtain ⟨x00, x01, x02, x03, x04⟩ := bA_6.out
  go_wp2_with fail
  refine (toStore_any _ _ _ _ _ S _ (HH.out.keep E_8.out) BD.out.le).mono ?_; rintro e w9 ⟨s0, s1, s2, s3, s4, rfl, M, hb⟩
  have bA_10 := Lib.hid (bA_6.out.keep hb)
  have bB_11 := Lib.hid (bB_7.out.keep hb)
  have E_12 := Lib.hid (E_8.out.trans (hb.mono E_8.out.size))
  have S_12 := Lib.hid hb.size
  clear x00 x01 x02 x03 x04
  clear bA_6 bB_7 E_8 hb
  have mx_13 := M
  clear M
  obtain ⟨ps0, cs0, rfl⟩ := mx_13.out.a.vls.form
  obtain ⟨ps1, cs1, rfl⟩ := mx_13.out.b.vls.form
  obtain ⟨ps2, cs2, rfl⟩ := mx_13.out.c.vls.form
  obtain ⟨ps3, cs3, rfl⟩ := mx_13.out.d.vls.form
  obtain ⟨ps4, cs4, rfl⟩ := mx_13.out.e.vls.form
  obtain ⟨W14, hW14⟩ : ∃ X, w9.alloc (.cells #[.slice ps0 S.n5.a cs0, .slice ps1 S.n5.b cs1, .slice ps2 S.n5.c cs2, .slice ps3 S.n5.d cs3, .slice ps4 S.n5.e cs4] 25) = X := ⟨_, rfl⟩
  have hb : Below w9.heap.size w9 W14 := by rw [← hW14]; exact (Below.refl _ _).alloc (Nat.le_refl _) _
  have hB : Box5 W14 w9.heap.size (.slice ps0 S.n5.a cs0) (.slice ps1 S.n5.b cs1) (.slice ps2 S.n5.c cs2) (.slice ps3 S.n5.d cs3) (.slice ps4 S.n5.e cs4) := by rw [← hW14]; exact new_box5 _ _ _ _ _ _ _
  have hl : w9.heap.size < W14.heap.size := by rw [← hW14]; simp
  have bA_15 := Lib.hid (bA_10.out.keep hb)
  have bB_16 := Lib.hid (bB_11.out.keep hb)
  have mx_17 := Lib.hid (mx_13.out.keep hb)
  have E_18 := Lib.hid (E_12.out.trans (hb.mono E_12.out.size))
  have S_18 := Lib.hid hb.size
  clear bA_10 bB_11 mx_13 E_12 hb
  have bx_19 := Lib.hid hB
  have S_19b := Lib.hid hl
  clear hB hl
  obtain ⟨x00, x01, x02, x03, x04⟩ := bx_19.out
  obtain ⟨x10, x11, x12, x13⟩ := bB_16.out
  go_wp2_with fail
  clear hW14
  have hD : Below W14.heap.size W14 W14.drew := (Below.refl _ _).drew
  go_region_held3 (fun w' => w'.cell? ⟨w9.heap.size, 0, none⟩ = some (.slice ps0 S.n5.a cs0) ∧ w'.cell? ⟨w9.heap.size, 1, none⟩ = some (.slice ps1 S.n5.b cs1) ∧ w'.cell? ⟨w9.heap.size, 2, none⟩ = some (.slice ps2 S.n5.c cs2) ∧ w'.cell? ⟨w9.heap.size, 3, none⟩ = some (.slice ps3 S.n5.d cs3) ∧ w'.cell? ⟨w9.heap.size, 4, none⟩ = some (.slice ps4 S.n5.e cs4) ∧ w'.cell? ⟨w.heap.size + 1, 0, none⟩ = some (.int .i64 lo) ∧ w'.cell? ⟨w.heap.size + 1, 1, none⟩ = some (.int .i64 hi))
    (refine ⟨?_, ?_, ?_, ?_, ?_, ?_, ?_⟩ <;> first | (go_keep; done) | (refine cell_keep hb ?_; first | (go_keep; done) | (go_simp; done)))
    (first
      | (go_at_call 27; refine (HIR.out _ _ _ _ _ _ (mx_17.out.sto.keep hR0)).mono ?_; rintro e r20_1 ⟨rfl, hb⟩; have hR1 := hR0.trans (hb.mono hR0.size))
      | (go_at_call 26; refine (toSpan_any lo hi _).mono ?_; rintro e r20_0 ⟨rfl, hb⟩; have hR0 := hD.trans (hb.mono hD.size)))
  have hbb : Below W14.heap.size W14 r20_1 := hR1
  clear hR0 hR1 hb hD HIR
  have bA_21 := Lib.hid (bA_15.out.keep hbb)
  have bB_22 := Lib.hid (bB_16.out.keep hbb)
  have mx_23 := Lib.hid (mx_17.out.keep hbb)
  have bx_24 := Lib.hid (bx_19.out.keep hbb)
  have E_25 := Lib.hid (E_18.out.trans (hbb.mono E_18.out.size))
  have S_25 := Lib.hid hbb.size
  clear x00 x01 x02 x03 x04 x10 x11 x12 x13
  clear bA_15 bB_16 mx_17 bx_19 E_18 hbb
  have hq1 : (q != q) = false := by simp
  generalize mkB t = tt at *
  obtain ⟨x00, x01, x02, x03, x04⟩ := bx_24.out
  obtain ⟨x10, x11, x12, x13, x14⟩ := bA_21.out
  go_wp2_with fail
  have hD : Below r20_1.heap.size r20_1 r20_1.drew := (Below.refl _ _).drew
  go_region_held3 (fun w' => w'.cell? ⟨w9.heap.size, 0, none⟩ = some (.slice ps0 S.n5.a cs0) ∧ w'.cell? ⟨w9.heap.size, 1, none⟩ = some (.slice ps1 S.n5.b cs1) ∧ w'.cell? ⟨w9.heap.size, 2, none⟩ = some (.slice ps2 S.n5.c cs2) ∧ w'.cell? ⟨w9.heap.size, 3, none⟩ = some (.slice ps3 S.n5.d cs3) ∧ w'.cell? ⟨w9.heap.size, 4, none⟩ = some (.slice ps4 S.n5.e cs4) ∧ w'.cell? ⟨w.heap.size, 0, none⟩ = some (.slice a0 S.now.length c0) ∧ w'.cell? ⟨w.heap.size, 1, none⟩ = some (.slice a1 S.sure.length c1) ∧ w'.cell? ⟨w.heap.size, 2, none⟩ = some (.slice a2 S.last.length c2) ∧ w'.cell? ⟨w.heap.size, 3, none⟩ = some (.slice a3 S.slast.length c3) ∧ w'.cell? ⟨w.heap.size, 4, none⟩ = some (.slice a4 S.floors.length c4))
    (refine ⟨?_, ?_, ?_, ?_, ?_, ?_, ?_, ?_, ?_, ?_⟩ <;> first | (go_keep; done) | (refine cell_keep hb ?_; first | (go_keep; done) | (go_simp; done)))
    (first
      | (go_at_call 12; refine (eqStore_same _ _ _ _ _ _ _ _ _ _ S _ (mx_23.out.sto.keep hR0) MT.out.sto).mono ?_; rintro e r26_1 ⟨rfl, hb⟩; have hR1 := hR0.trans (hb.mono hR0.size); clear MT)
      | (go_at_call 17; refine (toStore_any _ _ _ _ _ S _ (HH.out.keep ((E_25.out).trans (hD.mono E_25.out.size))) BD.out.le).mono ?_; rintro e r26_0 ⟨t0, t1, t2, t3, t4, rfl, MT, hb⟩; have hR0 := hD.trans (hb.mono hD.size)))
  have hbb : Below r20_1.heap.size r20_1 r26_1 := hR1
  clear hR0 hR1 hb hD
  have bA_27 := Lib.hid (bA_21.out.keep hbb)
  have bB_28 := Lib.hid (bB_22.out.keep hbb)
  have mx_29 := Lib.hid (mx_23.out.keep hbb)
  have bx_30 := Lib.hid (bx_24.out.keep hbb)
  have E_31 := Lib.hid (E_25.out.trans (hbb.mono E_25.out.size))
  have S_31 := Lib.hid hbb.size
  clear x00 x01 x02 x03 x04 x10 x11 x12 x13 x14
  clear bA_21 bB_22 mx_23 bx_24 E_25 hbb
  go_wp2
  go_ret
  exact ⟨rfl, E_31.out⟩

end Go.Proofs.Ytamhndnfaaifcaa.exStoreRead
