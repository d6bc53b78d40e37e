/-
  laws.FnExactStoreOk returns true at every input: the walk of the law. No condition.
-/
import Derived.Test.YtamhndnfaaifcaaStoOk
import Derived.Test.YtamhndnfaaifcaaStoBox
import Derived.Deep.RegionHeld3
namespace Go.Proofs.Ytamhndnfaaifcaa.exStoreOk
open Go.RowKit

set_option maxRecDepth 100000 in
set_option maxHeartbeats 8000000 in
theorem walk (v0 v1 v2 v3 v4 : Value) (S : StT) (w : World) (h : Sto w v0 v1 v2 v3 v4 S) (hz : szT S) :
    Calls Try.prog 4 #[.agg #[v0, v1, v2, v3, v4]] w fun e w' => e = .returned (.bool true) ∧ Below w.heap.size w w' := by
  obtain ⟨a0, c0, rfl⟩ := h.now.form
  obtain ⟨a1, c1, rfl⟩ := h.sure.form
  obtain ⟨a2, c2, rfl⟩ := h.last.form
  obtain ⟨a3, c3, rfl⟩ := h.slast.form
  obtain ⟨a4, c4, rfl⟩ := h.floors.form
  obtain ⟨W, hW⟩ : ∃ W, w.alloc (.cells #[.slice a0 S.now.length c0, .slice a1 S.sure.length c1, .slice a2 S.last.length c2, .slice a3 S.slast.length c3, .slice a4 S.floors.length c4] 30) = W := ⟨_, rfl⟩
  have hal : Below w.heap.size w W := by rw [← hW]; exact (Below.refl _ _).alloc (Nat.le_refl _) _
  have A0 : Box5 W w.heap.size (.slice a0 S.now.length c0) (.slice a1 S.sure.length c1) (.slice a2 S.last.length c2) (.slice a3 S.slast.length c3) (.slice a4 S.floors.length c4) := by rw [← hW]; exact new_box5 w _ _ _ _ _ _
  have hl : w.heap.size < W.heap.size := by rw [← hW]; simp
  have E_0 := Lib.hid hal
  have S_0 := Lib.hid hl
  have HH := Lib.hid h
  have HZ := Lib.hid hz
  have bA_0 := Lib.hid A0
  clear h hz hal hl A0
  obtain ⟨x00, x01, x02, x03, x04⟩ := bA_0.out
  go_enter Try.func4, Try.ntmps4
  go_wp2_with fail
  clear hW
  refine (szStore_any _ _ _ _ _ S 1048576 _ (HH.out.keep E_0.out) HZ.out.1 HZ.out.2 (by omega) (by omega)).mono ?_; rintro e w1 ⟨z1, rfl, p1, p2, P, hb⟩
  have bA_2 := Lib.hid (bA_0.out.keep hb)
  have E_3 := Lib.hid (E_0.out.trans (hb.mono E_0.out.size))
  have S_3 := Lib.hid hb.size
  clear x00 x01 x02 x03 x04
  clear bA_0 E_0 hb
  by_cases hz3 : z1 < 0
  · clear P
    go_wp2
    go_ret
    exact ⟨rfl, E_3.out⟩
  have BD := Lib.hid (P (by omega))
  clear P
  have HT : Hid (szT S) := HZ
  obtain ⟨x00, x01, x02, x03, x04⟩ := bA_2.out
  go_wp2_with fail
  refine (toStore_any _ _ _ _ _ S _ (HH.out.keep E_3.out) BD.out.le).mono ?_; rintro e w4 ⟨t0, t1, t2, t3, t4, rfl, M, hb⟩
  have bA_5 := Lib.hid (bA_2.out.keep hb)
  have E_6 := Lib.hid (E_3.out.trans (hb.mono E_3.out.size))
  have S_6 := Lib.hid hb.size
  clear x00 x01 x02 x03 x04
  clear bA_2 E_3 hb
  have m1_7 := M
  clear M
  go_wp2_with fail
  refine (specStoreOk_any _ _ _ _ _ S _ m1_7.out.sto HZ.out).mono ?_; rintro e w8 ⟨rfl, hb⟩
  have bA_9 := Lib.hid (bA_5.out.keep hb)
  have m1_10 := Lib.hid (m1_7.out.keep hb)
  have E_11 := Lib.hid (E_6.out.trans (hb.mono E_6.out.size))
  have S_11 := Lib.hid hb.size
  clear bA_5 m1_7 E_6 hb
  clear m1_10
  obtain ⟨x00, x01, x02, x03, x04⟩ := bA_9.out
  go_wp2_with fail
  refine (toStore_any _ _ _ _ _ S _ (HH.out.keep E_11.out) BD.out.le).mono ?_; rintro e w12 ⟨s0, s1, s2, s3, s4, rfl, M, hb⟩
  have bA_13 := Lib.hid (bA_9.out.keep hb)
  have E_14 := Lib.hid (E_11.out.trans (hb.mono E_11.out.size))
  have S_14 := Lib.hid hb.size
  clear x00 x01 x02 x03 x04
  clear bA_9 E_11 hb
  have m2_15 := M
  clear M
  obtain ⟨ps0, cs0, rfl⟩ := m2_15.out.a.vls.form
  obtain ⟨ps1, cs1, rfl⟩ := m2_15.out.b.vls.form
  obtain ⟨ps2, cs2, rfl⟩ := m2_15.out.c.vls.form
  obtain ⟨ps3, cs3, rfl⟩ := m2_15.out.d.vls.form
  obtain ⟨ps4, cs4, rfl⟩ := m2_15.out.e.vls.form
  obtain ⟨W16, hW16⟩ : ∃ X, w12.alloc (.cells #[.slice ps0 S.n5.a cs0, .slice ps1 S.n5.b cs1, .slice ps2 S.n5.c cs2, .slice ps3 S.n5.d cs3, .slice ps4 S.n5.e cs4] 25) = X := ⟨_, rfl⟩
  have hb : Below w12.heap.size w12 W16 := by rw [← hW16]; exact (Below.refl _ _).alloc (Nat.le_refl _) _
  have hB : Box5 W16 w12.heap.size (.slice ps0 S.n5.a cs0) (.slice ps1 S.n5.b cs1) (.slice ps2 S.n5.c cs2) (.slice ps3 S.n5.d cs3) (.slice ps4 S.n5.e cs4) := by rw [← hW16]; exact new_box5 _ _ _ _ _ _ _
  have hl : w12.heap.size < W16.heap.size := by rw [← hW16]; simp
  have bA_17 := Lib.hid (bA_13.out.keep hb)
  have m2_18 := Lib.hid (m2_15.out.keep hb)
  have E_19 := Lib.hid (E_14.out.trans (hb.mono E_14.out.size))
  have S_19 := Lib.hid hb.size
  clear bA_13 m2_15 E_14 hb
  have bx_20 := Lib.hid hB
  have S_20b := Lib.hid hl
  clear hB hl
  obtain ⟨x00, x01, x02, x03, x04⟩ := bx_20.out
  go_wp2_with fail
  clear hW16
  refine (implStoreOk_any _ _ _ _ _ S _ m2_18.out.sto HZ.out).mono ?_; rintro e w21 ⟨rfl, hb⟩
  have bA_22 := Lib.hid (bA_17.out.keep hb)
  have m2_23 := Lib.hid (m2_18.out.keep hb)
  have bx_24 := Lib.hid (bx_20.out.keep hb)
  have E_25 := Lib.hid (E_19.out.trans (hb.mono E_19.out.size))
  have S_25 := Lib.hid hb.size
  clear x00 x01 x02 x03 x04
  clear bA_17 m2_18 bx_20 E_19 hb
  have hqq : (stOkB S != stOkB S) = false := by simp
  have hqq2 : (stOkB S == stOkB S) = true := by simp
  generalize stOkB S = q at *
  obtain ⟨x00, x01, x02, x03, x04⟩ := bx_24.out
  obtain ⟨x10, x11, x12, x13, x14⟩ := bA_22.out
  go_wp2_with fail
  have hD : Below w21.heap.size w21 w21.drew := (Below.refl _ _).drew
  go_region_held3 (fun w' => w'.cell? ⟨w12.heap.size, 0, none⟩ = some (.slice ps0 S.n5.a cs0) ∧ w'.cell? ⟨w12.heap.size, 1, none⟩ = some (.slice ps1 S.n5.b cs1) ∧ w'.cell? ⟨w12.heap.size, 2, none⟩ = some (.slice ps2 S.n5.c cs2) ∧ w'.cell? ⟨w12.heap.size, 3, none⟩ = some (.slice ps3 S.n5.d cs3) ∧ w'.cell? ⟨w12.heap.size, 4, none⟩ = some (.slice ps4 S.n5.e cs4) ∧ w'.cell? ⟨w.heap.size, 0, none⟩ = some (.slice a0 S.now.length c0) ∧ w'.cell? ⟨w.heap.size, 1, none⟩ = some (.slice a1 S.sure.length c1) ∧ w'.cell? ⟨w.heap.size, 2, none⟩ = some (.slice a2 S.last.length c2) ∧ w'.cell? ⟨w.heap.size, 3, none⟩ = some (.slice a3 S.slast.length c3) ∧ w'.cell? ⟨w.heap.size, 4, none⟩ = some (.slice a4 S.floors.length c4))
    (refine ⟨?_, ?_, ?_, ?_, ?_, ?_, ?_, ?_, ?_, ?_⟩ <;> first | (go_keep; done) | (refine cell_keep hb ?_; first | (go_keep; done) | (go_simp; done)))
    (first
      | (go_at_call 17; refine (toStore_any _ _ _ _ _ S _ (HH.out.keep ((E_25.out).trans (hD.mono E_25.out.size))) BD.out.le).mono ?_; rintro e r0 ⟨t0, t1, t2, t3, t4, rfl, MT, hb⟩; have hR0 := hD.trans (hb.mono hD.size))
      | (go_at_call 12; refine (eqStore_same _ _ _ _ _ _ _ _ _ _ S _ (m2_23.out.sto.keep hR0) MT.out.sto).mono ?_; rintro e r1 ⟨rfl, hb⟩; have hR1 := hR0.trans (hb.mono hR0.size); clear MT))
  have hbb : Below w21.heap.size w21 r1 := hR1
  clear hR0 hR1 hb hD
  have bA_26 := Lib.hid (bA_22.out.keep hbb)
  have m2_27 := Lib.hid (m2_23.out.keep hbb)
  have bx_28 := Lib.hid (bx_24.out.keep hbb)
  have E_29 := Lib.hid (E_25.out.trans (hbb.mono E_25.out.size))
  have S_29 := Lib.hid hbb.size
  clear x00 x01 x02 x03 x04 x10 x11 x12 x13 x14
  clear bA_22 m2_23 bx_24 E_25 hbb
  go_wp2
  go_ret
  exact ⟨rfl, E_29.out⟩

end Go.Proofs.Ytamhndnfaaifcaa.exStoreOk
