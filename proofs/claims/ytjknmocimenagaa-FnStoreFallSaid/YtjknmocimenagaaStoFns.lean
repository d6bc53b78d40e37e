/-
  The program's StoreSync and StoreFall.
-/
import Derived.Test.YtjknmocimenagaaStoStore
namespace Go.Proofs.Ytjknmocimenagaa
open Go.RowKit

set_option maxRecDepth 100000 in
set_option maxHeartbeats 8000000 in
theorem implSync_no (v0 v1 v2 v3 v4 : Value) (S : StT) (w : World) (h : Sto w v0 v1 v2 v3 v4 S) (hz : szT S) (hq : stOkB S = false) :
    Calls Try.prog 8 #[.agg #[v0, v1, v2, v3, v4]] w (ToSt w (syncT S)) := by
  have hst : syncT S = st0 := by unfold syncT; rw [if_neg (by simp [hq])]
  obtain ⟨a0, c0, rfl⟩ := h.now.form
  obtain ⟨a1, c1, rfl⟩ := h.sure.form
  obtain ⟨a2, c2, rfl⟩ := h.last.form
  obtain ⟨a3, c3, rfl⟩ := h.slast.form
  obtain ⟨a4, c4, rfl⟩ := h.floors.form
  obtain ⟨W, hW⟩ : ∃ W, (w.alloc (.cells #[.slice a0 S.now.length c0, .slice a1 S.sure.length c1, .slice a2 S.last.length c2, .slice a3 S.slast.length c3, .slice a4 S.floors.length c4] 26)).alloc (.cells #[.slice none 0 0, .slice none 0 0, .slice none 0 0, .slice none 0 0, .slice none 0 0] 26) = W := ⟨_, rfl⟩
  have hal : Below w.heap.size w W := by rw [← hW]; exact ((Below.refl _ _).alloc (Nat.le_refl _) _).alloc (by simp) _
  have A0 : Box5 W w.heap.size (.slice a0 S.now.length c0) (.slice a1 S.sure.length c1) (.slice a2 S.last.length c2) (.slice a3 S.slast.length c3) (.slice a4 S.floors.length c4) := by rw [← hW]; exact (new_box5 w _ _ _ _ _ _).keep ((Below.refl _ _).alloc (Nat.le_refl _) _)
  have R0 : Box5W W (w.heap.size + 1) (.slice none 0 0) (.slice none 0 0) (.slice none 0 0) (.slice none 0 0) (.slice none 0 0) := by
    rw [← hW]
    have := new_box5W (w.alloc (.cells #[.slice a0 S.now.length c0, .slice a1 S.sure.length c1, .slice a2 S.last.length c2, .slice a3 S.slast.length c3, .slice a4 S.floors.length c4] 26)) (.slice none 0 0) (.slice none 0 0) (.slice none 0 0) (.slice none 0 0) (.slice none 0 0) 26
    simpa using this
  have hl : w.heap.size + 1 < W.heap.size := by rw [← hW]; simp
  have E_0 := Lib.hid hal
  have S_0 := Lib.hid hl
  have bA_0 := Lib.hid A0
  have bR_0 := Lib.hid R0
  have K := Lib.hid (diskOf_no _ _ _ _ _ S W (h.keep hal) hz hq)
  rw [hst]
  clear h hz hq hal A0 R0 hl
  obtain ⟨x00, x01, x02, x03, x04⟩ := bA_0.out
  go_enter Try.func8, Try.ntmps8
  go_wp2_with fail
  clear hW
  refine K.out.mono ?_; rintro e w1 ⟨rfl, hb⟩
  have bA_1 := Lib.hid (bA_0.out.keep hb)
  have bR_2 := Lib.hid (bR_0.out.keep hb)
  have E_3 := Lib.hid (E_0.out.trans (hb.mono E_0.out.size))
  have S_3 := Lib.hid hb.size
  clear x00 x01 x02 x03 x04
  clear bA_0 bR_0 E_0 hb
  clear K
  obtain ⟨x00, x01, x02, x03, x04, x05, x06, x07, x08, x09⟩ := bR_2.out
  obtain ⟨Z4, hZ4⟩ : ∃ X, (((((w1.setCell ⟨w.heap.size + 1, 0, none⟩ (.slice none 0 0)).setCell ⟨w.heap.size + 1, 1, none⟩ (.slice none 0 0)).setCell ⟨w.heap.size + 1, 2, none⟩ (.slice none 0 0)).setCell ⟨w.heap.size + 1, 3, none⟩ (.slice none 0 0)).setCell ⟨w.heap.size + 1, 4, none⟩ (.slice none 0 0)) = X := ⟨_, rfl⟩
  have hz : Box5W Z4 (w.heap.size + 1) (.slice none 0 0) (.slice none 0 0) (.slice none 0 0) (.slice none 0 0) (.slice none 0 0) := by rw [← hZ4]; exact ((((bR_2.out.set0 _).set1 _).set2 _).set3 _).set4 _
  have ht : Btn (w.heap.size + 1) (w.heap.size + 1 + 1) w1 Z4 := by rw [← hZ4]; exact ((((btn_set _ _ _ _).trans (btn_set _ _ _ _)).trans (btn_set _ _ _ _)).trans (btn_set _ _ _ _)).trans (btn_set _ _ _ _)
  have q0 := S_0.out
  have q1 := S_3.out
  have HZ : Hid (Below w.heap.size w Z4) := E_3.out.trans (ht.below (by omega) E_3.out.size)
  have hs := ht.size
  have HM : Hid (M5 Z4 w.heap.size Z4.heap.size (.slice none 0 0) (.slice none 0 0) (.slice none 0 0) (.slice none 0 0) (.slice none 0 0) (StT.n5 st0) (StT.f5 st0)) := M5.none _ _ _
  clear q0 q1 ht hs
  go_wp2
  obtain ⟨t0, t1, t2, t3, t4, -, -, -, -, -⟩ := hz
  exact bodyPost_ret (v := .agg #[.slice none 0 0, .slice none 0 0, .slice none 0 0, .slice none 0 0, .slice none 0 0]) (by simp [results, Try.results8, go_sem, t0, t1, t2, t3, t4]) rfl ⟨_, _, _, _, _, rfl, HM, HZ.out⟩

set_option maxRecDepth 100000 in
set_option maxHeartbeats 8000000 in
theorem implSync_yes (v0 v1 v2 v3 v4 : Value) (S : StT) (w : World) (h : Sto w v0 v1 v2 v3 v4 S) (hz : szT S) (hq : stOkB S = true) :
    Calls Try.prog 8 #[.agg #[v0, v1, v2, v3, v4]] w (ToSt w (syncT S)) := by
  obtain ⟨z0, z1, z2, z3, z4⟩ := stOk_lens hq
  obtain ⟨N, U, L, M, F⟩ := S
  obtain ⟨n0, n1, n2, rfl⟩ := three z0
  obtain ⟨u0, u1, u2, rfl⟩ := three z1
  obtain ⟨l0, l1, l2, rfl⟩ := three z2
  obtain ⟨m0, m1, m2, rfl⟩ := three z3
  obtain ⟨f0, f1, f2, rfl⟩ := three z4
  clear z0 z1 z2 z3 z4
  have hst : syncT ⟨[n0, n1, n2], [u0, u1, u2], [l0, l1, l2], [m0, m1, m2], [f0, f1, f2]⟩ = ⟨[n0, n1, n2], [n0, n1, n2], [l0, l1, l2], [l0, l1, l2], [f0, f1, f2]⟩ := by unfold syncT; rw [if_pos hq]
  rw [hst]
  clear hst
  have hD := fun W hW => diskOf_yes v0 v1 v2 v3 v4 ⟨[n0, n1, n2], [u0, u1, u2], [l0, l1, l2], [m0, m1, m2], [f0, f1, f2]⟩ W (h.keep (w1 := W) hW) hz hq
  obtain ⟨a0, c0, rfl⟩ := h.now.form
  obtain ⟨a1, c1, rfl⟩ := h.sure.form
  obtain ⟨a2, c2, rfl⟩ := h.last.form
  obtain ⟨a3, c3, rfl⟩ := h.slast.form
  obtain ⟨a4, c4, rfl⟩ := h.floors.form
  obtain ⟨W, hW⟩ : ∃ W, (w.alloc (.cells #[.slice a0 3 c0, .slice a1 3 c1, .slice a2 3 c2, .slice a3 3 c3, .slice a4 3 c4] 26)).alloc (.cells #[.slice none 0 0, .slice none 0 0, .slice none 0 0, .slice none 0 0, .slice none 0 0] 26) = W := ⟨_, rfl⟩
  have hal : Below w.heap.size w W := by rw [← hW]; exact ((Below.refl _ _).alloc (Nat.le_refl _) _).alloc (by simp) _
  have A0 : Box5 W w.heap.size (.slice a0 3 c0) (.slice a1 3 c1) (.slice a2 3 c2) (.slice a3 3 c3) (.slice a4 3 c4) := by rw [← hW]; exact (new_box5 w _ _ _ _ _ _).keep ((Below.refl _ _).alloc (Nat.le_refl _) _)
  have R0 : Box5W W (w.heap.size + 1) (.slice none 0 0) (.slice none 0 0) (.slice none 0 0) (.slice none 0 0) (.slice none 0 0) := by
    rw [← hW]
    have := new_box5W (w.alloc (.cells #[.slice a0 3 c0, .slice a1 3 c1, .slice a2 3 c2, .slice a3 3 c3, .slice a4 3 c4] 26)) (.slice none 0 0) (.slice none 0 0) (.slice none 0 0) (.slice none 0 0) (.slice none 0 0) 26
    simpa using this
  have hl : w.heap.size + 1 < W.heap.size := by rw [← hW]; simp
  have E_0 := Lib.hid hal
  have S_0 := Lib.hid hl
  have bA_0 := Lib.hid A0
  have bR_0 := Lib.hid R0
  have K := Lib.hid (hD W hal)
  clear h hz hq hal A0 R0 hl hD
  obtain ⟨x00, x01, x02, x03, x04⟩ := bA_0.out
  go_enter Try.func8, Try.ntmps8
  go_wp2_with fail
  clear hW
  refine K.out.mono ?_; rintro e w1 ⟨d, rfl, HD, hb⟩
  have bA_1 := Lib.hid (bA_0.out.keep hb)
  have bR_2 := Lib.hid (bR_0.out.keep hb)
  have E_3 := Lib.hid (E_0.out.trans (hb.mono E_0.out.size))
  have S_3 := Lib.hid hb.size
  clear x00 x01 x02 x03 x04
  clear bA_0 bR_0 E_0 hb
  clear K
  obtain ⟨s0, s1, s2, t0, t1, t2, hrow, hdl, i0, i1, i2, i3, i4, i5, o0, o1, o2, o3, o4, o5⟩ := HD.out
  obtain ⟨g0, p0, rfl⟩ := i0.form
  obtain ⟨g1, p1, rfl⟩ := i1.form
  obtain ⟨g2, p2, rfl⟩ := i2.form
  obtain ⟨g3, p3, rfl⟩ := i3.form
  obtain ⟨g4, p4, rfl⟩ := i4.form
  obtain ⟨g5, p5, rfl⟩ := i5.form
  change w1.heap[d]? = some (.cells #[.slice (some ⟨g0, 0, none⟩) n0.length p0, .slice (some ⟨g1, 0, none⟩) n1.length p1, .slice (some ⟨g2, 0, none⟩) n2.length p2, .int .i64 l0, .int .i64 l1, .int .i64 l2, .slice (some ⟨g3, 0, none⟩) u0.length p3, .slice (some ⟨g4, 0, none⟩) u1.length p4, .slice (some ⟨g5, 0, none⟩) u2.length p5, .int .i64 m0, .int .i64 m1, .int .i64 m2, .int .i64 f0, .int .i64 f1, .int .i64 f2] 53 (0, 0)) at hrow
  change Shg w1 _ _ n0 at i0
  change Shg w1 _ _ n1 at i1
  change Shg w1 _ _ n2 at i2
  change Shg w1 _ _ u0 at i3
  change Shg w1 _ _ u1 at i4
  change Shg w1 _ _ u2 at i5
  have J0 := Lib.hid i0
  have J1 := Lib.hid i1
  have J2 := Lib.hid i2
  have J3 := Lib.hid i3
  have J4 := Lib.hid i4
  have J5 := Lib.hid i5
  have O0 := Lib.hid o0
  have O1 := Lib.hid o1
  have O2 := Lib.hid o2
  have O3 := Lib.hid o3
  have O4 := Lib.hid o4
  have O5 := Lib.hid o5
  have HROW := Lib.hid hrow
  have HDL := Lib.hid hdl
  clear HD i0 i1 i2 i3 i4 i5 o0 o1 o2 o3 o4 o5 hrow hdl
  have y0 := row_cell HROW.out 0 _ rfl
  have f0' := row_free HROW.out 0
  have y1 := row_cell HROW.out 1 _ rfl
  have f1' := row_free HROW.out 1
  have y2 := row_cell HROW.out 2 _ rfl
  have f2' := row_free HROW.out 2
  have y3 := row_cell HROW.out 3 _ rfl
  have f3' := row_free HROW.out 3
  have y4 := row_cell HROW.out 4 _ rfl
  have f4' := row_free HROW.out 4
  have y5 := row_cell HROW.out 5 _ rfl
  have f5' := row_free HROW.out 5
  have y6 := row_cell HROW.out 6 _ rfl
  have f6' := row_free HROW.out 6
  have y7 := row_cell HROW.out 7 _ rfl
  have f7' := row_free HROW.out 7
  have y8 := row_cell HROW.out 8 _ rfl
  have f8' := row_free HROW.out 8
  have y9 := row_cell HROW.out 9 _ rfl
  have f9' := row_free HROW.out 9
  have y10 := row_cell HROW.out 10 _ rfl
  have f10' := row_free HROW.out 10
  have y11 := row_cell HROW.out 11 _ rfl
  have f11' := row_free HROW.out 11
  have y12 := row_cell HROW.out 12 _ rfl
  have f12' := row_free HROW.out 12
  have y13 := row_cell HROW.out 13 _ rfl
  have f13' := row_free HROW.out 13
  have y14 := row_cell HROW.out 14 _ rfl
  have f14' := row_free HROW.out 14
  obtain ⟨X6, hX6⟩ : ∃ X, ((((((w1.setCell ⟨d, 6, none⟩ (.slice (some ⟨g0, 0, none⟩) n0.length p0)).setCell ⟨d, 7, none⟩ (.slice (some ⟨g1, 0, none⟩) n1.length p1)).setCell ⟨d, 8, none⟩ (.slice (some ⟨g2, 0, none⟩) n2.length p2)).setCell ⟨d, 9, none⟩ (.int .i64 l0)).setCell ⟨d, 10, none⟩ (.int .i64 l1)).setCell ⟨d, 11, none⟩ (.int .i64 l2)) = X := ⟨_, rfl⟩
  have ht : Btn d (d + 1) w1 X6 := by rw [← hX6]; exact (((((btn_set _ _ _ _).trans (btn_set _ _ _ _)).trans (btn_set _ _ _ _)).trans (btn_set _ _ _ _)).trans (btn_set _ _ _ _)).trans (btn_set _ _ _ _)
  have hdl := HDL.out
  have HV : Hid (Dsv X6 d n0 n1 n2 n0 n1 n2 l0 l1 l2 l0 l1 l2 f0 f1 f2) := ⟨_, _, _, _, _, _, (by rw [← hX6]; exact row_set (row_set (row_set (row_set (row_set (row_set (HROW.out) 6 _) 7 _) 8 _) 9 _) 10 _) 11 _), (J0.out.off ht O0.out).sht.shv, (J1.out.off ht O1.out).sht.shv, (J2.out.off ht O2.out).sht.shv, (J0.out.off ht O0.out).sht.shv, (J1.out.off ht O1.out).sht.shv, (J2.out.off ht O2.out).sht.shv⟩
  have q0 := S_0.out
  have q1 := S_3.out
  have bA_4 := Lib.hid (bA_1.out.btn ht (by omega))
  have bR_5 := Lib.hid (bR_2.out.btn ht (by omega))
  have E_6 := Lib.hid (E_3.out.trans (ht.below (by omega) E_3.out.size))
  have S_6 := Lib.hid ht.size
  clear bA_1 bR_2 E_3 q0 q1 ht
  clear hdl J0 J1 J2 J3 J4 J5 O0 O1 O2 O3 O4 O5
  go_wp2_with fail
  clear hX6 y0 f0' y1 f1' y2 f2' y3 f3' y4 f4' y5 f5' y6 f6' y7 f7' y8 f8' y9 f9' y10 f10' y11 f11' y12 f12' y13 f13' y14 f14'
  refine (diskStore_any d _ _ _ _ _ _ _ _ _ _ _ _ _ _ _ X6 HV.out).mono ?_; rintro e w2 ⟨r0, r1, r2, r3, r4, rfl, M, hb⟩
  clear HV HROW HDL
  have bA_8 := Lib.hid (bA_4.out.keep hb)
  have bR_9 := Lib.hid (bR_5.out.keep hb)
  have E_10 := Lib.hid (E_6.out.trans (hb.mono E_6.out.size))
  have S_10 := Lib.hid hb.size
  clear bA_4 bR_5 E_6 hb
  obtain ⟨b0, e0, rfl⟩ := M.out.a.vls.form
  obtain ⟨b1, e1, rfl⟩ := M.out.b.vls.form
  obtain ⟨b2, e2, rfl⟩ := M.out.c.vls.form
  obtain ⟨b3, e3, rfl⟩ := M.out.d.vls.form
  obtain ⟨b4, e4, rfl⟩ := M.out.e.vls.form
  obtain ⟨x00, x01, x02, x03, x04, x05, x06, x07, x08, x09⟩ := bR_9.out
  obtain ⟨Z11, hZ11⟩ : ∃ X, (((((w2.setCell ⟨w.heap.size + 1, 0, none⟩ (.slice b0 (StT.n5 ⟨[n0, n1, n2], [n0, n1, n2], [l0, l1, l2], [l0, l1, l2], [f0, f1, f2]⟩).a e0)).setCell ⟨w.heap.size + 1, 1, none⟩ (.slice b1 (StT.n5 ⟨[n0, n1, n2], [n0, n1, n2], [l0, l1, l2], [l0, l1, l2], [f0, f1, f2]⟩).b e1)).setCell ⟨w.heap.size + 1, 2, none⟩ (.slice b2 (StT.n5 ⟨[n0, n1, n2], [n0, n1, n2], [l0, l1, l2], [l0, l1, l2], [f0, f1, f2]⟩).c e2)).setCell ⟨w.heap.size + 1, 3, none⟩ (.slice b3 (StT.n5 ⟨[n0, n1, n2], [n0, n1, n2], [l0, l1, l2], [l0, l1, l2], [f0, f1, f2]⟩).d e3)).setCell ⟨w.heap.size + 1, 4, none⟩ (.slice b4 (StT.n5 ⟨[n0, n1, n2], [n0, n1, n2], [l0, l1, l2], [l0, l1, l2], [f0, f1, f2]⟩).e e4)) = X := ⟨_, rfl⟩
  have hz : Box5W Z11 (w.heap.size + 1) (.slice b0 (StT.n5 ⟨[n0, n1, n2], [n0, n1, n2], [l0, l1, l2], [l0, l1, l2], [f0, f1, f2]⟩).a e0) (.slice b1 (StT.n5 ⟨[n0, n1, n2], [n0, n1, n2], [l0, l1, l2], [l0, l1, l2], [f0, f1, f2]⟩).b e1) (.slice b2 (StT.n5 ⟨[n0, n1, n2], [n0, n1, n2], [l0, l1, l2], [l0, l1, l2], [f0, f1, f2]⟩).c e2) (.slice b3 (StT.n5 ⟨[n0, n1, n2], [n0, n1, n2], [l0, l1, l2], [l0, l1, l2], [f0, f1, f2]⟩).d e3) (.slice b4 (StT.n5 ⟨[n0, n1, n2], [n0, n1, n2], [l0, l1, l2], [l0, l1, l2], [f0, f1, f2]⟩).e e4) := by rw [← hZ11]; exact ((((bR_9.out.set0 _).set1 _).set2 _).set3 _).set4 _
  have ht : Btn (w.heap.size + 1) (w.heap.size + 1 + 1) w2 Z11 := by rw [← hZ11]; exact ((((btn_set _ _ _ _).trans (btn_set _ _ _ _)).trans (btn_set _ _ _ _)).trans (btn_set _ _ _ _)).trans (btn_set _ _ _ _)
  have q0 := S_0.out
  have q1 := S_3.out
  have q2 := S_6.out
  have q3 := S_10.out
  have HZ : Hid (Below w.heap.size w Z11) := E_10.out.trans (ht.below (by omega) E_10.out.size)
  have hs := ht.size
  have HM : Hid (M5 Z11 w.heap.size Z11.heap.size (.slice b0 (StT.n5 ⟨[n0, n1, n2], [n0, n1, n2], [l0, l1, l2], [l0, l1, l2], [f0, f1, f2]⟩).a e0) (.slice b1 (StT.n5 ⟨[n0, n1, n2], [n0, n1, n2], [l0, l1, l2], [l0, l1, l2], [f0, f1, f2]⟩).b e1) (.slice b2 (StT.n5 ⟨[n0, n1, n2], [n0, n1, n2], [l0, l1, l2], [l0, l1, l2], [f0, f1, f2]⟩).c e2) (.slice b3 (StT.n5 ⟨[n0, n1, n2], [n0, n1, n2], [l0, l1, l2], [l0, l1, l2], [f0, f1, f2]⟩).d e3) (.slice b4 (StT.n5 ⟨[n0, n1, n2], [n0, n1, n2], [l0, l1, l2], [l0, l1, l2], [f0, f1, f2]⟩).e e4) (StT.n5 ⟨[n0, n1, n2], [n0, n1, n2], [l0, l1, l2], [l0, l1, l2], [f0, f1, f2]⟩) (StT.f5 ⟨[n0, n1, n2], [n0, n1, n2], [l0, l1, l2], [l0, l1, l2], [f0, f1, f2]⟩)) := (M.out.btn ht (.inr (by omega))).wide (by omega) (by omega)
  clear q0 q1 q2 q3 ht hs
  go_wp2
  obtain ⟨t0, t1, t2, t3, t4, -, -, -, -, -⟩ := hz
  exact bodyPost_ret (v := .agg #[.slice b0 (StT.n5 ⟨[n0, n1, n2], [n0, n1, n2], [l0, l1, l2], [l0, l1, l2], [f0, f1, f2]⟩).a e0, .slice b1 (StT.n5 ⟨[n0, n1, n2], [n0, n1, n2], [l0, l1, l2], [l0, l1, l2], [f0, f1, f2]⟩).b e1, .slice b2 (StT.n5 ⟨[n0, n1, n2], [n0, n1, n2], [l0, l1, l2], [l0, l1, l2], [f0, f1, f2]⟩).c e2, .slice b3 (StT.n5 ⟨[n0, n1, n2], [n0, n1, n2], [l0, l1, l2], [l0, l1, l2], [f0, f1, f2]⟩).d e3, .slice b4 (StT.n5 ⟨[n0, n1, n2], [n0, n1, n2], [l0, l1, l2], [l0, l1, l2], [f0, f1, f2]⟩).e e4]) (by simp [results, Try.results8, go_sem, t0, t1, t2, t3, t4]) rfl ⟨_, _, _, _, _, rfl, HM, HZ.out⟩

theorem implSync_any (v0 v1 v2 v3 v4 : Value) (S : StT) (w : World) (h : Sto w v0 v1 v2 v3 v4 S) (hz : szT S) : Calls Try.prog 8 #[.agg #[v0, v1, v2, v3, v4]] w (ToSt w (syncT S)) := by
  by_cases hq : stOkB S = true
  · exact implSync_yes _ _ _ _ _ S w h hz hq
  · exact implSync_no _ _ _ _ _ S w h hz (by simpa using hq)

set_option maxRecDepth 100000 in
set_option maxHeartbeats 8000000 in
theorem implFall_no (v0 v1 v2 v3 v4 : Value) (S : StT) (w : World) (h : Sto w v0 v1 v2 v3 v4 S) (hz : szT S) (hq : stOkB S = false) :
    Calls Try.prog 7 #[.agg #[v0, v1, v2, v3, v4]] w (ToSt w (fallT S)) := by
  have hst : fallT S = st0 := by unfold fallT; rw [if_neg (by simp [hq])]
  obtain ⟨a0, c0, rfl⟩ := h.now.form
  obtain ⟨a1, c1, rfl⟩ := h.sure.form
  obtain ⟨a2, c2, rfl⟩ := h.last.form
  obtain ⟨a3, c3, rfl⟩ := h.slast.form
  obtain ⟨a4, c4, rfl⟩ := h.floors.form
  obtain ⟨W, hW⟩ : ∃ W, (w.alloc (.cells #[.slice a0 S.now.length c0, .slice a1 S.sure.length c1, .slice a2 S.last.length c2, .slice a3 S.slast.length c3, .slice a4 S.floors.length c4] 26)).alloc (.cells #[.slice none 0 0, .slice none 0 0, .slice none 0 0, .slice none 0 0, .slice none 0 0] 26) = W := ⟨_, rfl⟩
  have hal : Below w.heap.size w W := by rw [← hW]; exact ((Below.refl _ _).alloc (Nat.le_refl _) _).alloc (by simp) _
  have A0 : Box5 W w.heap.size (.slice a0 S.now.length c0) (.slice a1 S.sure.length c1) (.slice a2 S.last.length c2) (.slice a3 S.slast.length c3) (.slice a4 S.floors.length c4) := by rw [← hW]; exact (new_box5 w _ _ _ _ _ _).keep ((Below.refl _ _).alloc (Nat.le_refl _) _)
  have R0 : Box5W W (w.heap.size + 1) (.slice none 0 0) (.slice none 0 0) (.slice none 0 0) (.slice none 0 0) (.slice none 0 0) := by
    rw [← hW]
    have := new_box5W (w.alloc (.cells #[.slice a0 S.now.length c0, .slice a1 S.sure.length c1, .slice a2 S.last.length c2, .slice a3 S.slast.length c3, .slice a4 S.floors.length c4] 26)) (.slice none 0 0) (.slice none 0 0) (.slice none 0 0) (.slice none 0 0) (.slice none 0 0) 26
    simpa using this
  have hl : w.heap.size + 1 < W.heap.size := by rw [← hW]; simp
  have E_0 := Lib.hid hal
  have S_0 := Lib.hid hl
  have bA_0 := Lib.hid A0
  have bR_0 := Lib.hid R0
  have K := Lib.hid (diskOf_no _ _ _ _ _ S W (h.keep hal) hz hq)
  rw [hst]
  clear h hz hq hal A0 R0 hl
  obtain ⟨x00, x01, x02, x03, x04⟩ := bA_0.out
  go_enter Try.func7, Try.ntmps7
  go_wp2_with fail
  clear hW
  refine K.out.mono ?_; rintro e w1 ⟨rfl, hb⟩
  have bA_1 := Lib.hid (bA_0.out.keep hb)
  have bR_2 := Lib.hid (bR_0.out.keep hb)
  have E_3 := Lib.hid (E_0.out.trans (hb.mono E_0.out.size))
  have S_3 := Lib.hid hb.size
  clear x00 x01 x02 x03 x04
  clear bA_0 bR_0 E_0 hb
  clear K
  obtain ⟨x00, x01, x02, x03, x04, x05, x06, x07, x08, x09⟩ := bR_2.out
  obtain ⟨Z4, hZ4⟩ : ∃ X, (((((w1.setCell ⟨w.heap.size + 1, 0, none⟩ (.slice none 0 0)).setCell ⟨w.heap.size + 1, 1, none⟩ (.slice none 0 0)).setCell ⟨w.heap.size + 1, 2, none⟩ (.slice none 0 0)).setCell ⟨w.heap.size + 1, 3, none⟩ (.slice none 0 0)).setCell ⟨w.heap.size + 1, 4, none⟩ (.slice none 0 0)) = X := ⟨_, rfl⟩
  have hz : Box5W Z4 (w.heap.size + 1) (.slice none 0 0) (.slice none 0 0) (.slice none 0 0) (.slice none 0 0) (.slice none 0 0) := by rw [← hZ4]; exact ((((bR_2.out.set0 _).set1 _).set2 _).set3 _).set4 _
  have ht : Btn (w.heap.size + 1) (w.heap.size + 1 + 1) w1 Z4 := by rw [← hZ4]; exact ((((btn_set _ _ _ _).trans (btn_set _ _ _ _)).trans (btn_set _ _ _ _)).trans (btn_set _ _ _ _)).trans (btn_set _ _ _ _)
  have q0 := S_0.out
  have q1 := S_3.out
  have HZ : Hid (Below w.heap.size w Z4) := E_3.out.trans (ht.below (by omega) E_3.out.size)
  have hs := ht.size
  have HM : Hid (M5 Z4 w.heap.size Z4.heap.size (.slice none 0 0) (.slice none 0 0) (.slice none 0 0) (.slice none 0 0) (.slice none 0 0) (StT.n5 st0) (StT.f5 st0)) := M5.none _ _ _
  clear q0 q1 ht hs
  go_wp2
  obtain ⟨t0, t1, t2, t3, t4, -, -, -, -, -⟩ := hz
  exact bodyPost_ret (v := .agg #[.slice none 0 0, .slice none 0 0, .slice none 0 0, .slice none 0 0, .slice none 0 0]) (by simp [results, Try.results7, go_sem, t0, t1, t2, t3, t4]) rfl ⟨_, _, _, _, _, rfl, HM, HZ.out⟩

set_option maxRecDepth 100000 in
set_option maxHeartbeats 8000000 in
theorem implFall_yes (v0 v1 v2 v3 v4 : Value) (S : StT) (w : World) (h : Sto w v0 v1 v2 v3 v4 S) (hz : szT S) (hq : stOkB S = true) :
    Calls Try.prog 7 #[.agg #[v0, v1, v2, v3, v4]] w (ToSt w (fallT S)) := by
  obtain ⟨z0, z1, z2, z3, z4⟩ := stOk_lens hq
  obtain ⟨N, U, L, M, F⟩ := S
  obtain ⟨n0, n1, n2, rfl⟩ := three z0
  obtain ⟨u0, u1, u2, rfl⟩ := three z1
  obtain ⟨l0, l1, l2, rfl⟩ := three z2
  obtain ⟨m0, m1, m2, rfl⟩ := three z3
  obtain ⟨f0, f1, f2, rfl⟩ := three z4
  clear z0 z1 z2 z3 z4
  have hst : fallT ⟨[n0, n1, n2], [u0, u1, u2], [l0, l1, l2], [m0, m1, m2], [f0, f1, f2]⟩ = ⟨[u0, u1, u2], [u0, u1, u2], [m0, m1, m2], [m0, m1, m2], [f0, f1, f2]⟩ := by unfold fallT; rw [if_pos hq]
  rw [hst]
  clear hst
  have hD := fun W hW => diskOf_yes v0 v1 v2 v3 v4 ⟨[n0, n1, n2], [u0, u1, u2], [l0, l1, l2], [m0, m1, m2], [f0, f1, f2]⟩ W (h.keep (w1 := W) hW) hz hq
  obtain ⟨a0, c0, rfl⟩ := h.now.form
  obtain ⟨a1, c1, rfl⟩ := h.sure.form
  obtain ⟨a2, c2, rfl⟩ := h.last.form
  obtain ⟨a3, c3, rfl⟩ := h.slast.form
  obtain ⟨a4, c4, rfl⟩ := h.floors.form
  obtain ⟨W, hW⟩ : ∃ W, (w.alloc (.cells #[.slice a0 3 c0, .slice a1 3 c1, .slice a2 3 c2, .slice a3 3 c3, .slice a4 3 c4] 26)).alloc (.cells #[.slice none 0 0, .slice none 0 0, .slice none 0 0, .slice none 0 0, .slice none 0 0] 26) = W := ⟨_, rfl⟩
  have hal : Below w.heap.size w W := by rw [← hW]; exact ((Below.refl _ _).alloc (Nat.le_refl _) _).alloc (by simp) _
  have A0 : Box5 W w.heap.size (.slice a0 3 c0) (.slice a1 3 c1) (.slice a2 3 c2) (.slice a3 3 c3) (.slice a4 3 c4) := by rw [← hW]; exact (new_box5 w _ _ _ _ _ _).keep ((Below.refl _ _).alloc (Nat.le_refl _) _)
  have R0 : Box5W W (w.heap.size + 1) (.slice none 0 0) (.slice none 0 0) (.slice none 0 0) (.slice none 0 0) (.slice none 0 0) := by
    rw [← hW]
    have := new_box5W (w.alloc (.cells #[.slice a0 3 c0, .slice a1 3 c1, .slice a2 3 c2, .slice a3 3 c3, .slice a4 3 c4] 26)) (.slice none 0 0) (.slice none 0 0) (.slice none 0 0) (.slice none 0 0) (.slice none 0 0) 26
    simpa using this
  have hl : w.heap.size + 1 < W.heap.size := by rw [← hW]; simp
  have E_0 := Lib.hid hal
  have S_0 := Lib.hid hl
  have bA_0 := Lib.hid A0
  have bR_0 := Lib.hid R0
  have K := Lib.hid (hD W hal)
  clear h hz hq hal A0 R0 hl hD
  obtain ⟨x00, x01, x02, x03, x04⟩ := bA_0.out
  go_enter Try.func7, Try.ntmps7
  go_wp2_with fail
  clear hW
  refine K.out.mono ?_; rintro e w1 ⟨d, rfl, HD, hb⟩
  have bA_1 := Lib.hid (bA_0.out.keep hb)
  have bR_2 := Lib.hid (bR_0.out.keep hb)
  have E_3 := Lib.hid (E_0.out.trans (hb.mono E_0.out.size))
  have S_3 := Lib.hid hb.size
  clear x00 x01 x02 x03 x04
  clear bA_0 bR_0 E_0 hb
  clear K
  obtain ⟨s0, s1, s2, t0, t1, t2, hrow, hdl, i0, i1, i2, i3, i4, i5, o0, o1, o2, o3, o4, o5⟩ := HD.out
  obtain ⟨g0, p0, rfl⟩ := i0.form
  obtain ⟨g1, p1, rfl⟩ := i1.form
  obtain ⟨g2, p2, rfl⟩ := i2.form
  obtain ⟨g3, p3, rfl⟩ := i3.form
  obtain ⟨g4, p4, rfl⟩ := i4.form
  obtain ⟨g5, p5, rfl⟩ := i5.form
  change w1.heap[d]? = some (.cells #[.slice (some ⟨g0, 0, none⟩) n0.length p0, .slice (some ⟨g1, 0, none⟩) n1.length p1, .slice (some ⟨g2, 0, none⟩) n2.length p2, .int .i64 l0, .int .i64 l1, .int .i64 l2, .slice (some ⟨g3, 0, none⟩) u0.length p3, .slice (some ⟨g4, 0, none⟩) u1.length p4, .slice (some ⟨g5, 0, none⟩) u2.length p5, .int .i64 m0, .int .i64 m1, .int .i64 m2, .int .i64 f0, .int .i64 f1, .int .i64 f2] 53 (0, 0)) at hrow
  change Shg w1 _ _ n0 at i0
  change Shg w1 _ _ n1 at i1
  change Shg w1 _ _ n2 at i2
  change Shg w1 _ _ u0 at i3
  change Shg w1 _ _ u1 at i4
  change Shg w1 _ _ u2 at i5
  have J0 := Lib.hid i0
  have J1 := Lib.hid i1
  have J2 := Lib.hid i2
  have J3 := Lib.hid i3
  have J4 := Lib.hid i4
  have J5 := Lib.hid i5
  have O0 := Lib.hid o0
  have O1 := Lib.hid o1
  have O2 := Lib.hid o2
  have O3 := Lib.hid o3
  have O4 := Lib.hid o4
  have O5 := Lib.hid o5
  have HROW := Lib.hid hrow
  have HDL := Lib.hid hdl
  clear HD i0 i1 i2 i3 i4 i5 o0 o1 o2 o3 o4 o5 hrow hdl
  have y0 := row_cell HROW.out 0 _ rfl
  have f0' := row_free HROW.out 0
  have y1 := row_cell HROW.out 1 _ rfl
  have f1' := row_free HROW.out 1
  have y2 := row_cell HROW.out 2 _ rfl
  have f2' := row_free HROW.out 2
  have y3 := row_cell HROW.out 3 _ rfl
  have f3' := row_free HROW.out 3
  have y4 := row_cell HROW.out 4 _ rfl
  have f4' := row_free HROW.out 4
  have y5 := row_cell HROW.out 5 _ rfl
  have f5' := row_free HROW.out 5
  have y6 := row_cell HROW.out 6 _ rfl
  have f6' := row_free HROW.out 6
  have y7 := row_cell HROW.out 7 _ rfl
  have f7' := row_free HROW.out 7
  have y8 := row_cell HROW.out 8 _ rfl
  have f8' := row_free HROW.out 8
  have y9 := row_cell HROW.out 9 _ rfl
  have f9' := row_free HROW.out 9
  have y10 := row_cell HROW.out 10 _ rfl
  have f10' := row_free HROW.out 10
  have y11 := row_cell HROW.out 11 _ rfl
  have f11' := row_free HROW.out 11
  have y12 := row_cell HROW.out 12 _ rfl
  have f12' := row_free HROW.out 12
  have y13 := row_cell HROW.out 13 _ rfl
  have f13' := row_free HROW.out 13
  have y14 := row_cell HROW.out 14 _ rfl
  have f14' := row_free HROW.out 14
  obtain ⟨X6, hX6⟩ : ∃ X, ((((((w1.setCell ⟨d, 0, none⟩ (.slice (some ⟨g3, 0, none⟩) u0.length p3)).setCell ⟨d, 1, none⟩ (.slice (some ⟨g4, 0, none⟩) u1.length p4)).setCell ⟨d, 2, none⟩ (.slice (some ⟨g5, 0, none⟩) u2.length p5)).setCell ⟨d, 3, none⟩ (.int .i64 m0)).setCell ⟨d, 4, none⟩ (.int .i64 m1)).setCell ⟨d, 5, none⟩ (.int .i64 m2)) = X := ⟨_, rfl⟩
  have ht : Btn d (d + 1) w1 X6 := by rw [← hX6]; exact (((((btn_set _ _ _ _).trans (btn_set _ _ _ _)).trans (btn_set _ _ _ _)).trans (btn_set _ _ _ _)).trans (btn_set _ _ _ _)).trans (btn_set _ _ _ _)
  have hdl := HDL.out
  have HV : Hid (Dsv X6 d u0 u1 u2 u0 u1 u2 m0 m1 m2 m0 m1 m2 f0 f1 f2) := ⟨_, _, _, _, _, _, (by rw [← hX6]; exact row_set (row_set (row_set (row_set (row_set (row_set (HROW.out) 0 _) 1 _) 2 _) 3 _) 4 _) 5 _), (J3.out.off ht O3.out).sht.shv, (J4.out.off ht O4.out).sht.shv, (J5.out.off ht O5.out).sht.shv, (J3.out.off ht O3.out).sht.shv, (J4.out.off ht O4.out).sht.shv, (J5.out.off ht O5.out).sht.shv⟩
  have q0 := S_0.out
  have q1 := S_3.out
  have bA_4 := Lib.hid (bA_1.out.btn ht (by omega))
  have bR_5 := Lib.hid (bR_2.out.btn ht (by omega))
  have E_6 := Lib.hid (E_3.out.trans (ht.below (by omega) E_3.out.size))
  have S_6 := Lib.hid ht.size
  clear bA_1 bR_2 E_3 q0 q1 ht
  clear hdl J0 J1 J2 J3 J4 J5 O0 O1 O2 O3 O4 O5
  go_wp2_with fail
  clear hX6 y0 f0' y1 f1' y2 f2' y3 f3' y4 f4' y5 f5' y6 f6' y7 f7' y8 f8' y9 f9' y10 f10' y11 f11' y12 f12' y13 f13' y14 f14'
  refine (diskStore_any d _ _ _ _ _ _ _ _ _ _ _ _ _ _ _ X6 HV.out).mono ?_; rintro e w2 ⟨r0, r1, r2, r3, r4, rfl, M, hb⟩
  clear HV HROW HDL
  have bA_8 := Lib.hid (bA_4.out.keep hb)
  have bR_9 := Lib.hid (bR_5.out.keep hb)
  have E_10 := Lib.hid (E_6.out.trans (hb.mono E_6.out.size))
  have S_10 := Lib.hid hb.size
  clear bA_4 bR_5 E_6 hb
  obtain ⟨b0, e0, rfl⟩ := M.out.a.vls.form
  obtain ⟨b1, e1, rfl⟩ := M.out.b.vls.form
  obtain ⟨b2, e2, rfl⟩ := M.out.c.vls.form
  obtain ⟨b3, e3, rfl⟩ := M.out.d.vls.form
  obtain ⟨b4, e4, rfl⟩ := M.out.e.vls.form
  obtain ⟨x00, x01, x02, x03, x04, x05, x06, x07, x08, x09⟩ := bR_9.out
  obtain ⟨Z11, hZ11⟩ : ∃ X, (((((w2.setCell ⟨w.heap.size + 1, 0, none⟩ (.slice b0 (StT.n5 ⟨[u0, u1, u2], [u0, u1, u2], [m0, m1, m2], [m0, m1, m2], [f0, f1, f2]⟩).a e0)).setCell ⟨w.heap.size + 1, 1, none⟩ (.slice b1 (StT.n5 ⟨[u0, u1, u2], [u0, u1, u2], [m0, m1, m2], [m0, m1, m2], [f0, f1, f2]⟩).b e1)).setCell ⟨w.heap.size + 1, 2, none⟩ (.slice b2 (StT.n5 ⟨[u0, u1, u2], [u0, u1, u2], [m0, m1, m2], [m0, m1, m2], [f0, f1, f2]⟩).c e2)).setCell ⟨w.heap.size + 1, 3, none⟩ (.slice b3 (StT.n5 ⟨[u0, u1, u2], [u0, u1, u2], [m0, m1, m2], [m0, m1, m2], [f0, f1, f2]⟩).d e3)).setCell ⟨w.heap.size + 1, 4, none⟩ (.slice b4 (StT.n5 ⟨[u0, u1, u2], [u0, u1, u2], [m0, m1, m2], [m0, m1, m2], [f0, f1, f2]⟩).e e4)) = X := ⟨_, rfl⟩
  have hz : Box5W Z11 (w.heap.size + 1) (.slice b0 (StT.n5 ⟨[u0, u1, u2], [u0, u1, u2], [m0, m1, m2], [m0, m1, m2], [f0, f1, f2]⟩).a e0) (.slice b1 (StT.n5 ⟨[u0, u1, u2], [u0, u1, u2], [m0, m1, m2], [m0, m1, m2], [f0, f1, f2]⟩).b e1) (.slice b2 (StT.n5 ⟨[u0, u1, u2], [u0, u1, u2], [m0, m1, m2], [m0, m1, m2], [f0, f1, f2]⟩).c e2) (.slice b3 (StT.n5 ⟨[u0, u1, u2], [u0, u1, u2], [m0, m1, m2], [m0, m1, m2], [f0, f1, f2]⟩).d e3) (.slice b4 (StT.n5 ⟨[u0, u1, u2], [u0, u1, u2], [m0, m1, m2], [m0, m1, m2], [f0, f1, f2]⟩).e e4) := by rw [← hZ11]; exact ((((bR_9.out.set0 _).set1 _).set2 _).set3 _).set4 _
  have ht : Btn (w.heap.size + 1) (w.heap.size + 1 + 1) w2 Z11 := by rw [← hZ11]; exact ((((btn_set _ _ _ _).trans (btn_set _ _ _ _)).trans (btn_set _ _ _ _)).trans (btn_set _ _ _ _)).trans (btn_set _ _ _ _)
  have q0 := S_0.out
  have q1 := S_3.out
  have q2 := S_6.out
  have q3 := S_10.out
  have HZ : Hid (Below w.heap.size w Z11) := E_10.out.trans (ht.below (by omega) E_10.out.size)
  have hs := ht.size
  have HM : Hid (M5 Z11 w.heap.size Z11.heap.size (.slice b0 (StT.n5 ⟨[u0, u1, u2], [u0, u1, u2], [m0, m1, m2], [m0, m1, m2], [f0, f1, f2]⟩).a e0) (.slice b1 (StT.n5 ⟨[u0, u1, u2], [u0, u1, u2], [m0, m1, m2], [m0, m1, m2], [f0, f1, f2]⟩).b e1) (.slice b2 (StT.n5 ⟨[u0, u1, u2], [u0, u1, u2], [m0, m1, m2], [m0, m1, m2], [f0, f1, f2]⟩).c e2) (.slice b3 (StT.n5 ⟨[u0, u1, u2], [u0, u1, u2], [m0, m1, m2], [m0, m1, m2], [f0, f1, f2]⟩).d e3) (.slice b4 (StT.n5 ⟨[u0, u1, u2], [u0, u1, u2], [m0, m1, m2], [m0, m1, m2], [f0, f1, f2]⟩).e e4) (StT.n5 ⟨[u0, u1, u2], [u0, u1, u2], [m0, m1, m2], [m0, m1, m2], [f0, f1, f2]⟩) (StT.f5 ⟨[u0, u1, u2], [u0, u1, u2], [m0, m1, m2], [m0, m1, m2], [f0, f1, f2]⟩)) := (M.out.btn ht (.inr (by omega))).wide (by omega) (by omega)
  clear q0 q1 q2 q3 ht hs
  go_wp2
  obtain ⟨t0, t1, t2, t3, t4, -, -, -, -, -⟩ := hz
  exact bodyPost_ret (v := .agg #[.slice b0 (StT.n5 ⟨[u0, u1, u2], [u0, u1, u2], [m0, m1, m2], [m0, m1, m2], [f0, f1, f2]⟩).a e0, .slice b1 (StT.n5 ⟨[u0, u1, u2], [u0, u1, u2], [m0, m1, m2], [m0, m1, m2], [f0, f1, f2]⟩).b e1, .slice b2 (StT.n5 ⟨[u0, u1, u2], [u0, u1, u2], [m0, m1, m2], [m0, m1, m2], [f0, f1, f2]⟩).c e2, .slice b3 (StT.n5 ⟨[u0, u1, u2], [u0, u1, u2], [m0, m1, m2], [m0, m1, m2], [f0, f1, f2]⟩).d e3, .slice b4 (StT.n5 ⟨[u0, u1, u2], [u0, u1, u2], [m0, m1, m2], [m0, m1, m2], [f0, f1, f2]⟩).e e4]) (by simp [results, Try.results7, go_sem, t0, t1, t2, t3, t4]) rfl ⟨_, _, _, _, _, rfl, HM, HZ.out⟩

theorem implFall_any (v0 v1 v2 v3 v4 : Value) (S : StT) (w : World) (h : Sto w v0 v1 v2 v3 v4 S) (hz : szT S) : Calls Try.prog 7 #[.agg #[v0, v1, v2, v3, v4]] w (ToSt w (fallT S)) := by
  by_cases hq : stOkB S = true
  · exact implFall_yes _ _ _ _ _ S w h hz hq
  · exact implFall_no _ _ _ _ _ S w h hz (by simpa using hq)

end Go.Proofs.Ytjknmocimenagaa
