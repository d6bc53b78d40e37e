/-
  The program's StoreFence.
-/
import Derived.Test.YtamhndnfaaifcaaStoStore
import Derived.StillTailTactics
namespace Go.Proofs.Ytamhndnfaaifcaa
open Go.RowKit

set_option maxRecDepth 100000 in
set_option maxHeartbeats 3000000 in
theorem implFence_no (v0 v1 v2 v3 v4 : Value) (S : StT) (who ep : Int) (w : World) (h : Sto w v0 v1 v2 v3 v4 S) (hz : szT S) (hq : stOkB S = false) :
    Calls Try.prog 24 #[.agg #[v0, v1, v2, v3, v4], .int .i64 who, .int .i64 ep] w (ToSB w st0 false) := by
  obtain ⟨a0, c0, rfl⟩ := h.now.form
  obtain ⟨a1, c1, rfl⟩ := h.sure.form
  obtain ⟨a2, c2, rfl⟩ := h.last.form
  obtain ⟨a3, c3, rfl⟩ := h.slast.form
  obtain ⟨a4, c4, rfl⟩ := h.floors.form
  obtain ⟨W, hW⟩ : ∃ W, (w.alloc (.cells #[.slice a0 S.now.length c0, .slice a1 S.sure.length c1, .slice a2 S.last.length c2, .slice a3 S.slast.length c3, .slice a4 S.floors.length c4] 25)).alloc (.cells #[.slice none 0 0, .slice none 0 0, .slice none 0 0, .slice none 0 0, .slice none 0 0] 25) = W := ⟨_, rfl⟩
  have hal : Below w.heap.size w W := by rw [← hW]; exact ((Below.refl _ _).alloc (Nat.le_refl _) _).alloc (by simp) _
  have A0 : Box5 W w.heap.size (.slice a0 S.now.length c0) (.slice a1 S.sure.length c1) (.slice a2 S.last.length c2) (.slice a3 S.slast.length c3) (.slice a4 S.floors.length c4) := by rw [← hW]; exact (new_box5 w _ _ _ _ _ _).keep ((Below.refl _ _).alloc (Nat.le_refl _) _)
  have R0 : Box5W W (w.heap.size + 1) (.slice none 0 0) (.slice none 0 0) (.slice none 0 0) (.slice none 0 0) (.slice none 0 0) := by
    rw [← hW]
    have := new_box5W (w.alloc (.cells #[.slice a0 S.now.length c0, .slice a1 S.sure.length c1, .slice a2 S.last.length c2, .slice a3 S.slast.length c3, .slice a4 S.floors.length c4] 25)) (.slice none 0 0) (.slice none 0 0) (.slice none 0 0) (.slice none 0 0) (.slice none 0 0) 25
    simpa using this
  have hl : w.heap.size + 1 < W.heap.size := by rw [← hW]; simp
  have E_0 := Lib.hid hal
  have S_0 := Lib.hid hl
  have bA_0 := Lib.hid A0
  have bR_0 := Lib.hid R0
  have K := Lib.hid (diskOf_no _ _ _ _ _ S W (h.keep hal) hz hq)
  clear h hz hq hal A0 R0 hl
  obtain ⟨x00, x01, x02, x03, x04⟩ := bA_0.out
  go_enter Try.func24, Try.ntmps24
  go_wp2_with fail
  clear hW
  refine K.out.mono ?_; rintro e w1 ⟨rfl, hb⟩
  have bA_1 := Lib.hid (bA_0.out.keep hb)
  have bR_2 := Lib.hid (bR_0.out.keep hb)
  have E_3 := Lib.hid (E_0.out.trans (hb.mono E_0.out.size))
  have S_3 := Lib.hid hb.size
  clear x00 x01 x02 x03 x04
  clear bA_0 bR_0 E_0 hb
  clear K
  obtain ⟨x00, x01, x02, x03, x04, x05, x06, x07, x08, x09⟩ := bR_2.out
  obtain ⟨Z4, hZ4⟩ : ∃ X, (((((w1.setCell ⟨w.heap.size + 1, 0, none⟩ (.slice none 0 0)).setCell ⟨w.heap.size + 1, 1, none⟩ (.slice none 0 0)).setCell ⟨w.heap.size + 1, 2, none⟩ (.slice none 0 0)).setCell ⟨w.heap.size + 1, 3, none⟩ (.slice none 0 0)).setCell ⟨w.heap.size + 1, 4, none⟩ (.slice none 0 0)) = X := ⟨_, rfl⟩
  have hz : Box5W Z4 (w.heap.size + 1) (.slice none 0 0) (.slice none 0 0) (.slice none 0 0) (.slice none 0 0) (.slice none 0 0) := by rw [← hZ4]; exact ((((bR_2.out.set0 _).set1 _).set2 _).set3 _).set4 _
  have ht : Btn (w.heap.size + 1) (w.heap.size + 1 + 1) w1 Z4 := by rw [← hZ4]; exact ((((btn_set _ _ _ _).trans (btn_set _ _ _ _)).trans (btn_set _ _ _ _)).trans (btn_set _ _ _ _)).trans (btn_set _ _ _ _)
  have q0 := S_0.out
  have q1 := S_3.out
  have HZ : Hid (Below w.heap.size w Z4) := E_3.out.trans (ht.below (by omega) E_3.out.size)
  have hs := ht.size
  have HM : Hid (M5 Z4 w.heap.size Z4.heap.size (.slice none 0 0) (.slice none 0 0) (.slice none 0 0) (.slice none 0 0) (.slice none 0 0) (StT.n5 st0) (StT.f5 st0)) := M5.none _ _ _
  clear q0 q1 ht hs
  go_wp2
  obtain ⟨t0, t1, t2, t3, t4, -, -, -, -, -⟩ := hz
  exact bodyPost_ret (v := .tuple #[.agg #[.slice none 0 0, .slice none 0 0, .slice none 0 0, .slice none 0 0, .slice none 0 0], .bool false]) (by simp [results, Try.results24, go_sem, t0, t1, t2, t3, t4]) rfl ⟨_, _, _, _, _, rfl, HM, HZ.out⟩

set_option maxRecDepth 100000 in
set_option maxHeartbeats 3000000 in
theorem implFence_cli (v0 v1 v2 v3 v4 : Value) (S : StT) (who ep : Int) (w : World) (h : Sto w v0 v1 v2 v3 v4 S) (hz : szT S) (hq : stOkB S = true) (h1 : cliB who = false) :
    Calls Try.prog 24 #[.agg #[v0, v1, v2, v3, v4], .int .i64 who, .int .i64 ep] w (ToSB w S false) := by
  obtain ⟨z0, z1, z2, z3, z4⟩ := stOk_lens hq
  obtain ⟨N, U, L, M, F⟩ := S
  obtain ⟨n0, n1, n2, rfl⟩ := three z0
  obtain ⟨u0, u1, u2, rfl⟩ := three z1
  obtain ⟨l0, l1, l2, rfl⟩ := three z2
  obtain ⟨m0, m1, m2, rfl⟩ := three z3
  obtain ⟨f0, f1, f2, rfl⟩ := three z4
  clear z0 z1 z2 z3 z4
  have hD := fun W hW => diskOf_yes v0 v1 v2 v3 v4 ⟨[n0, n1, n2], [u0, u1, u2], [l0, l1, l2], [m0, m1, m2], [f0, f1, f2]⟩ W (h.keep (w1 := W) hW) hz hq
  obtain ⟨a0, c0, rfl⟩ := h.now.form
  obtain ⟨a1, c1, rfl⟩ := h.sure.form
  obtain ⟨a2, c2, rfl⟩ := h.last.form
  obtain ⟨a3, c3, rfl⟩ := h.slast.form
  obtain ⟨a4, c4, rfl⟩ := h.floors.form
  obtain ⟨W, hW⟩ : ∃ W, (w.alloc (.cells #[.slice a0 3 c0, .slice a1 3 c1, .slice a2 3 c2, .slice a3 3 c3, .slice a4 3 c4] 25)).alloc (.cells #[.slice none 0 0, .slice none 0 0, .slice none 0 0, .slice none 0 0, .slice none 0 0] 25) = W := ⟨_, rfl⟩
  have hal : Below w.heap.size w W := by rw [← hW]; exact ((Below.refl _ _).alloc (Nat.le_refl _) _).alloc (by simp) _
  have A0 : Box5 W w.heap.size (.slice a0 3 c0) (.slice a1 3 c1) (.slice a2 3 c2) (.slice a3 3 c3) (.slice a4 3 c4) := by rw [← hW]; exact (new_box5 w _ _ _ _ _ _).keep ((Below.refl _ _).alloc (Nat.le_refl _) _)
  have R0 : Box5W W (w.heap.size + 1) (.slice none 0 0) (.slice none 0 0) (.slice none 0 0) (.slice none 0 0) (.slice none 0 0) := by
    rw [← hW]
    have := new_box5W (w.alloc (.cells #[.slice a0 3 c0, .slice a1 3 c1, .slice a2 3 c2, .slice a3 3 c3, .slice a4 3 c4] 25)) (.slice none 0 0) (.slice none 0 0) (.slice none 0 0) (.slice none 0 0) (.slice none 0 0) 25
    simpa using this
  have hl : w.heap.size + 1 < W.heap.size := by rw [← hW]; simp
  have E_0 := Lib.hid hal
  have S_0 := Lib.hid hl
  have bA_0 := Lib.hid A0
  have bR_0 := Lib.hid R0
  have K := Lib.hid (hD W hal)
  have KC := Lib.hid (fun w => clientOkV_any who w)
  rw [h1] at KC
  clear h1
  clear h hz hq hal A0 R0 hl hD
  obtain ⟨x00, x01, x02, x03, x04⟩ := bA_0.out
  go_enter Try.func24, Try.ntmps24
  go_wp2_with fail
  clear hW
  refine K.out.mono ?_; rintro e w1 ⟨d, rfl, HD, hb⟩
  have bA_1 := Lib.hid (bA_0.out.keep hb)
  have bR_2 := Lib.hid (bR_0.out.keep hb)
  have E_3 := Lib.hid (E_0.out.trans (hb.mono E_0.out.size))
  have S_3 := Lib.hid hb.size
  clear x00 x01 x02 x03 x04
  clear bA_0 bR_0 E_0 hb
  clear K
  go_wp2_with fail
  refine (KC.out _).mono ?_; rintro e w2 ⟨rfl, hw⟩; subst hw
  go_wp2_with fail
  refine (diskStore_any d _ _ _ _ _ _ _ _ _ _ _ _ _ _ _ _ HD.out.dsv).mono ?_; rintro e w3 ⟨r0, r1, r2, r3, r4, rfl, M, hb⟩
  clear HD
  have bA_4 := Lib.hid (bA_1.out.keep hb)
  have bR_5 := Lib.hid (bR_2.out.keep hb)
  have E_6 := Lib.hid (E_3.out.trans (hb.mono E_3.out.size))
  have S_6 := Lib.hid hb.size
  clear bA_1 bR_2 E_3 hb
  obtain ⟨b0, e0, rfl⟩ := M.out.a.vls.form
  obtain ⟨b1, e1, rfl⟩ := M.out.b.vls.form
  obtain ⟨b2, e2, rfl⟩ := M.out.c.vls.form
  obtain ⟨b3, e3, rfl⟩ := M.out.d.vls.form
  obtain ⟨b4, e4, rfl⟩ := M.out.e.vls.form
  obtain ⟨x00, x01, x02, x03, x04, x05, x06, x07, x08, x09⟩ := bR_5.out
  obtain ⟨Z8, hZ8⟩ : ∃ X, (((((w3.setCell ⟨w.heap.size + 1, 0, none⟩ (.slice b0 (StT.n5 ⟨[n0, n1, n2], [u0, u1, u2], [l0, l1, l2], [m0, m1, m2], [f0, f1, f2]⟩).a e0)).setCell ⟨w.heap.size + 1, 1, none⟩ (.slice b1 (StT.n5 ⟨[n0, n1, n2], [u0, u1, u2], [l0, l1, l2], [m0, m1, m2], [f0, f1, f2]⟩).b e1)).setCell ⟨w.heap.size + 1, 2, none⟩ (.slice b2 (StT.n5 ⟨[n0, n1, n2], [u0, u1, u2], [l0, l1, l2], [m0, m1, m2], [f0, f1, f2]⟩).c e2)).setCell ⟨w.heap.size + 1, 3, none⟩ (.slice b3 (StT.n5 ⟨[n0, n1, n2], [u0, u1, u2], [l0, l1, l2], [m0, m1, m2], [f0, f1, f2]⟩).d e3)).setCell ⟨w.heap.size + 1, 4, none⟩ (.slice b4 (StT.n5 ⟨[n0, n1, n2], [u0, u1, u2], [l0, l1, l2], [m0, m1, m2], [f0, f1, f2]⟩).e e4)) = X := ⟨_, rfl⟩
  have hz : Box5W Z8 (w.heap.size + 1) (.slice b0 (StT.n5 ⟨[n0, n1, n2], [u0, u1, u2], [l0, l1, l2], [m0, m1, m2], [f0, f1, f2]⟩).a e0) (.slice b1 (StT.n5 ⟨[n0, n1, n2], [u0, u1, u2], [l0, l1, l2], [m0, m1, m2], [f0, f1, f2]⟩).b e1) (.slice b2 (StT.n5 ⟨[n0, n1, n2], [u0, u1, u2], [l0, l1, l2], [m0, m1, m2], [f0, f1, f2]⟩).c e2) (.slice b3 (StT.n5 ⟨[n0, n1, n2], [u0, u1, u2], [l0, l1, l2], [m0, m1, m2], [f0, f1, f2]⟩).d e3) (.slice b4 (StT.n5 ⟨[n0, n1, n2], [u0, u1, u2], [l0, l1, l2], [m0, m1, m2], [f0, f1, f2]⟩).e e4) := by rw [← hZ8]; exact ((((bR_5.out.set0 _).set1 _).set2 _).set3 _).set4 _
  have ht : Btn (w.heap.size + 1) (w.heap.size + 1 + 1) w3 Z8 := by rw [← hZ8]; exact ((((btn_set _ _ _ _).trans (btn_set _ _ _ _)).trans (btn_set _ _ _ _)).trans (btn_set _ _ _ _)).trans (btn_set _ _ _ _)
  have q0 := S_0.out
  have q1 := S_3.out
  have q2 := S_6.out
  have HZ : Hid (Below w.heap.size w Z8) := E_6.out.trans (ht.below (by omega) E_6.out.size)
  have hs := ht.size
  have HM : Hid (M5 Z8 w.heap.size Z8.heap.size (.slice b0 (StT.n5 ⟨[n0, n1, n2], [u0, u1, u2], [l0, l1, l2], [m0, m1, m2], [f0, f1, f2]⟩).a e0) (.slice b1 (StT.n5 ⟨[n0, n1, n2], [u0, u1, u2], [l0, l1, l2], [m0, m1, m2], [f0, f1, f2]⟩).b e1) (.slice b2 (StT.n5 ⟨[n0, n1, n2], [u0, u1, u2], [l0, l1, l2], [m0, m1, m2], [f0, f1, f2]⟩).c e2) (.slice b3 (StT.n5 ⟨[n0, n1, n2], [u0, u1, u2], [l0, l1, l2], [m0, m1, m2], [f0, f1, f2]⟩).d e3) (.slice b4 (StT.n5 ⟨[n0, n1, n2], [u0, u1, u2], [l0, l1, l2], [m0, m1, m2], [f0, f1, f2]⟩).e e4) (StT.n5 ⟨[n0, n1, n2], [u0, u1, u2], [l0, l1, l2], [m0, m1, m2], [f0, f1, f2]⟩) (StT.f5 ⟨[n0, n1, n2], [u0, u1, u2], [l0, l1, l2], [m0, m1, m2], [f0, f1, f2]⟩)) := (M.out.btn ht (.inr (by omega))).wide (by omega) (by omega)
  clear q0 q1 q2 ht hs
  go_wp2
  obtain ⟨t0, t1, t2, t3, t4, -, -, -, -, -⟩ := hz
  exact bodyPost_ret (v := .tuple #[.agg #[.slice b0 (StT.n5 ⟨[n0, n1, n2], [u0, u1, u2], [l0, l1, l2], [m0, m1, m2], [f0, f1, f2]⟩).a e0, .slice b1 (StT.n5 ⟨[n0, n1, n2], [u0, u1, u2], [l0, l1, l2], [m0, m1, m2], [f0, f1, f2]⟩).b e1, .slice b2 (StT.n5 ⟨[n0, n1, n2], [u0, u1, u2], [l0, l1, l2], [m0, m1, m2], [f0, f1, f2]⟩).c e2, .slice b3 (StT.n5 ⟨[n0, n1, n2], [u0, u1, u2], [l0, l1, l2], [m0, m1, m2], [f0, f1, f2]⟩).d e3, .slice b4 (StT.n5 ⟨[n0, n1, n2], [u0, u1, u2], [l0, l1, l2], [m0, m1, m2], [f0, f1, f2]⟩).e e4], .bool false]) (by simp [results, Try.results24, go_sem, t0, t1, t2, t3, t4]) rfl ⟨_, _, _, _, _, rfl, HM, HZ.out⟩

set_option maxRecDepth 100000 in
set_option maxHeartbeats 3000000 in
theorem implFence_ep (v0 v1 v2 v3 v4 : Value) (S : StT) (who ep : Int) (w : World) (h : Sto w v0 v1 v2 v3 v4 S) (hz : szT S) (hq : stOkB S = true) (h1 : cliB who = true) (h2 : epoB ep = false) :
    Calls Try.prog 24 #[.agg #[v0, v1, v2, v3, v4], .int .i64 who, .int .i64 ep] w (ToSB w S false) := by
  obtain ⟨z0, z1, z2, z3, z4⟩ := stOk_lens hq
  obtain ⟨N, U, L, M, F⟩ := S
  obtain ⟨n0, n1, n2, rfl⟩ := three z0
  obtain ⟨u0, u1, u2, rfl⟩ := three z1
  obtain ⟨l0, l1, l2, rfl⟩ := three z2
  obtain ⟨m0, m1, m2, rfl⟩ := three z3
  obtain ⟨f0, f1, f2, rfl⟩ := three z4
  clear z0 z1 z2 z3 z4
  have hD := fun W hW => diskOf_yes v0 v1 v2 v3 v4 ⟨[n0, n1, n2], [u0, u1, u2], [l0, l1, l2], [m0, m1, m2], [f0, f1, f2]⟩ W (h.keep (w1 := W) hW) hz hq
  obtain ⟨a0, c0, rfl⟩ := h.now.form
  obtain ⟨a1, c1, rfl⟩ := h.sure.form
  obtain ⟨a2, c2, rfl⟩ := h.last.form
  obtain ⟨a3, c3, rfl⟩ := h.slast.form
  obtain ⟨a4, c4, rfl⟩ := h.floors.form
  obtain ⟨W, hW⟩ : ∃ W, (w.alloc (.cells #[.slice a0 3 c0, .slice a1 3 c1, .slice a2 3 c2, .slice a3 3 c3, .slice a4 3 c4] 25)).alloc (.cells #[.slice none 0 0, .slice none 0 0, .slice none 0 0, .slice none 0 0, .slice none 0 0] 25) = W := ⟨_, rfl⟩
  have hal : Below w.heap.size w W := by rw [← hW]; exact ((Below.refl _ _).alloc (Nat.le_refl _) _).alloc (by simp) _
  have A0 : Box5 W w.heap.size (.slice a0 3 c0) (.slice a1 3 c1) (.slice a2 3 c2) (.slice a3 3 c3) (.slice a4 3 c4) := by rw [← hW]; exact (new_box5 w _ _ _ _ _ _).keep ((Below.refl _ _).alloc (Nat.le_refl _) _)
  have R0 : Box5W W (w.heap.size + 1) (.slice none 0 0) (.slice none 0 0) (.slice none 0 0) (.slice none 0 0) (.slice none 0 0) := by
    rw [← hW]
    have := new_box5W (w.alloc (.cells #[.slice a0 3 c0, .slice a1 3 c1, .slice a2 3 c2, .slice a3 3 c3, .slice a4 3 c4] 25)) (.slice none 0 0) (.slice none 0 0) (.slice none 0 0) (.slice none 0 0) (.slice none 0 0) 25
    simpa using this
  have hl : w.heap.size + 1 < W.heap.size := by rw [← hW]; simp
  have E_0 := Lib.hid hal
  have S_0 := Lib.hid hl
  have bA_0 := Lib.hid A0
  have bR_0 := Lib.hid R0
  have K := Lib.hid (hD W hal)
  have KC := Lib.hid (fun w => clientOkV_any who w)
  rw [h1] at KC
  have KE := Lib.hid (fun w => epochOk_any ep w)
  rw [h2] at KE
  clear h1 h2
  clear h hz hq hal A0 R0 hl hD
  obtain ⟨x00, x01, x02, x03, x04⟩ := bA_0.out
  go_enter Try.func24, Try.ntmps24
  go_wp2_with fail
  clear hW
  refine K.out.mono ?_; rintro e w1 ⟨d, rfl, HD, hb⟩
  have bA_1 := Lib.hid (bA_0.out.keep hb)
  have bR_2 := Lib.hid (bR_0.out.keep hb)
  have E_3 := Lib.hid (E_0.out.trans (hb.mono E_0.out.size))
  have S_3 := Lib.hid hb.size
  clear x00 x01 x02 x03 x04
  clear bA_0 bR_0 E_0 hb
  clear K
  go_wp2_with fail
  refine (KC.out _).mono ?_; rintro e w2 ⟨rfl, hw⟩; subst hw
  go_wp2_with fail
  refine (KE.out _).mono ?_; rintro e w2 ⟨rfl, hw⟩; subst hw
  go_wp2_with fail
  refine (diskStore_any d _ _ _ _ _ _ _ _ _ _ _ _ _ _ _ _ HD.out.dsv).mono ?_; rintro e w3 ⟨r0, r1, r2, r3, r4, rfl, M, hb⟩
  clear HD
  have bA_4 := Lib.hid (bA_1.out.keep hb)
  have bR_5 := Lib.hid (bR_2.out.keep hb)
  have E_6 := Lib.hid (E_3.out.trans (hb.mono E_3.out.size))
  have S_6 := Lib.hid hb.size
  clear bA_1 bR_2 E_3 hb
  obtain ⟨b0, e0, rfl⟩ := M.out.a.vls.form
  obtain ⟨b1, e1, rfl⟩ := M.out.b.vls.form
  obtain ⟨b2, e2, rfl⟩ := M.out.c.vls.form
  obtain ⟨b3, e3, rfl⟩ := M.out.d.vls.form
  obtain ⟨b4, e4, rfl⟩ := M.out.e.vls.form
  obtain ⟨x00, x01, x02, x03, x04, x05, x06, x07, x08, x09⟩ := bR_5.out
  obtain ⟨Z8, hZ8⟩ : ∃ X, (((((w3.setCell ⟨w.heap.size + 1, 0, none⟩ (.slice b0 (StT.n5 ⟨[n0, n1, n2], [u0, u1, u2], [l0, l1, l2], [m0, m1, m2], [f0, f1, f2]⟩).a e0)).setCell ⟨w.heap.size + 1, 1, none⟩ (.slice b1 (StT.n5 ⟨[n0, n1, n2], [u0, u1, u2], [l0, l1, l2], [m0, m1, m2], [f0, f1, f2]⟩).b e1)).setCell ⟨w.heap.size + 1, 2, none⟩ (.slice b2 (StT.n5 ⟨[n0, n1, n2], [u0, u1, u2], [l0, l1, l2], [m0, m1, m2], [f0, f1, f2]⟩).c e2)).setCell ⟨w.heap.size + 1, 3, none⟩ (.slice b3 (StT.n5 ⟨[n0, n1, n2], [u0, u1, u2], [l0, l1, l2], [m0, m1, m2], [f0, f1, f2]⟩).d e3)).setCell ⟨w.heap.size + 1, 4, none⟩ (.slice b4 (StT.n5 ⟨[n0, n1, n2], [u0, u1, u2], [l0, l1, l2], [m0, m1, m2], [f0, f1, f2]⟩).e e4)) = X := ⟨_, rfl⟩
  have hz : Box5W Z8 (w.heap.size + 1) (.slice b0 (StT.n5 ⟨[n0, n1, n2], [u0, u1, u2], [l0, l1, l2], [m0, m1, m2], [f0, f1, f2]⟩).a e0) (.slice b1 (StT.n5 ⟨[n0, n1, n2], [u0, u1, u2], [l0, l1, l2], [m0, m1, m2], [f0, f1, f2]⟩).b e1) (.slice b2 (StT.n5 ⟨[n0, n1, n2], [u0, u1, u2], [l0, l1, l2], [m0, m1, m2], [f0, f1, f2]⟩).c e2) (.slice b3 (StT.n5 ⟨[n0, n1, n2], [u0, u1, u2], [l0, l1, l2], [m0, m1, m2], [f0, f1, f2]⟩).d e3) (.slice b4 (StT.n5 ⟨[n0, n1, n2], [u0, u1, u2], [l0, l1, l2], [m0, m1, m2], [f0, f1, f2]⟩).e e4) := by rw [← hZ8]; exact ((((bR_5.out.set0 _).set1 _).set2 _).set3 _).set4 _
  have ht : Btn (w.heap.size + 1) (w.heap.size + 1 + 1) w3 Z8 := by rw [← hZ8]; exact ((((btn_set _ _ _ _).trans (btn_set _ _ _ _)).trans (btn_set _ _ _ _)).trans (btn_set _ _ _ _)).trans (btn_set _ _ _ _)
  have q0 := S_0.out
  have q1 := S_3.out
  have q2 := S_6.out
  have HZ : Hid (Below w.heap.size w Z8) := E_6.out.trans (ht.below (by omega) E_6.out.size)
  have hs := ht.size
  have HM : Hid (M5 Z8 w.heap.size Z8.heap.size (.slice b0 (StT.n5 ⟨[n0, n1, n2], [u0, u1, u2], [l0, l1, l2], [m0, m1, m2], [f0, f1, f2]⟩).a e0) (.slice b1 (StT.n5 ⟨[n0, n1, n2], [u0, u1, u2], [l0, l1, l2], [m0, m1, m2], [f0, f1, f2]⟩).b e1) (.slice b2 (StT.n5 ⟨[n0, n1, n2], [u0, u1, u2], [l0, l1, l2], [m0, m1, m2], [f0, f1, f2]⟩).c e2) (.slice b3 (StT.n5 ⟨[n0, n1, n2], [u0, u1, u2], [l0, l1, l2], [m0, m1, m2], [f0, f1, f2]⟩).d e3) (.slice b4 (StT.n5 ⟨[n0, n1, n2], [u0, u1, u2], [l0, l1, l2], [m0, m1, m2], [f0, f1, f2]⟩).e e4) (StT.n5 ⟨[n0, n1, n2], [u0, u1, u2], [l0, l1, l2], [m0, m1, m2], [f0, f1, f2]⟩) (StT.f5 ⟨[n0, n1, n2], [u0, u1, u2], [l0, l1, l2], [m0, m1, m2], [f0, f1, f2]⟩)) := (M.out.btn ht (.inr (by omega))).wide (by omega) (by omega)
  clear q0 q1 q2 ht hs
  go_wp2
  obtain ⟨t0, t1, t2, t3, t4, -, -, -, -, -⟩ := hz
  exact bodyPost_ret (v := .tuple #[.agg #[.slice b0 (StT.n5 ⟨[n0, n1, n2], [u0, u1, u2], [l0, l1, l2], [m0, m1, m2], [f0, f1, f2]⟩).a e0, .slice b1 (StT.n5 ⟨[n0, n1, n2], [u0, u1, u2], [l0, l1, l2], [m0, m1, m2], [f0, f1, f2]⟩).b e1, .slice b2 (StT.n5 ⟨[n0, n1, n2], [u0, u1, u2], [l0, l1, l2], [m0, m1, m2], [f0, f1, f2]⟩).c e2, .slice b3 (StT.n5 ⟨[n0, n1, n2], [u0, u1, u2], [l0, l1, l2], [m0, m1, m2], [f0, f1, f2]⟩).d e3, .slice b4 (StT.n5 ⟨[n0, n1, n2], [u0, u1, u2], [l0, l1, l2], [m0, m1, m2], [f0, f1, f2]⟩).e e4], .bool false]) (by simp [results, Try.results24, go_sem, t0, t1, t2, t3, t4]) rfl ⟨_, _, _, _, _, rfl, HM, HZ.out⟩

set_option maxRecDepth 100000 in
set_option maxHeartbeats 3000000 in
theorem implFence_0 (v0 v1 v2 v3 v4 : Value) (S : StT) (ep : Int) (w : World) (h : Sto w v0 v1 v2 v3 v4 S) (hz : szT S) (hq : stOkB S = true) (he : epoB ep = true) :
    Calls Try.prog 24 #[.agg #[v0, v1, v2, v3, v4], .int .i64 0, .int .i64 ep] w (ToSB w ⟨S.now, S.sure, S.last, S.slast, S.floors.set 0 (max (S.floors.getD 0 0) ep)⟩ true) := by
  obtain ⟨z0, z1, z2, z3, z4⟩ := stOk_lens hq
  obtain ⟨N, U, L, M, F⟩ := S
  obtain ⟨n0, n1, n2, rfl⟩ := three z0
  obtain ⟨u0, u1, u2, rfl⟩ := three z1
  obtain ⟨l0, l1, l2, rfl⟩ := three z2
  obtain ⟨m0, m1, m2, rfl⟩ := three z3
  obtain ⟨f0, f1, f2, rfl⟩ := three z4
  clear z0 z1 z2 z3 z4
  obtain ⟨m, hm⟩ : ∃ m, m = max f0 ep := ⟨_, rfl⟩
  have hD := fun W hW => diskOf_yes v0 v1 v2 v3 v4 ⟨[n0, n1, n2], [u0, u1, u2], [l0, l1, l2], [m0, m1, m2], [f0, f1, f2]⟩ W (h.keep (w1 := W) hW) hz hq
  obtain ⟨a0, c0, rfl⟩ := h.now.form
  obtain ⟨a1, c1, rfl⟩ := h.sure.form
  obtain ⟨a2, c2, rfl⟩ := h.last.form
  obtain ⟨a3, c3, rfl⟩ := h.slast.form
  obtain ⟨a4, c4, rfl⟩ := h.floors.form
  have hres : StT.mk [n0, n1, n2] [u0, u1, u2] [l0, l1, l2] [m0, m1, m2] ([f0, f1, f2].set 0 (max ([f0, f1, f2].getD 0 0) ep)) = ⟨[n0, n1, n2], [u0, u1, u2], [l0, l1, l2], [m0, m1, m2], [m, f1, f2]⟩ := by rw [hm]; rfl
  change Calls _ _ _ _ (ToSB w (StT.mk [n0, n1, n2] [u0, u1, u2] [l0, l1, l2] [m0, m1, m2] ([f0, f1, f2].set 0 (max ([f0, f1, f2].getD 0 0) ep))) true)
  rw [hres]
  clear hres
  obtain ⟨W, hW⟩ : ∃ W, (w.alloc (.cells #[.slice a0 3 c0, .slice a1 3 c1, .slice a2 3 c2, .slice a3 3 c3, .slice a4 3 c4] 25)).alloc (.cells #[.slice none 0 0, .slice none 0 0, .slice none 0 0, .slice none 0 0, .slice none 0 0] 25) = W := ⟨_, rfl⟩
  have hal : Below w.heap.size w W := by rw [← hW]; exact ((Below.refl _ _).alloc (Nat.le_refl _) _).alloc (by simp) _
  have A0 : Box5 W w.heap.size (.slice a0 3 c0) (.slice a1 3 c1) (.slice a2 3 c2) (.slice a3 3 c3) (.slice a4 3 c4) := by rw [← hW]; exact (new_box5 w _ _ _ _ _ _).keep ((Below.refl _ _).alloc (Nat.le_refl _) _)
  have R0 : Box5W W (w.heap.size + 1) (.slice none 0 0) (.slice none 0 0) (.slice none 0 0) (.slice none 0 0) (.slice none 0 0) := by
    rw [← hW]
    have := new_box5W (w.alloc (.cells #[.slice a0 3 c0, .slice a1 3 c1, .slice a2 3 c2, .slice a3 3 c3, .slice a4 3 c4] 25)) (.slice none 0 0) (.slice none 0 0) (.slice none 0 0) (.slice none 0 0) (.slice none 0 0) 25
    simpa using this
  have hl : w.heap.size + 1 < W.heap.size := by rw [← hW]; simp
  have E_0 := Lib.hid hal
  have S_0 := Lib.hid hl
  have bA_0 := Lib.hid A0
  have bR_0 := Lib.hid R0
  have K := Lib.hid (hD W hal)
  have KC := Lib.hid (fun w => clientOkV_any 0 w)
  rw [show cliB 0 = true from by decide] at KC
  have KE := Lib.hid (fun w => epochOk_any ep w)
  rw [he] at KE
  clear h hz hq hal A0 R0 hl hD he
  obtain ⟨x00, x01, x02, x03, x04⟩ := bA_0.out
  go_enter Try.func24, Try.ntmps24
  go_wp2_with fail
  clear hW
  refine K.out.mono ?_; rintro e w1 ⟨d, rfl, HD, hb⟩
  have bA_1 := Lib.hid (bA_0.out.keep hb)
  have bR_2 := Lib.hid (bR_0.out.keep hb)
  have E_3 := Lib.hid (E_0.out.trans (hb.mono E_0.out.size))
  have S_3 := Lib.hid hb.size
  clear x00 x01 x02 x03 x04
  clear bA_0 bR_0 E_0 hb
  clear K
  go_wp2_with fail
  refine (KC.out _).mono ?_; rintro e w2 ⟨rfl, hw⟩; subst hw
  go_wp2_with fail
  refine (KE.out _).mono ?_; rintro e w2 ⟨rfl, hw⟩; subst hw
  go_wp2_with fail
  clear KC KE
  obtain ⟨s0, s1, s2, t0, t1, t2, hrow, hdl, i0, i1, i2, i3, i4, i5, o0, o1, o2, o3, o4, o5⟩ := HD.out
  obtain ⟨g0, p0, rfl⟩ := i0.form
  obtain ⟨g1, p1, rfl⟩ := i1.form
  obtain ⟨g2, p2, rfl⟩ := i2.form
  obtain ⟨g3, p3, rfl⟩ := i3.form
  obtain ⟨g4, p4, rfl⟩ := i4.form
  obtain ⟨g5, p5, rfl⟩ := i5.form
  change w1.heap[d]? = some (.cells #[.slice (some ⟨g0, 0, none⟩) n0.length p0, .slice (some ⟨g1, 0, none⟩) n1.length p1, .slice (some ⟨g2, 0, none⟩) n2.length p2, .int .i64 l0, .int .i64 l1, .int .i64 l2, .slice (some ⟨g3, 0, none⟩) u0.length p3, .slice (some ⟨g4, 0, none⟩) u1.length p4, .slice (some ⟨g5, 0, none⟩) u2.length p5, .int .i64 m0, .int .i64 m1, .int .i64 m2, .int .i64 f0, .int .i64 f1, .int .i64 f2] 55 (0, 0)) at hrow
  change Shg w1 _ _ n0 at i0
  change Shg w1 _ _ n1 at i1
  change Shg w1 _ _ n2 at i2
  change Shg w1 _ _ u0 at i3
  change Shg w1 _ _ u1 at i4
  change Shg w1 _ _ u2 at i5
  clear HD
  have hdr : Below w1.heap.size w1 w1.drew := (Below.refl _ _).drew
  obtain ⟨w5, hw5⟩ : ∃ X, w1.drew = X := ⟨_, rfl⟩
  rw [hw5] at hdr
  have hrow5 := row_keep hrow hdr
  have J0 := Lib.hid (i0.keep hdr)
  have J1 := Lib.hid (i1.keep hdr)
  have J2 := Lib.hid (i2.keep hdr)
  have J3 := Lib.hid (i3.keep hdr)
  have J4 := Lib.hid (i4.keep hdr)
  have J5 := Lib.hid (i5.keep hdr)
  have hsz5 := hdr.size
  have O0 := Lib.hid o0
  have O1 := Lib.hid o1
  have O2 := Lib.hid o2
  have O3 := Lib.hid o3
  have O4 := Lib.hid o4
  have O5 := Lib.hid o5
  have HROW := Lib.hid hrow5
  have HDL := Lib.hid (show w1.heap.size ≤ w1.heap.size from Nat.le_refl _)
  have HD0 := Lib.hid hdl
  have yk := row_cell hrow5 12 _ rfl
  have fk := row_free hrow5 12
  go_still_tail 13, (by kernel_rfl)
  change wpList _ _ _ _ _ w1.drew
  rw [hw5]
  clear HDL
  have HDL := HD0
  clear hrow hrow5 i0 i1 i2 i3 i4 i5 o0 o1 o2 o3 o4 o5 hdl hsz5 hw5
  have bA_4 := Lib.hid (bA_1.out.keep hdr)
  have bR_5 := Lib.hid (bR_2.out.keep hdr)
  have E_6 := Lib.hid (E_3.out.trans (hdr.mono E_3.out.size))
  have S_6 := Lib.hid hdr.size
  clear bA_1 bR_2 E_3 hdr
  rcases Int.lt_trichotomy f0 ep with hlt | heq | hgt
  · have hm2 : m = ep := by omega
    clear hm
    subst m
    obtain ⟨X6, hX6⟩ : ∃ X, (w5.setCell ⟨d, 12, none⟩ (.int .i64 ep)) = X := ⟨_, rfl⟩
    have ht : Btn d (d + 1) w5 X6 := by rw [← hX6]; exact btn_set _ _ _ _
    have hdl := HDL.out
    have HV : Hid (Dsv X6 d n0 n1 n2 u0 u1 u2 l0 l1 l2 m0 m1 m2 ep f1 f2) := ⟨_, _, _, _, _, _, (by rw [← hX6]; exact row_set HROW.out 12 _), (J0.out.off ht O0.out).sht.shv, (J1.out.off ht O1.out).sht.shv, (J2.out.off ht O2.out).sht.shv, (J3.out.off ht O3.out).sht.shv, (J4.out.off ht O4.out).sht.shv, (J5.out.off ht O5.out).sht.shv⟩
    have q0 := S_0.out
    have q1 := S_3.out
    have q2 := S_6.out
    have bA_7 := Lib.hid (bA_4.out.btn ht (by omega))
    have bR_8 := Lib.hid (bR_5.out.btn ht (by omega))
    have E_9 := Lib.hid (E_6.out.trans (ht.below (by omega) E_6.out.size))
    have S_9 := Lib.hid ht.size
    clear bA_4 bR_5 E_6 q0 q1 q2 ht
    clear hdl J0 J1 J2 J3 J4 J5 O0 O1 O2 O3 O4 O5
    go_wp2_with fail
    clear hX6 yk fk
    refine (diskStore_any d _ _ _ _ _ _ _ _ _ _ _ _ _ _ _ X6 HV.out).mono ?_; rintro e w7 ⟨r0, r1, r2, r3, r4, rfl, M, hb⟩
    clear HV HROW HDL HD0
    have bA_11 := Lib.hid (bA_7.out.keep hb)
    have bR_12 := Lib.hid (bR_8.out.keep hb)
    have E_13 := Lib.hid (E_9.out.trans (hb.mono E_9.out.size))
    have S_13 := Lib.hid hb.size
    clear bA_7 bR_8 E_9 hb
    obtain ⟨b0, e0, rfl⟩ := M.out.a.vls.form
    obtain ⟨b1, e1, rfl⟩ := M.out.b.vls.form
    obtain ⟨b2, e2, rfl⟩ := M.out.c.vls.form
    obtain ⟨b3, e3, rfl⟩ := M.out.d.vls.form
    obtain ⟨b4, e4, rfl⟩ := M.out.e.vls.form
    obtain ⟨x00, x01, x02, x03, x04, x05, x06, x07, x08, x09⟩ := bR_12.out
    obtain ⟨Z15, hZ15⟩ : ∃ X, (((((w7.setCell ⟨w.heap.size + 1, 0, none⟩ (.slice b0 (StT.n5 ⟨[n0, n1, n2], [u0, u1, u2], [l0, l1, l2], [m0, m1, m2], [ep, f1, f2]⟩).a e0)).setCell ⟨w.heap.size + 1, 1, none⟩ (.slice b1 (StT.n5 ⟨[n0, n1, n2], [u0, u1, u2], [l0, l1, l2], [m0, m1, m2], [ep, f1, f2]⟩).b e1)).setCell ⟨w.heap.size + 1, 2, none⟩ (.slice b2 (StT.n5 ⟨[n0, n1, n2], [u0, u1, u2], [l0, l1, l2], [m0, m1, m2], [ep, f1, f2]⟩).c e2)).setCell ⟨w.heap.size + 1, 3, none⟩ (.slice b3 (StT.n5 ⟨[n0, n1, n2], [u0, u1, u2], [l0, l1, l2], [m0, m1, m2], [ep, f1, f2]⟩).d e3)).setCell ⟨w.heap.size + 1, 4, none⟩ (.slice b4 (StT.n5 ⟨[n0, n1, n2], [u0, u1, u2], [l0, l1, l2], [m0, m1, m2], [ep, f1, f2]⟩).e e4)) = X := ⟨_, rfl⟩
    have hz : Box5W Z15 (w.heap.size + 1) (.slice b0 (StT.n5 ⟨[n0, n1, n2], [u0, u1, u2], [l0, l1, l2], [m0, m1, m2], [ep, f1, f2]⟩).a e0) (.slice b1 (StT.n5 ⟨[n0, n1, n2], [u0, u1, u2], [l0, l1, l2], [m0, m1, m2], [ep, f1, f2]⟩).b e1) (.slice b2 (StT.n5 ⟨[n0, n1, n2], [u0, u1, u2], [l0, l1, l2], [m0, m1, m2], [ep, f1, f2]⟩).c e2) (.slice b3 (StT.n5 ⟨[n0, n1, n2], [u0, u1, u2], [l0, l1, l2], [m0, m1, m2], [ep, f1, f2]⟩).d e3) (.slice b4 (StT.n5 ⟨[n0, n1, n2], [u0, u1, u2], [l0, l1, l2], [m0, m1, m2], [ep, f1, f2]⟩).e e4) := by rw [← hZ15]; exact ((((bR_12.out.set0 _).set1 _).set2 _).set3 _).set4 _
    have ht : Btn (w.heap.size + 1) (w.heap.size + 1 + 1) w7 Z15 := by rw [← hZ15]; exact ((((btn_set _ _ _ _).trans (btn_set _ _ _ _)).trans (btn_set _ _ _ _)).trans (btn_set _ _ _ _)).trans (btn_set _ _ _ _)
    have q0 := S_0.out
    have q1 := S_3.out
    have q2 := S_6.out
    have q3 := S_9.out
    have q4 := S_13.out
    have HZ : Hid (Below w.heap.size w Z15) := E_13.out.trans (ht.below (by omega) E_13.out.size)
    have hs := ht.size
    have HM : Hid (M5 Z15 w.heap.size Z15.heap.size (.slice b0 (StT.n5 ⟨[n0, n1, n2], [u0, u1, u2], [l0, l1, l2], [m0, m1, m2], [ep, f1, f2]⟩).a e0) (.slice b1 (StT.n5 ⟨[n0, n1, n2], [u0, u1, u2], [l0, l1, l2], [m0, m1, m2], [ep, f1, f2]⟩).b e1) (.slice b2 (StT.n5 ⟨[n0, n1, n2], [u0, u1, u2], [l0, l1, l2], [m0, m1, m2], [ep, f1, f2]⟩).c e2) (.slice b3 (StT.n5 ⟨[n0, n1, n2], [u0, u1, u2], [l0, l1, l2], [m0, m1, m2], [ep, f1, f2]⟩).d e3) (.slice b4 (StT.n5 ⟨[n0, n1, n2], [u0, u1, u2], [l0, l1, l2], [m0, m1, m2], [ep, f1, f2]⟩).e e4) (StT.n5 ⟨[n0, n1, n2], [u0, u1, u2], [l0, l1, l2], [m0, m1, m2], [ep, f1, f2]⟩) (StT.f5 ⟨[n0, n1, n2], [u0, u1, u2], [l0, l1, l2], [m0, m1, m2], [ep, f1, f2]⟩)) := (M.out.btn ht (.inr (by omega))).wide (by omega) (by omega)
    clear q0 q1 q2 q3 q4 ht hs
    go_wp2
    obtain ⟨t0, t1, t2, t3, t4, -, -, -, -, -⟩ := hz
    exact bodyPost_ret (v := .tuple #[.agg #[.slice b0 (StT.n5 ⟨[n0, n1, n2], [u0, u1, u2], [l0, l1, l2], [m0, m1, m2], [ep, f1, f2]⟩).a e0, .slice b1 (StT.n5 ⟨[n0, n1, n2], [u0, u1, u2], [l0, l1, l2], [m0, m1, m2], [ep, f1, f2]⟩).b e1, .slice b2 (StT.n5 ⟨[n0, n1, n2], [u0, u1, u2], [l0, l1, l2], [m0, m1, m2], [ep, f1, f2]⟩).c e2, .slice b3 (StT.n5 ⟨[n0, n1, n2], [u0, u1, u2], [l0, l1, l2], [m0, m1, m2], [ep, f1, f2]⟩).d e3, .slice b4 (StT.n5 ⟨[n0, n1, n2], [u0, u1, u2], [l0, l1, l2], [m0, m1, m2], [ep, f1, f2]⟩).e e4], .bool true]) (by simp [results, Try.results24, go_sem, t0, t1, t2, t3, t4]) rfl ⟨_, _, _, _, _, rfl, HM, HZ.out⟩
  · subst heq
    have hm2 : m = f0 := by omega
    clear hm
    subst m
    obtain ⟨X6, hX6⟩ : ∃ X, (w5.setCell ⟨d, 12, none⟩ (.int .i64 f0)) = X := ⟨_, rfl⟩
    have ht : Btn d (d + 1) w5 X6 := by rw [← hX6]; exact btn_set _ _ _ _
    have hdl := HDL.out
    have HV : Hid (Dsv X6 d n0 n1 n2 u0 u1 u2 l0 l1 l2 m0 m1 m2 f0 f1 f2) := ⟨_, _, _, _, _, _, (by rw [← hX6]; exact row_set HROW.out 12 _), (J0.out.off ht O0.out).sht.shv, (J1.out.off ht O1.out).sht.shv, (J2.out.off ht O2.out).sht.shv, (J3.out.off ht O3.out).sht.shv, (J4.out.off ht O4.out).sht.shv, (J5.out.off ht O5.out).sht.shv⟩
    have q0 := S_0.out
    have q1 := S_3.out
    have q2 := S_6.out
    have bA_7 := Lib.hid (bA_4.out.btn ht (by omega))
    have bR_8 := Lib.hid (bR_5.out.btn ht (by omega))
    have E_9 := Lib.hid (E_6.out.trans (ht.below (by omega) E_6.out.size))
    have S_9 := Lib.hid ht.size
    clear bA_4 bR_5 E_6 q0 q1 q2 ht
    clear hdl J0 J1 J2 J3 J4 J5 O0 O1 O2 O3 O4 O5
    go_wp2_with fail
    clear hX6 yk fk
    refine (diskStore_any d _ _ _ _ _ _ _ _ _ _ _ _ _ _ _ X6 HV.out).mono ?_; rintro e w7 ⟨r0, r1, r2, r3, r4, rfl, M, hb⟩
    clear HV HROW HDL HD0
    have bA_11 := Lib.hid (bA_7.out.keep hb)
    have bR_12 := Lib.hid (bR_8.out.keep hb)
    have E_13 := Lib.hid (E_9.out.trans (hb.mono E_9.out.size))
    have S_13 := Lib.hid hb.size
    clear bA_7 bR_8 E_9 hb
    obtain ⟨b0, e0, rfl⟩ := M.out.a.vls.form
    obtain ⟨b1, e1, rfl⟩ := M.out.b.vls.form
    obtain ⟨b2, e2, rfl⟩ := M.out.c.vls.form
    obtain ⟨b3, e3, rfl⟩ := M.out.d.vls.form
    obtain ⟨b4, e4, rfl⟩ := M.out.e.vls.form
    obtain ⟨x00, x01, x02, x03, x04, x05, x06, x07, x08, x09⟩ := bR_12.out
    obtain ⟨Z15, hZ15⟩ : ∃ X, (((((w7.setCell ⟨w.heap.size + 1, 0, none⟩ (.slice b0 (StT.n5 ⟨[n0, n1, n2], [u0, u1, u2], [l0, l1, l2], [m0, m1, m2], [f0, f1, f2]⟩).a e0)).setCell ⟨w.heap.size + 1, 1, none⟩ (.slice b1 (StT.n5 ⟨[n0, n1, n2], [u0, u1, u2], [l0, l1, l2], [m0, m1, m2], [f0, f1, f2]⟩).b e1)).setCell ⟨w.heap.size + 1, 2, none⟩ (.slice b2 (StT.n5 ⟨[n0, n1, n2], [u0, u1, u2], [l0, l1, l2], [m0, m1, m2], [f0, f1, f2]⟩).c e2)).setCell ⟨w.heap.size + 1, 3, none⟩ (.slice b3 (StT.n5 ⟨[n0, n1, n2], [u0, u1, u2], [l0, l1, l2], [m0, m1, m2], [f0, f1, f2]⟩).d e3)).setCell ⟨w.heap.size + 1, 4, none⟩ (.slice b4 (StT.n5 ⟨[n0, n1, n2], [u0, u1, u2], [l0, l1, l2], [m0, m1, m2], [f0, f1, f2]⟩).e e4)) = X := ⟨_, rfl⟩
    have hz : Box5W Z15 (w.heap.size + 1) (.slice b0 (StT.n5 ⟨[n0, n1, n2], [u0, u1, u2], [l0, l1, l2], [m0, m1, m2], [f0, f1, f2]⟩).a e0) (.slice b1 (StT.n5 ⟨[n0, n1, n2], [u0, u1, u2], [l0, l1, l2], [m0, m1, m2], [f0, f1, f2]⟩).b e1) (.slice b2 (StT.n5 ⟨[n0, n1, n2], [u0, u1, u2], [l0, l1, l2], [m0, m1, m2], [f0, f1, f2]⟩).c e2) (.slice b3 (StT.n5 ⟨[n0, n1, n2], [u0, u1, u2], [l0, l1, l2], [m0, m1, m2], [f0, f1, f2]⟩).d e3) (.slice b4 (StT.n5 ⟨[n0, n1, n2], [u0, u1, u2], [l0, l1, l2], [m0, m1, m2], [f0, f1, f2]⟩).e e4) := by rw [← hZ15]; exact ((((bR_12.out.set0 _).set1 _).set2 _).set3 _).set4 _
    have ht : Btn (w.heap.size + 1) (w.heap.size + 1 + 1) w7 Z15 := by rw [← hZ15]; exact ((((btn_set _ _ _ _).trans (btn_set _ _ _ _)).trans (btn_set _ _ _ _)).trans (btn_set _ _ _ _)).trans (btn_set _ _ _ _)
    have q0 := S_0.out
    have q1 := S_3.out
    have q2 := S_6.out
    have q3 := S_9.out
    have q4 := S_13.out
    have HZ : Hid (Below w.heap.size w Z15) := E_13.out.trans (ht.below (by omega) E_13.out.size)
    have hs := ht.size
    have HM : Hid (M5 Z15 w.heap.size Z15.heap.size (.slice b0 (StT.n5 ⟨[n0, n1, n2], [u0, u1, u2], [l0, l1, l2], [m0, m1, m2], [f0, f1, f2]⟩).a e0) (.slice b1 (StT.n5 ⟨[n0, n1, n2], [u0, u1, u2], [l0, l1, l2], [m0, m1, m2], [f0, f1, f2]⟩).b e1) (.slice b2 (StT.n5 ⟨[n0, n1, n2], [u0, u1, u2], [l0, l1, l2], [m0, m1, m2], [f0, f1, f2]⟩).c e2) (.slice b3 (StT.n5 ⟨[n0, n1, n2], [u0, u1, u2], [l0, l1, l2], [m0, m1, m2], [f0, f1, f2]⟩).d e3) (.slice b4 (StT.n5 ⟨[n0, n1, n2], [u0, u1, u2], [l0, l1, l2], [m0, m1, m2], [f0, f1, f2]⟩).e e4) (StT.n5 ⟨[n0, n1, n2], [u0, u1, u2], [l0, l1, l2], [m0, m1, m2], [f0, f1, f2]⟩) (StT.f5 ⟨[n0, n1, n2], [u0, u1, u2], [l0, l1, l2], [m0, m1, m2], [f0, f1, f2]⟩)) := (M.out.btn ht (.inr (by omega))).wide (by omega) (by omega)
    clear q0 q1 q2 q3 q4 ht hs
    go_wp2
    obtain ⟨t0, t1, t2, t3, t4, -, -, -, -, -⟩ := hz
    exact bodyPost_ret (v := .tuple #[.agg #[.slice b0 (StT.n5 ⟨[n0, n1, n2], [u0, u1, u2], [l0, l1, l2], [m0, m1, m2], [f0, f1, f2]⟩).a e0, .slice b1 (StT.n5 ⟨[n0, n1, n2], [u0, u1, u2], [l0, l1, l2], [m0, m1, m2], [f0, f1, f2]⟩).b e1, .slice b2 (StT.n5 ⟨[n0, n1, n2], [u0, u1, u2], [l0, l1, l2], [m0, m1, m2], [f0, f1, f2]⟩).c e2, .slice b3 (StT.n5 ⟨[n0, n1, n2], [u0, u1, u2], [l0, l1, l2], [m0, m1, m2], [f0, f1, f2]⟩).d e3, .slice b4 (StT.n5 ⟨[n0, n1, n2], [u0, u1, u2], [l0, l1, l2], [m0, m1, m2], [f0, f1, f2]⟩).e e4], .bool true]) (by simp [results, Try.results24, go_sem, t0, t1, t2, t3, t4]) rfl ⟨_, _, _, _, _, rfl, HM, HZ.out⟩
  · have hm2 : m = f0 := by omega
    clear hm
    subst m
    obtain ⟨X6, hX6⟩ : ∃ X, (w5.setCell ⟨d, 12, none⟩ (.int .i64 f0)) = X := ⟨_, rfl⟩
    have ht : Btn d (d + 1) w5 X6 := by rw [← hX6]; exact btn_set _ _ _ _
    have hdl := HDL.out
    have HV : Hid (Dsv X6 d n0 n1 n2 u0 u1 u2 l0 l1 l2 m0 m1 m2 f0 f1 f2) := ⟨_, _, _, _, _, _, (by rw [← hX6]; exact row_set HROW.out 12 _), (J0.out.off ht O0.out).sht.shv, (J1.out.off ht O1.out).sht.shv, (J2.out.off ht O2.out).sht.shv, (J3.out.off ht O3.out).sht.shv, (J4.out.off ht O4.out).sht.shv, (J5.out.off ht O5.out).sht.shv⟩
    have q0 := S_0.out
    have q1 := S_3.out
    have q2 := S_6.out
    have bA_7 := Lib.hid (bA_4.out.btn ht (by omega))
    have bR_8 := Lib.hid (bR_5.out.btn ht (by omega))
    have E_9 := Lib.hid (E_6.out.trans (ht.below (by omega) E_6.out.size))
    have S_9 := Lib.hid ht.size
    clear bA_4 bR_5 E_6 q0 q1 q2 ht
    clear hdl J0 J1 J2 J3 J4 J5 O0 O1 O2 O3 O4 O5
    go_wp2_with fail
    clear hX6 yk fk
    refine (diskStore_any d _ _ _ _ _ _ _ _ _ _ _ _ _ _ _ X6 HV.out).mono ?_; rintro e w7 ⟨r0, r1, r2, r3, r4, rfl, M, hb⟩
    clear HV HROW HDL HD0
    have bA_11 := Lib.hid (bA_7.out.keep hb)
    have bR_12 := Lib.hid (bR_8.out.keep hb)
    have E_13 := Lib.hid (E_9.out.trans (hb.mono E_9.out.size))
    have S_13 := Lib.hid hb.size
    clear bA_7 bR_8 E_9 hb
    obtain ⟨b0, e0, rfl⟩ := M.out.a.vls.form
    obtain ⟨b1, e1, rfl⟩ := M.out.b.vls.form
    obtain ⟨b2, e2, rfl⟩ := M.out.c.vls.form
    obtain ⟨b3, e3, rfl⟩ := M.out.d.vls.form
    obtain ⟨b4, e4, rfl⟩ := M.out.e.vls.form
    obtain ⟨x00, x01, x02, x03, x04, x05, x06, x07, x08, x09⟩ := bR_12.out
    obtain ⟨Z15, hZ15⟩ : ∃ X, (((((w7.setCell ⟨w.heap.size + 1, 0, none⟩ (.slice b0 (StT.n5 ⟨[n0, n1, n2], [u0, u1, u2], [l0, l1, l2], [m0, m1, m2], [f0, f1, f2]⟩).a e0)).setCell ⟨w.heap.size + 1, 1, none⟩ (.slice b1 (StT.n5 ⟨[n0, n1, n2], [u0, u1, u2], [l0, l1, l2], [m0, m1, m2], [f0, f1, f2]⟩).b e1)).setCell ⟨w.heap.size + 1, 2, none⟩ (.slice b2 (StT.n5 ⟨[n0, n1, n2], [u0, u1, u2], [l0, l1, l2], [m0, m1, m2], [f0, f1, f2]⟩).c e2)).setCell ⟨w.heap.size + 1, 3, none⟩ (.slice b3 (StT.n5 ⟨[n0, n1, n2], [u0, u1, u2], [l0, l1, l2], [m0, m1, m2], [f0, f1, f2]⟩).d e3)).setCell ⟨w.heap.size + 1, 4, none⟩ (.slice b4 (StT.n5 ⟨[n0, n1, n2], [u0, u1, u2], [l0, l1, l2], [m0, m1, m2], [f0, f1, f2]⟩).e e4)) = X := ⟨_, rfl⟩
    have hz : Box5W Z15 (w.heap.size + 1) (.slice b0 (StT.n5 ⟨[n0, n1, n2], [u0, u1, u2], [l0, l1, l2], [m0, m1, m2], [f0, f1, f2]⟩).a e0) (.slice b1 (StT.n5 ⟨[n0, n1, n2], [u0, u1, u2], [l0, l1, l2], [m0, m1, m2], [f0, f1, f2]⟩).b e1) (.slice b2 (StT.n5 ⟨[n0, n1, n2], [u0, u1, u2], [l0, l1, l2], [m0, m1, m2], [f0, f1, f2]⟩).c e2) (.slice b3 (StT.n5 ⟨[n0, n1, n2], [u0, u1, u2], [l0, l1, l2], [m0, m1, m2], [f0, f1, f2]⟩).d e3) (.slice b4 (StT.n5 ⟨[n0, n1, n2], [u0, u1, u2], [l0, l1, l2], [m0, m1, m2], [f0, f1, f2]⟩).e e4) := by rw [← hZ15]; exact ((((bR_12.out.set0 _).set1 _).set2 _).set3 _).set4 _
    have ht : Btn (w.heap.size + 1) (w.heap.size + 1 + 1) w7 Z15 := by rw [← hZ15]; exact ((((btn_set _ _ _ _).trans (btn_set _ _ _ _)).trans (btn_set _ _ _ _)).trans (btn_set _ _ _ _)).trans (btn_set _ _ _ _)
    have q0 := S_0.out
    have q1 := S_3.out
    have q2 := S_6.out
    have q3 := S_9.out
    have q4 := S_13.out
    have HZ : Hid (Below w.heap.size w Z15) := E_13.out.trans (ht.below (by omega) E_13.out.size)
    have hs := ht.size
    have HM : Hid (M5 Z15 w.heap.size Z15.heap.size (.slice b0 (StT.n5 ⟨[n0, n1, n2], [u0, u1, u2], [l0, l1, l2], [m0, m1, m2], [f0, f1, f2]⟩).a e0) (.slice b1 (StT.n5 ⟨[n0, n1, n2], [u0, u1, u2], [l0, l1, l2], [m0, m1, m2], [f0, f1, f2]⟩).b e1) (.slice b2 (StT.n5 ⟨[n0, n1, n2], [u0, u1, u2], [l0, l1, l2], [m0, m1, m2], [f0, f1, f2]⟩).c e2) (.slice b3 (StT.n5 ⟨[n0, n1, n2], [u0, u1, u2], [l0, l1, l2], [m0, m1, m2], [f0, f1, f2]⟩).d e3) (.slice b4 (StT.n5 ⟨[n0, n1, n2], [u0, u1, u2], [l0, l1, l2], [m0, m1, m2], [f0, f1, f2]⟩).e e4) (StT.n5 ⟨[n0, n1, n2], [u0, u1, u2], [l0, l1, l2], [m0, m1, m2], [f0, f1, f2]⟩) (StT.f5 ⟨[n0, n1, n2], [u0, u1, u2], [l0, l1, l2], [m0, m1, m2], [f0, f1, f2]⟩)) := (M.out.btn ht (.inr (by omega))).wide (by omega) (by omega)
    clear q0 q1 q2 q3 q4 ht hs
    go_wp2
    obtain ⟨t0, t1, t2, t3, t4, -, -, -, -, -⟩ := hz
    exact bodyPost_ret (v := .tuple #[.agg #[.slice b0 (StT.n5 ⟨[n0, n1, n2], [u0, u1, u2], [l0, l1, l2], [m0, m1, m2], [f0, f1, f2]⟩).a e0, .slice b1 (StT.n5 ⟨[n0, n1, n2], [u0, u1, u2], [l0, l1, l2], [m0, m1, m2], [f0, f1, f2]⟩).b e1, .slice b2 (StT.n5 ⟨[n0, n1, n2], [u0, u1, u2], [l0, l1, l2], [m0, m1, m2], [f0, f1, f2]⟩).c e2, .slice b3 (StT.n5 ⟨[n0, n1, n2], [u0, u1, u2], [l0, l1, l2], [m0, m1, m2], [f0, f1, f2]⟩).d e3, .slice b4 (StT.n5 ⟨[n0, n1, n2], [u0, u1, u2], [l0, l1, l2], [m0, m1, m2], [f0, f1, f2]⟩).e e4], .bool true]) (by simp [results, Try.results24, go_sem, t0, t1, t2, t3, t4]) rfl ⟨_, _, _, _, _, rfl, HM, HZ.out⟩

set_option maxRecDepth 100000 in
set_option maxHeartbeats 3000000 in
theorem implFence_1 (v0 v1 v2 v3 v4 : Value) (S : StT) (ep : Int) (w : World) (h : Sto w v0 v1 v2 v3 v4 S) (hz : szT S) (hq : stOkB S = true) (he : epoB ep = true) :
    Calls Try.prog 24 #[.agg #[v0, v1, v2, v3, v4], .int .i64 1, .int .i64 ep] w (ToSB w ⟨S.now, S.sure, S.last, S.slast, S.floors.set 1 (max (S.floors.getD 1 0) ep)⟩ true) := by
  obtain ⟨z0, z1, z2, z3, z4⟩ := stOk_lens hq
  obtain ⟨N, U, L, M, F⟩ := S
  obtain ⟨n0, n1, n2, rfl⟩ := three z0
  obtain ⟨u0, u1, u2, rfl⟩ := three z1
  obtain ⟨l0, l1, l2, rfl⟩ := three z2
  obtain ⟨m0, m1, m2, rfl⟩ := three z3
  obtain ⟨f0, f1, f2, rfl⟩ := three z4
  clear z0 z1 z2 z3 z4
  obtain ⟨m, hm⟩ : ∃ m, m = max f1 ep := ⟨_, rfl⟩
  have hD := fun W hW => diskOf_yes v0 v1 v2 v3 v4 ⟨[n0, n1, n2], [u0, u1, u2], [l0, l1, l2], [m0, m1, m2], [f0, f1, f2]⟩ W (h.keep (w1 := W) hW) hz hq
  obtain ⟨a0, c0, rfl⟩ := h.now.form
  obtain ⟨a1, c1, rfl⟩ := h.sure.form
  obtain ⟨a2, c2, rfl⟩ := h.last.form
  obtain ⟨a3, c3, rfl⟩ := h.slast.form
  obtain ⟨a4, c4, rfl⟩ := h.floors.form
  have hres : StT.mk [n0, n1, n2] [u0, u1, u2] [l0, l1, l2] [m0, m1, m2] ([f0, f1, f2].set 1 (max ([f0, f1, f2].getD 1 0) ep)) = ⟨[n0, n1, n2], [u0, u1, u2], [l0, l1, l2], [m0, m1, m2], [f0, m, f2]⟩ := by rw [hm]; rfl
  change Calls _ _ _ _ (ToSB w (StT.mk [n0, n1, n2] [u0, u1, u2] [l0, l1, l2] [m0, m1, m2] ([f0, f1, f2].set 1 (max ([f0, f1, f2].getD 1 0) ep))) true)
  rw [hres]
  clear hres
  obtain ⟨W, hW⟩ : ∃ W, (w.alloc (.cells #[.slice a0 3 c0, .slice a1 3 c1, .slice a2 3 c2, .slice a3 3 c3, .slice a4 3 c4] 25)).alloc (.cells #[.slice none 0 0, .slice none 0 0, .slice none 0 0, .slice none 0 0, .slice none 0 0] 25) = W := ⟨_, rfl⟩
  have hal : Below w.heap.size w W := by rw [← hW]; exact ((Below.refl _ _).alloc (Nat.le_refl _) _).alloc (by simp) _
  have A0 : Box5 W w.heap.size (.slice a0 3 c0) (.slice a1 3 c1) (.slice a2 3 c2) (.slice a3 3 c3) (.slice a4 3 c4) := by rw [← hW]; exact (new_box5 w _ _ _ _ _ _).keep ((Below.refl _ _).alloc (Nat.le_refl _) _)
  have R0 : Box5W W (w.heap.size + 1) (.slice none 0 0) (.slice none 0 0) (.slice none 0 0) (.slice none 0 0) (.slice none 0 0) := by
    rw [← hW]
    have := new_box5W (w.alloc (.cells #[.slice a0 3 c0, .slice a1 3 c1, .slice a2 3 c2, .slice a3 3 c3, .slice a4 3 c4] 25)) (.slice none 0 0) (.slice none 0 0) (.slice none 0 0) (.slice none 0 0) (.slice none 0 0) 25
    simpa using this
  have hl : w.heap.size + 1 < W.heap.size := by rw [← hW]; simp
  have E_0 := Lib.hid hal
  have S_0 := Lib.hid hl
  have bA_0 := Lib.hid A0
  have bR_0 := Lib.hid R0
  have K := Lib.hid (hD W hal)
  have KC := Lib.hid (fun w => clientOkV_any 1 w)
  rw [show cliB 1 = true from by decide] at KC
  have KE := Lib.hid (fun w => epochOk_any ep w)
  rw [he] at KE
  clear h hz hq hal A0 R0 hl hD he
  obtain ⟨x00, x01, x02, x03, x04⟩ := bA_0.out
  go_enter Try.func24, Try.ntmps24
  go_wp2_with fail
  clear hW
  refine K.out.mono ?_; rintro e w1 ⟨d, rfl, HD, hb⟩
  have bA_1 := Lib.hid (bA_0.out.keep hb)
  have bR_2 := Lib.hid (bR_0.out.keep hb)
  have E_3 := Lib.hid (E_0.out.trans (hb.mono E_0.out.size))
  have S_3 := Lib.hid hb.size
  clear x00 x01 x02 x03 x04
  clear bA_0 bR_0 E_0 hb
  clear K
  go_wp2_with fail
  refine (KC.out _).mono ?_; rintro e w2 ⟨rfl, hw⟩; subst hw
  go_wp2_with fail
  refine (KE.out _).mono ?_; rintro e w2 ⟨rfl, hw⟩; subst hw
  go_wp2_with fail
  clear KC KE
  obtain ⟨s0, s1, s2, t0, t1, t2, hrow, hdl, i0, i1, i2, i3, i4, i5, o0, o1, o2, o3, o4, o5⟩ := HD.out
  obtain ⟨g0, p0, rfl⟩ := i0.form
  obtain ⟨g1, p1, rfl⟩ := i1.form
  obtain ⟨g2, p2, rfl⟩ := i2.form
  obtain ⟨g3, p3, rfl⟩ := i3.form
  obtain ⟨g4, p4, rfl⟩ := i4.form
  obtain ⟨g5, p5, rfl⟩ := i5.form
  change w1.heap[d]? = some (.cells #[.slice (some ⟨g0, 0, none⟩) n0.length p0, .slice (some ⟨g1, 0, none⟩) n1.length p1, .slice (some ⟨g2, 0, none⟩) n2.length p2, .int .i64 l0, .int .i64 l1, .int .i64 l2, .slice (some ⟨g3, 0, none⟩) u0.length p3, .slice (some ⟨g4, 0, none⟩) u1.length p4, .slice (some ⟨g5, 0, none⟩) u2.length p5, .int .i64 m0, .int .i64 m1, .int .i64 m2, .int .i64 f0, .int .i64 f1, .int .i64 f2] 55 (0, 0)) at hrow
  change Shg w1 _ _ n0 at i0
  change Shg w1 _ _ n1 at i1
  change Shg w1 _ _ n2 at i2
  change Shg w1 _ _ u0 at i3
  change Shg w1 _ _ u1 at i4
  change Shg w1 _ _ u2 at i5
  clear HD
  have hdr : Below w1.heap.size w1 w1.drew := (Below.refl _ _).drew
  obtain ⟨w5, hw5⟩ : ∃ X, w1.drew = X := ⟨_, rfl⟩
  rw [hw5] at hdr
  have hrow5 := row_keep hrow hdr
  have J0 := Lib.hid (i0.keep hdr)
  have J1 := Lib.hid (i1.keep hdr)
  have J2 := Lib.hid (i2.keep hdr)
  have J3 := Lib.hid (i3.keep hdr)
  have J4 := Lib.hid (i4.keep hdr)
  have J5 := Lib.hid (i5.keep hdr)
  have hsz5 := hdr.size
  have O0 := Lib.hid o0
  have O1 := Lib.hid o1
  have O2 := Lib.hid o2
  have O3 := Lib.hid o3
  have O4 := Lib.hid o4
  have O5 := Lib.hid o5
  have HROW := Lib.hid hrow5
  have HDL := Lib.hid (show w1.heap.size ≤ w1.heap.size from Nat.le_refl _)
  have HD0 := Lib.hid hdl
  have yk := row_cell hrow5 13 _ rfl
  have fk := row_free hrow5 13
  go_still_tail 13, (by kernel_rfl)
  change wpList _ _ _ _ _ w1.drew
  rw [hw5]
  clear HDL
  have HDL := HD0
  clear hrow hrow5 i0 i1 i2 i3 i4 i5 o0 o1 o2 o3 o4 o5 hdl hsz5 hw5
  have bA_4 := Lib.hid (bA_1.out.keep hdr)
  have bR_5 := Lib.hid (bR_2.out.keep hdr)
  have E_6 := Lib.hid (E_3.out.trans (hdr.mono E_3.out.size))
  have S_6 := Lib.hid hdr.size
  clear bA_1 bR_2 E_3 hdr
  rcases Int.lt_trichotomy f1 ep with hlt | heq | hgt
  · have hm2 : m = ep := by omega
    clear hm
    subst m
    obtain ⟨X6, hX6⟩ : ∃ X, (w5.setCell ⟨d, 13, none⟩ (.int .i64 ep)) = X := ⟨_, rfl⟩
    have ht : Btn d (d + 1) w5 X6 := by rw [← hX6]; exact btn_set _ _ _ _
    have hdl := HDL.out
    have HV : Hid (Dsv X6 d n0 n1 n2 u0 u1 u2 l0 l1 l2 m0 m1 m2 f0 ep f2) := ⟨_, _, _, _, _, _, (by rw [← hX6]; exact row_set HROW.out 13 _), (J0.out.off ht O0.out).sht.shv, (J1.out.off ht O1.out).sht.shv, (J2.out.off ht O2.out).sht.shv, (J3.out.off ht O3.out).sht.shv, (J4.out.off ht O4.out).sht.shv, (J5.out.off ht O5.out).sht.shv⟩
    have q0 := S_0.out
    have q1 := S_3.out
    have q2 := S_6.out
    have bA_7 := Lib.hid (bA_4.out.btn ht (by omega))
    have bR_8 := Lib.hid (bR_5.out.btn ht (by omega))
    have E_9 := Lib.hid (E_6.out.trans (ht.below (by omega) E_6.out.size))
    have S_9 := Lib.hid ht.size
    clear bA_4 bR_5 E_6 q0 q1 q2 ht
    clear hdl J0 J1 J2 J3 J4 J5 O0 O1 O2 O3 O4 O5
    go_wp2_with fail
    clear hX6 yk fk
    refine (diskStore_any d _ _ _ _ _ _ _ _ _ _ _ _ _ _ _ X6 HV.out).mono ?_; rintro e w7 ⟨r0, r1, r2, r3, r4, rfl, M, hb⟩
    clear HV HROW HDL HD0
    have bA_11 := Lib.hid (bA_7.out.keep hb)
    have bR_12 := Lib.hid (bR_8.out.keep hb)
    have E_13 := Lib.hid (E_9.out.trans (hb.mono E_9.out.size))
    have S_13 := Lib.hid hb.size
    clear bA_7 bR_8 E_9 hb
    obtain ⟨b0, e0, rfl⟩ := M.out.a.vls.form
    obtain ⟨b1, e1, rfl⟩ := M.out.b.vls.form
    obtain ⟨b2, e2, rfl⟩ := M.out.c.vls.form
    obtain ⟨b3, e3, rfl⟩ := M.out.d.vls.form
    obtain ⟨b4, e4, rfl⟩ := M.out.e.vls.form
    obtain ⟨x00, x01, x02, x03, x04, x05, x06, x07, x08, x09⟩ := bR_12.out
    obtain ⟨Z15, hZ15⟩ : ∃ X, (((((w7.setCell ⟨w.heap.size + 1, 0, none⟩ (.slice b0 (StT.n5 ⟨[n0, n1, n2], [u0, u1, u2], [l0, l1, l2], [m0, m1, m2], [f0, ep, f2]⟩).a e0)).setCell ⟨w.heap.size + 1, 1, none⟩ (.slice b1 (StT.n5 ⟨[n0, n1, n2], [u0, u1, u2], [l0, l1, l2], [m0, m1, m2], [f0, ep, f2]⟩).b e1)).setCell ⟨w.heap.size + 1, 2, none⟩ (.slice b2 (StT.n5 ⟨[n0, n1, n2], [u0, u1, u2], [l0, l1, l2], [m0, m1, m2], [f0, ep, f2]⟩).c e2)).setCell ⟨w.heap.size + 1, 3, none⟩ (.slice b3 (StT.n5 ⟨[n0, n1, n2], [u0, u1, u2], [l0, l1, l2], [m0, m1, m2], [f0, ep, f2]⟩).d e3)).setCell ⟨w.heap.size + 1, 4, none⟩ (.slice b4 (StT.n5 ⟨[n0, n1, n2], [u0, u1, u2], [l0, l1, l2], [m0, m1, m2], [f0, ep, f2]⟩).e e4)) = X := ⟨_, rfl⟩
    have hz : Box5W Z15 (w.heap.size + 1) (.slice b0 (StT.n5 ⟨[n0, n1, n2], [u0, u1, u2], [l0, l1, l2], [m0, m1, m2], [f0, ep, f2]⟩).a e0) (.slice b1 (StT.n5 ⟨[n0, n1, n2], [u0, u1, u2], [l0, l1, l2], [m0, m1, m2], [f0, ep, f2]⟩).b e1) (.slice b2 (StT.n5 ⟨[n0, n1, n2], [u0, u1, u2], [l0, l1, l2], [m0, m1, m2], [f0, ep, f2]⟩).c e2) (.slice b3 (StT.n5 ⟨[n0, n1, n2], [u0, u1, u2], [l0, l1, l2], [m0, m1, m2], [f0, ep, f2]⟩).d e3) (.slice b4 (StT.n5 ⟨[n0, n1, n2], [u0, u1, u2], [l0, l1, l2], [m0, m1, m2], [f0, ep, f2]⟩).e e4) := by rw [← hZ15]; exact ((((bR_12.out.set0 _).set1 _).set2 _).set3 _).set4 _
    have ht : Btn (w.heap.size + 1) (w.heap.size + 1 + 1) w7 Z15 := by rw [← hZ15]; exact ((((btn_set _ _ _ _).trans (btn_set _ _ _ _)).trans (btn_set _ _ _ _)).trans (btn_set _ _ _ _)).trans (btn_set _ _ _ _)
    have q0 := S_0.out
    have q1 := S_3.out
    have q2 := S_6.out
    have q3 := S_9.out
    have q4 := S_13.out
    have HZ : Hid (Below w.heap.size w Z15) := E_13.out.trans (ht.below (by omega) E_13.out.size)
    have hs := ht.size
    have HM : Hid (M5 Z15 w.heap.size Z15.heap.size (.slice b0 (StT.n5 ⟨[n0, n1, n2], [u0, u1, u2], [l0, l1, l2], [m0, m1, m2], [f0, ep, f2]⟩).a e0) (.slice b1 (StT.n5 ⟨[n0, n1, n2], [u0, u1, u2], [l0, l1, l2], [m0, m1, m2], [f0, ep, f2]⟩).b e1) (.slice b2 (StT.n5 ⟨[n0, n1, n2], [u0, u1, u2], [l0, l1, l2], [m0, m1, m2], [f0, ep, f2]⟩).c e2) (.slice b3 (StT.n5 ⟨[n0, n1, n2], [u0, u1, u2], [l0, l1, l2], [m0, m1, m2], [f0, ep, f2]⟩).d e3) (.slice b4 (StT.n5 ⟨[n0, n1, n2], [u0, u1, u2], [l0, l1, l2], [m0, m1, m2], [f0, ep, f2]⟩).e e4) (StT.n5 ⟨[n0, n1, n2], [u0, u1, u2], [l0, l1, l2], [m0, m1, m2], [f0, ep, f2]⟩) (StT.f5 ⟨[n0, n1, n2], [u0, u1, u2], [l0, l1, l2], [m0, m1, m2], [f0, ep, f2]⟩)) := (M.out.btn ht (.inr (by omega))).wide (by omega) (by omega)
    clear q0 q1 q2 q3 q4 ht hs
    go_wp2
    obtain ⟨t0, t1, t2, t3, t4, -, -, -, -, -⟩ := hz
    exact bodyPost_ret (v := .tuple #[.agg #[.slice b0 (StT.n5 ⟨[n0, n1, n2], [u0, u1, u2], [l0, l1, l2], [m0, m1, m2], [f0, ep, f2]⟩).a e0, .slice b1 (StT.n5 ⟨[n0, n1, n2], [u0, u1, u2], [l0, l1, l2], [m0, m1, m2], [f0, ep, f2]⟩).b e1, .slice b2 (StT.n5 ⟨[n0, n1, n2], [u0, u1, u2], [l0, l1, l2], [m0, m1, m2], [f0, ep, f2]⟩).c e2, .slice b3 (StT.n5 ⟨[n0, n1, n2], [u0, u1, u2], [l0, l1, l2], [m0, m1, m2], [f0, ep, f2]⟩).d e3, .slice b4 (StT.n5 ⟨[n0, n1, n2], [u0, u1, u2], [l0, l1, l2], [m0, m1, m2], [f0, ep, f2]⟩).e e4], .bool true]) (by simp [results, Try.results24, go_sem, t0, t1, t2, t3, t4]) rfl ⟨_, _, _, _, _, rfl, HM, HZ.out⟩
  · subst heq
    have hm2 : m = f1 := by omega
    clear hm
    subst m
    obtain ⟨X6, hX6⟩ : ∃ X, (w5.setCell ⟨d, 13, none⟩ (.int .i64 f1)) = X := ⟨_, rfl⟩
    have ht : Btn d (d + 1) w5 X6 := by rw [← hX6]; exact btn_set _ _ _ _
    have hdl := HDL.out
    have HV : Hid (Dsv X6 d n0 n1 n2 u0 u1 u2 l0 l1 l2 m0 m1 m2 f0 f1 f2) := ⟨_, _, _, _, _, _, (by rw [← hX6]; exact row_set HROW.out 13 _), (J0.out.off ht O0.out).sht.shv, (J1.out.off ht O1.out).sht.shv, (J2.out.off ht O2.out).sht.shv, (J3.out.off ht O3.out).sht.shv, (J4.out.off ht O4.out).sht.shv, (J5.out.off ht O5.out).sht.shv⟩
    have q0 := S_0.out
    have q1 := S_3.out
    have q2 := S_6.out
    have bA_7 := Lib.hid (bA_4.out.btn ht (by omega))
    have bR_8 := Lib.hid (bR_5.out.btn ht (by omega))
    have E_9 := Lib.hid (E_6.out.trans (ht.below (by omega) E_6.out.size))
    have S_9 := Lib.hid ht.size
    clear bA_4 bR_5 E_6 q0 q1 q2 ht
    clear hdl J0 J1 J2 J3 J4 J5 O0 O1 O2 O3 O4 O5
    go_wp2_with fail
    clear hX6 yk fk
    refine (diskStore_any d _ _ _ _ _ _ _ _ _ _ _ _ _ _ _ X6 HV.out).mono ?_; rintro e w7 ⟨r0, r1, r2, r3, r4, rfl, M, hb⟩
    clear HV HROW HDL HD0
    have bA_11 := Lib.hid (bA_7.out.keep hb)
    have bR_12 := Lib.hid (bR_8.out.keep hb)
    have E_13 := Lib.hid (E_9.out.trans (hb.mono E_9.out.size))
    have S_13 := Lib.hid hb.size
    clear bA_7 bR_8 E_9 hb
    obtain ⟨b0, e0, rfl⟩ := M.out.a.vls.form
    obtain ⟨b1, e1, rfl⟩ := M.out.b.vls.form
    obtain ⟨b2, e2, rfl⟩ := M.out.c.vls.form
    obtain ⟨b3, e3, rfl⟩ := M.out.d.vls.form
    obtain ⟨b4, e4, rfl⟩ := M.out.e.vls.form
    obtain ⟨x00, x01, x02, x03, x04, x05, x06, x07, x08, x09⟩ := bR_12.out
    obtain ⟨Z15, hZ15⟩ : ∃ X, (((((w7.setCell ⟨w.heap.size + 1, 0, none⟩ (.slice b0 (StT.n5 ⟨[n0, n1, n2], [u0, u1, u2], [l0, l1, l2], [m0, m1, m2], [f0, f1, f2]⟩).a e0)).setCell ⟨w.heap.size + 1, 1, none⟩ (.slice b1 (StT.n5 ⟨[n0, n1, n2], [u0, u1, u2], [l0, l1, l2], [m0, m1, m2], [f0, f1, f2]⟩).b e1)).setCell ⟨w.heap.size + 1, 2, none⟩ (.slice b2 (StT.n5 ⟨[n0, n1, n2], [u0, u1, u2], [l0, l1, l2], [m0, m1, m2], [f0, f1, f2]⟩).c e2)).setCell ⟨w.heap.size + 1, 3, none⟩ (.slice b3 (StT.n5 ⟨[n0, n1, n2], [u0, u1, u2], [l0, l1, l2], [m0, m1, m2], [f0, f1, f2]⟩).d e3)).setCell ⟨w.heap.size + 1, 4, none⟩ (.slice b4 (StT.n5 ⟨[n0, n1, n2], [u0, u1, u2], [l0, l1, l2], [m0, m1, m2], [f0, f1, f2]⟩).e e4)) = X := ⟨_, rfl⟩
    have hz : Box5W Z15 (w.heap.size + 1) (.slice b0 (StT.n5 ⟨[n0, n1, n2], [u0, u1, u2], [l0, l1, l2], [m0, m1, m2], [f0, f1, f2]⟩).a e0) (.slice b1 (StT.n5 ⟨[n0, n1, n2], [u0, u1, u2], [l0, l1, l2], [m0, m1, m2], [f0, f1, f2]⟩).b e1) (.slice b2 (StT.n5 ⟨[n0, n1, n2], [u0, u1, u2], [l0, l1, l2], [m0, m1, m2], [f0, f1, f2]⟩).c e2) (.slice b3 (StT.n5 ⟨[n0, n1, n2], [u0, u1, u2], [l0, l1, l2], [m0, m1, m2], [f0, f1, f2]⟩).d e3) (.slice b4 (StT.n5 ⟨[n0, n1, n2], [u0, u1, u2], [l0, l1, l2], [m0, m1, m2], [f0, f1, f2]⟩).e e4) := by rw [← hZ15]; exact ((((bR_12.out.set0 _).set1 _).set2 _).set3 _).set4 _
    have ht : Btn (w.heap.size + 1) (w.heap.size + 1 + 1) w7 Z15 := by rw [← hZ15]; exact ((((btn_set _ _ _ _).trans (btn_set _ _ _ _)).trans (btn_set _ _ _ _)).trans (btn_set _ _ _ _)).trans (btn_set _ _ _ _)
    have q0 := S_0.out
    have q1 := S_3.out
    have q2 := S_6.out
    have q3 := S_9.out
    have q4 := S_13.out
    have HZ : Hid (Below w.heap.size w Z15) := E_13.out.trans (ht.below (by omega) E_13.out.size)
    have hs := ht.size
    have HM : Hid (M5 Z15 w.heap.size Z15.heap.size (.slice b0 (StT.n5 ⟨[n0, n1, n2], [u0, u1, u2], [l0, l1, l2], [m0, m1, m2], [f0, f1, f2]⟩).a e0) (.slice b1 (StT.n5 ⟨[n0, n1, n2], [u0, u1, u2], [l0, l1, l2], [m0, m1, m2], [f0, f1, f2]⟩).b e1) (.slice b2 (StT.n5 ⟨[n0, n1, n2], [u0, u1, u2], [l0, l1, l2], [m0, m1, m2], [f0, f1, f2]⟩).c e2) (.slice b3 (StT.n5 ⟨[n0, n1, n2], [u0, u1, u2], [l0, l1, l2], [m0, m1, m2], [f0, f1, f2]⟩).d e3) (.slice b4 (StT.n5 ⟨[n0, n1, n2], [u0, u1, u2], [l0, l1, l2], [m0, m1, m2], [f0, f1, f2]⟩).e e4) (StT.n5 ⟨[n0, n1, n2], [u0, u1, u2], [l0, l1, l2], [m0, m1, m2], [f0, f1, f2]⟩) (StT.f5 ⟨[n0, n1, n2], [u0, u1, u2], [l0, l1, l2], [m0, m1, m2], [f0, f1, f2]⟩)) := (M.out.btn ht (.inr (by omega))).wide (by omega) (by omega)
    clear q0 q1 q2 q3 q4 ht hs
    go_wp2
    obtain ⟨t0, t1, t2, t3, t4, -, -, -, -, -⟩ := hz
    exact bodyPost_ret (v := .tuple #[.agg #[.slice b0 (StT.n5 ⟨[n0, n1, n2], [u0, u1, u2], [l0, l1, l2], [m0, m1, m2], [f0, f1, f2]⟩).a e0, .slice b1 (StT.n5 ⟨[n0, n1, n2], [u0, u1, u2], [l0, l1, l2], [m0, m1, m2], [f0, f1, f2]⟩).b e1, .slice b2 (StT.n5 ⟨[n0, n1, n2], [u0, u1, u2], [l0, l1, l2], [m0, m1, m2], [f0, f1, f2]⟩).c e2, .slice b3 (StT.n5 ⟨[n0, n1, n2], [u0, u1, u2], [l0, l1, l2], [m0, m1, m2], [f0, f1, f2]⟩).d e3, .slice b4 (StT.n5 ⟨[n0, n1, n2], [u0, u1, u2], [l0, l1, l2], [m0, m1, m2], [f0, f1, f2]⟩).e e4], .bool true]) (by simp [results, Try.results24, go_sem, t0, t1, t2, t3, t4]) rfl ⟨_, _, _, _, _, rfl, HM, HZ.out⟩
  · have hm2 : m = f1 := by omega
    clear hm
    subst m
    obtain ⟨X6, hX6⟩ : ∃ X, (w5.setCell ⟨d, 13, none⟩ (.int .i64 f1)) = X := ⟨_, rfl⟩
    have ht : Btn d (d + 1) w5 X6 := by rw [← hX6]; exact btn_set _ _ _ _
    have hdl := HDL.out
    have HV : Hid (Dsv X6 d n0 n1 n2 u0 u1 u2 l0 l1 l2 m0 m1 m2 f0 f1 f2) := ⟨_, _, _, _, _, _, (by rw [← hX6]; exact row_set HROW.out 13 _), (J0.out.off ht O0.out).sht.shv, (J1.out.off ht O1.out).sht.shv, (J2.out.off ht O2.out).sht.shv, (J3.out.off ht O3.out).sht.shv, (J4.out.off ht O4.out).sht.shv, (J5.out.off ht O5.out).sht.shv⟩
    have q0 := S_0.out
    have q1 := S_3.out
    have q2 := S_6.out
    have bA_7 := Lib.hid (bA_4.out.btn ht (by omega))
    have bR_8 := Lib.hid (bR_5.out.btn ht (by omega))
    have E_9 := Lib.hid (E_6.out.trans (ht.below (by omega) E_6.out.size))
    have S_9 := Lib.hid ht.size
    clear bA_4 bR_5 E_6 q0 q1 q2 ht
    clear hdl J0 J1 J2 J3 J4 J5 O0 O1 O2 O3 O4 O5
    go_wp2_with fail
    clear hX6 yk fk
    refine (diskStore_any d _ _ _ _ _ _ _ _ _ _ _ _ _ _ _ X6 HV.out).mono ?_; rintro e w7 ⟨r0, r1, r2, r3, r4, rfl, M, hb⟩
    clear HV HROW HDL HD0
    have bA_11 := Lib.hid (bA_7.out.keep hb)
    have bR_12 := Lib.hid (bR_8.out.keep hb)
    have E_13 := Lib.hid (E_9.out.trans (hb.mono E_9.out.size))
    have S_13 := Lib.hid hb.size
    clear bA_7 bR_8 E_9 hb
    obtain ⟨b0, e0, rfl⟩ := M.out.a.vls.form
    obtain ⟨b1, e1, rfl⟩ := M.out.b.vls.form
    obtain ⟨b2, e2, rfl⟩ := M.out.c.vls.form
    obtain ⟨b3, e3, rfl⟩ := M.out.d.vls.form
    obtain ⟨b4, e4, rfl⟩ := M.out.e.vls.form
    obtain ⟨x00, x01, x02, x03, x04, x05, x06, x07, x08, x09⟩ := bR_12.out
    obtain ⟨Z15, hZ15⟩ : ∃ X, (((((w7.setCell ⟨w.heap.size + 1, 0, none⟩ (.slice b0 (StT.n5 ⟨[n0, n1, n2], [u0, u1, u2], [l0, l1, l2], [m0, m1, m2], [f0, f1, f2]⟩).a e0)).setCell ⟨w.heap.size + 1, 1, none⟩ (.slice b1 (StT.n5 ⟨[n0, n1, n2], [u0, u1, u2], [l0, l1, l2], [m0, m1, m2], [f0, f1, f2]⟩).b e1)).setCell ⟨w.heap.size + 1, 2, none⟩ (.slice b2 (StT.n5 ⟨[n0, n1, n2], [u0, u1, u2], [l0, l1, l2], [m0, m1, m2], [f0, f1, f2]⟩).c e2)).setCell ⟨w.heap.size + 1, 3, none⟩ (.slice b3 (StT.n5 ⟨[n0, n1, n2], [u0, u1, u2], [l0, l1, l2], [m0, m1, m2], [f0, f1, f2]⟩).d e3)).setCell ⟨w.heap.size + 1, 4, none⟩ (.slice b4 (StT.n5 ⟨[n0, n1, n2], [u0, u1, u2], [l0, l1, l2], [m0, m1, m2], [f0, f1, f2]⟩).e e4)) = X := ⟨_, rfl⟩
    have hz : Box5W Z15 (w.heap.size + 1) (.slice b0 (StT.n5 ⟨[n0, n1, n2], [u0, u1, u2], [l0, l1, l2], [m0, m1, m2], [f0, f1, f2]⟩).a e0) (.slice b1 (StT.n5 ⟨[n0, n1, n2], [u0, u1, u2], [l0, l1, l2], [m0, m1, m2], [f0, f1, f2]⟩).b e1) (.slice b2 (StT.n5 ⟨[n0, n1, n2], [u0, u1, u2], [l0, l1, l2], [m0, m1, m2], [f0, f1, f2]⟩).c e2) (.slice b3 (StT.n5 ⟨[n0, n1, n2], [u0, u1, u2], [l0, l1, l2], [m0, m1, m2], [f0, f1, f2]⟩).d e3) (.slice b4 (StT.n5 ⟨[n0, n1, n2], [u0, u1, u2], [l0, l1, l2], [m0, m1, m2], [f0, f1, f2]⟩).e e4) := by rw [← hZ15]; exact ((((bR_12.out.set0 _).set1 _).set2 _).set3 _).set4 _
    have ht : Btn (w.heap.size + 1) (w.heap.size + 1 + 1) w7 Z15 := by rw [← hZ15]; exact ((((btn_set _ _ _ _).trans (btn_set _ _ _ _)).trans (btn_set _ _ _ _)).trans (btn_set _ _ _ _)).trans (btn_set _ _ _ _)
    have q0 := S_0.out
    have q1 := S_3.out
    have q2 := S_6.out
    have q3 := S_9.out
    have q4 := S_13.out
    have HZ : Hid (Below w.heap.size w Z15) := E_13.out.trans (ht.below (by omega) E_13.out.size)
    have hs := ht.size
    have HM : Hid (M5 Z15 w.heap.size Z15.heap.size (.slice b0 (StT.n5 ⟨[n0, n1, n2], [u0, u1, u2], [l0, l1, l2], [m0, m1, m2], [f0, f1, f2]⟩).a e0) (.slice b1 (StT.n5 ⟨[n0, n1, n2], [u0, u1, u2], [l0, l1, l2], [m0, m1, m2], [f0, f1, f2]⟩).b e1) (.slice b2 (StT.n5 ⟨[n0, n1, n2], [u0, u1, u2], [l0, l1, l2], [m0, m1, m2], [f0, f1, f2]⟩).c e2) (.slice b3 (StT.n5 ⟨[n0, n1, n2], [u0, u1, u2], [l0, l1, l2], [m0, m1, m2], [f0, f1, f2]⟩).d e3) (.slice b4 (StT.n5 ⟨[n0, n1, n2], [u0, u1, u2], [l0, l1, l2], [m0, m1, m2], [f0, f1, f2]⟩).e e4) (StT.n5 ⟨[n0, n1, n2], [u0, u1, u2], [l0, l1, l2], [m0, m1, m2], [f0, f1, f2]⟩) (StT.f5 ⟨[n0, n1, n2], [u0, u1, u2], [l0, l1, l2], [m0, m1, m2], [f0, f1, f2]⟩)) := (M.out.btn ht (.inr (by omega))).wide (by omega) (by omega)
    clear q0 q1 q2 q3 q4 ht hs
    go_wp2
    obtain ⟨t0, t1, t2, t3, t4, -, -, -, -, -⟩ := hz
    exact bodyPost_ret (v := .tuple #[.agg #[.slice b0 (StT.n5 ⟨[n0, n1, n2], [u0, u1, u2], [l0, l1, l2], [m0, m1, m2], [f0, f1, f2]⟩).a e0, .slice b1 (StT.n5 ⟨[n0, n1, n2], [u0, u1, u2], [l0, l1, l2], [m0, m1, m2], [f0, f1, f2]⟩).b e1, .slice b2 (StT.n5 ⟨[n0, n1, n2], [u0, u1, u2], [l0, l1, l2], [m0, m1, m2], [f0, f1, f2]⟩).c e2, .slice b3 (StT.n5 ⟨[n0, n1, n2], [u0, u1, u2], [l0, l1, l2], [m0, m1, m2], [f0, f1, f2]⟩).d e3, .slice b4 (StT.n5 ⟨[n0, n1, n2], [u0, u1, u2], [l0, l1, l2], [m0, m1, m2], [f0, f1, f2]⟩).e e4], .bool true]) (by simp [results, Try.results24, go_sem, t0, t1, t2, t3, t4]) rfl ⟨_, _, _, _, _, rfl, HM, HZ.out⟩

set_option maxRecDepth 100000 in
set_option maxHeartbeats 3000000 in
theorem implFence_2 (v0 v1 v2 v3 v4 : Value) (S : StT) (ep : Int) (w : World) (h : Sto w v0 v1 v2 v3 v4 S) (hz : szT S) (hq : stOkB S = true) (he : epoB ep = true) :
    Calls Try.prog 24 #[.agg #[v0, v1, v2, v3, v4], .int .i64 2, .int .i64 ep] w (ToSB w ⟨S.now, S.sure, S.last, S.slast, S.floors.set 2 (max (S.floors.getD 2 0) ep)⟩ true) := by
  obtain ⟨z0, z1, z2, z3, z4⟩ := stOk_lens hq
  obtain ⟨N, U, L, M, F⟩ := S
  obtain ⟨n0, n1, n2, rfl⟩ := three z0
  obtain ⟨u0, u1, u2, rfl⟩ := three z1
  obtain ⟨l0, l1, l2, rfl⟩ := three z2
  obtain ⟨m0, m1, m2, rfl⟩ := three z3
  obtain ⟨f0, f1, f2, rfl⟩ := three z4
  clear z0 z1 z2 z3 z4
  obtain ⟨m, hm⟩ : ∃ m, m = max f2 ep := ⟨_, rfl⟩
  have hD := fun W hW => diskOf_yes v0 v1 v2 v3 v4 ⟨[n0, n1, n2], [u0, u1, u2], [l0, l1, l2], [m0, m1, m2], [f0, f1, f2]⟩ W (h.keep (w1 := W) hW) hz hq
  obtain ⟨a0, c0, rfl⟩ := h.now.form
  obtain ⟨a1, c1, rfl⟩ := h.sure.form
  obtain ⟨a2, c2, rfl⟩ := h.last.form
  obtain ⟨a3, c3, rfl⟩ := h.slast.form
  obtain ⟨a4, c4, rfl⟩ := h.floors.form
  have hres : StT.mk [n0, n1, n2] [u0, u1, u2] [l0, l1, l2] [m0, m1, m2] ([f0, f1, f2].set 2 (max ([f0, f1, f2].getD 2 0) ep)) = ⟨[n0, n1, n2], [u0, u1, u2], [l0, l1, l2], [m0, m1, m2], [f0, f1, m]⟩ := by rw [hm]; rfl
  change Calls _ _ _ _ (ToSB w (StT.mk [n0, n1, n2] [u0, u1, u2] [l0, l1, l2] [m0, m1, m2] ([f0, f1, f2].set 2 (max ([f0, f1, f2].getD 2 0) ep))) true)
  rw [hres]
  clear hres
  obtain ⟨W, hW⟩ : ∃ W, (w.alloc (.cells #[.slice a0 3 c0, .slice a1 3 c1, .slice a2 3 c2, .slice a3 3 c3, .slice a4 3 c4] 25)).alloc (.cells #[.slice none 0 0, .slice none 0 0, .slice none 0 0, .slice none 0 0, .slice none 0 0] 25) = W := ⟨_, rfl⟩
  have hal : Below w.heap.size w W := by rw [← hW]; exact ((Below.refl _ _).alloc (Nat.le_refl _) _).alloc (by simp) _
  have A0 : Box5 W w.heap.size (.slice a0 3 c0) (.slice a1 3 c1) (.slice a2 3 c2) (.slice a3 3 c3) (.slice a4 3 c4) := by rw [← hW]; exact (new_box5 w _ _ _ _ _ _).keep ((Below.refl _ _).alloc (Nat.le_refl _) _)
  have R0 : Box5W W (w.heap.size + 1) (.slice none 0 0) (.slice none 0 0) (.slice none 0 0) (.slice none 0 0) (.slice none 0 0) := by
    rw [← hW]
    have := new_box5W (w.alloc (.cells #[.slice a0 3 c0, .slice a1 3 c1, .slice a2 3 c2, .slice a3 3 c3, .slice a4 3 c4] 25)) (.slice none 0 0) (.slice none 0 0) (.slice none 0 0) (.slice none 0 0) (.slice none 0 0) 25
    simpa using this
  have hl : w.heap.size + 1 < W.heap.size := by rw [← hW]; simp
  have E_0 := Lib.hid hal
  have S_0 := Lib.hid hl
  have bA_0 := Lib.hid A0
  have bR_0 := Lib.hid R0
  have K := Lib.hid (hD W hal)
  have KC := Lib.hid (fun w => clientOkV_any 2 w)
  rw [show cliB 2 = true from by decide] at KC
  have KE := Lib.hid (fun w => epochOk_any ep w)
  rw [he] at KE
  clear h hz hq hal A0 R0 hl hD he
  obtain ⟨x00, x01, x02, x03, x04⟩ := bA_0.out
  go_enter Try.func24, Try.ntmps24
  go_wp2_with fail
  clear hW
  refine K.out.mono ?_; rintro e w1 ⟨d, rfl, HD, hb⟩
  have bA_1 := Lib.hid (bA_0.out.keep hb)
  have bR_2 := Lib.hid (bR_0.out.keep hb)
  have E_3 := Lib.hid (E_0.out.trans (hb.mono E_0.out.size))
  have S_3 := Lib.hid hb.size
  clear x00 x01 x02 x03 x04
  clear bA_0 bR_0 E_0 hb
  clear K
  go_wp2_with fail
  refine (KC.out _).mono ?_; rintro e w2 ⟨rfl, hw⟩; subst hw
  go_wp2_with fail
  refine (KE.out _).mono ?_; rintro e w2 ⟨rfl, hw⟩; subst hw
  go_wp2_with fail
  clear KC KE
  obtain ⟨s0, s1, s2, t0, t1, t2, hrow, hdl, i0, i1, i2, i3, i4, i5, o0, o1, o2, o3, o4, o5⟩ := HD.out
  obtain ⟨g0, p0, rfl⟩ := i0.form
  obtain ⟨g1, p1, rfl⟩ := i1.form
  obtain ⟨g2, p2, rfl⟩ := i2.form
  obtain ⟨g3, p3, rfl⟩ := i3.form
  obtain ⟨g4, p4, rfl⟩ := i4.form
  obtain ⟨g5, p5, rfl⟩ := i5.form
  change w1.heap[d]? = some (.cells #[.slice (some ⟨g0, 0, none⟩) n0.length p0, .slice (some ⟨g1, 0, none⟩) n1.length p1, .slice (some ⟨g2, 0, none⟩) n2.length p2, .int .i64 l0, .int .i64 l1, .int .i64 l2, .slice (some ⟨g3, 0, none⟩) u0.length p3, .slice (some ⟨g4, 0, none⟩) u1.length p4, .slice (some ⟨g5, 0, none⟩) u2.length p5, .int .i64 m0, .int .i64 m1, .int .i64 m2, .int .i64 f0, .int .i64 f1, .int .i64 f2] 55 (0, 0)) at hrow
  change Shg w1 _ _ n0 at i0
  change Shg w1 _ _ n1 at i1
  change Shg w1 _ _ n2 at i2
  change Shg w1 _ _ u0 at i3
  change Shg w1 _ _ u1 at i4
  change Shg w1 _ _ u2 at i5
  clear HD
  have hdr : Below w1.heap.size w1 w1.drew := (Below.refl _ _).drew
  obtain ⟨w5, hw5⟩ : ∃ X, w1.drew = X := ⟨_, rfl⟩
  rw [hw5] at hdr
  have hrow5 := row_keep hrow hdr
  have J0 := Lib.hid (i0.keep hdr)
  have J1 := Lib.hid (i1.keep hdr)
  have J2 := Lib.hid (i2.keep hdr)
  have J3 := Lib.hid (i3.keep hdr)
  have J4 := Lib.hid (i4.keep hdr)
  have J5 := Lib.hid (i5.keep hdr)
  have hsz5 := hdr.size
  have O0 := Lib.hid o0
  have O1 := Lib.hid o1
  have O2 := Lib.hid o2
  have O3 := Lib.hid o3
  have O4 := Lib.hid o4
  have O5 := Lib.hid o5
  have HROW := Lib.hid hrow5
  have HDL := Lib.hid (show w1.heap.size ≤ w1.heap.size from Nat.le_refl _)
  have HD0 := Lib.hid hdl
  have yk := row_cell hrow5 14 _ rfl
  have fk := row_free hrow5 14
  go_still_tail 13, (by kernel_rfl)
  change wpList _ _ _ _ _ w1.drew
  rw [hw5]
  clear HDL
  have HDL := HD0
  clear hrow hrow5 i0 i1 i2 i3 i4 i5 o0 o1 o2 o3 o4 o5 hdl hsz5 hw5
  have bA_4 := Lib.hid (bA_1.out.keep hdr)
  have bR_5 := Lib.hid (bR_2.out.keep hdr)
  have E_6 := Lib.hid (E_3.out.trans (hdr.mono E_3.out.size))
  have S_6 := Lib.hid hdr.size
  clear bA_1 bR_2 E_3 hdr
  rcases Int.lt_trichotomy f2 ep with hlt | heq | hgt
  · have hm2 : m = ep := by omega
    clear hm
    subst m
    obtain ⟨X6, hX6⟩ : ∃ X, (w5.setCell ⟨d, 14, none⟩ (.int .i64 ep)) = X := ⟨_, rfl⟩
    have ht : Btn d (d + 1) w5 X6 := by rw [← hX6]; exact btn_set _ _ _ _
    have hdl := HDL.out
    have HV : Hid (Dsv X6 d n0 n1 n2 u0 u1 u2 l0 l1 l2 m0 m1 m2 f0 f1 ep) := ⟨_, _, _, _, _, _, (by rw [← hX6]; exact row_set HROW.out 14 _), (J0.out.off ht O0.out).sht.shv, (J1.out.off ht O1.out).sht.shv, (J2.out.off ht O2.out).sht.shv, (J3.out.off ht O3.out).sht.shv, (J4.out.off ht O4.out).sht.shv, (J5.out.off ht O5.out).sht.shv⟩
    have q0 := S_0.out
    have q1 := S_3.out
    have q2 := S_6.out
    have bA_7 := Lib.hid (bA_4.out.btn ht (by omega))
    have bR_8 := Lib.hid (bR_5.out.btn ht (by omega))
    have E_9 := Lib.hid (E_6.out.trans (ht.below (by omega) E_6.out.size))
    have S_9 := Lib.hid ht.size
    clear bA_4 bR_5 E_6 q0 q1 q2 ht
    clear hdl J0 J1 J2 J3 J4 J5 O0 O1 O2 O3 O4 O5
    go_wp2_with fail
    clear hX6 yk fk
    refine (diskStore_any d _ _ _ _ _ _ _ _ _ _ _ _ _ _ _ X6 HV.out).mono ?_; rintro e w7 ⟨r0, r1, r2, r3, r4, rfl, M, hb⟩
    clear HV HROW HDL HD0
    have bA_11 := Lib.hid (bA_7.out.keep hb)
    have bR_12 := Lib.hid (bR_8.out.keep hb)
    have E_13 := Lib.hid (E_9.out.trans (hb.mono E_9.out.size))
    have S_13 := Lib.hid hb.size
    clear bA_7 bR_8 E_9 hb
    obtain ⟨b0, e0, rfl⟩ := M.out.a.vls.form
    obtain ⟨b1, e1, rfl⟩ := M.out.b.vls.form
    obtain ⟨b2, e2, rfl⟩ := M.out.c.vls.form
    obtain ⟨b3, e3, rfl⟩ := M.out.d.vls.form
    obtain ⟨b4, e4, rfl⟩ := M.out.e.vls.form
    obtain ⟨x00, x01, x02, x03, x04, x05, x06, x07, x08, x09⟩ := bR_12.out
    obtain ⟨Z15, hZ15⟩ : ∃ X, (((((w7.setCell ⟨w.heap.size + 1, 0, none⟩ (.slice b0 (StT.n5 ⟨[n0, n1, n2], [u0, u1, u2], [l0, l1, l2], [m0, m1, m2], [f0, f1, ep]⟩).a e0)).setCell ⟨w.heap.size + 1, 1, none⟩ (.slice b1 (StT.n5 ⟨[n0, n1, n2], [u0, u1, u2], [l0, l1, l2], [m0, m1, m2], [f0, f1, ep]⟩).b e1)).setCell ⟨w.heap.size + 1, 2, none⟩ (.slice b2 (StT.n5 ⟨[n0, n1, n2], [u0, u1, u2], [l0, l1, l2], [m0, m1, m2], [f0, f1, ep]⟩).c e2)).setCell ⟨w.heap.size + 1, 3, none⟩ (.slice b3 (StT.n5 ⟨[n0, n1, n2], [u0, u1, u2], [l0, l1, l2], [m0, m1, m2], [f0, f1, ep]⟩).d e3)).setCell ⟨w.heap.size + 1, 4, none⟩ (.slice b4 (StT.n5 ⟨[n0, n1, n2], [u0, u1, u2], [l0, l1, l2], [m0, m1, m2], [f0, f1, ep]⟩).e e4)) = X := ⟨_, rfl⟩
    have hz : Box5W Z15 (w.heap.size + 1) (.slice b0 (StT.n5 ⟨[n0, n1, n2], [u0, u1, u2], [l0, l1, l2], [m0, m1, m2], [f0, f1, ep]⟩).a e0) (.slice b1 (StT.n5 ⟨[n0, n1, n2], [u0, u1, u2], [l0, l1, l2], [m0, m1, m2], [f0, f1, ep]⟩).b e1) (.slice b2 (StT.n5 ⟨[n0, n1, n2], [u0, u1, u2], [l0, l1, l2], [m0, m1, m2], [f0, f1, ep]⟩).c e2) (.slice b3 (StT.n5 ⟨[n0, n1, n2], [u0, u1, u2], [l0, l1, l2], [m0, m1, m2], [f0, f1, ep]⟩).d e3) (.slice b4 (StT.n5 ⟨[n0, n1, n2], [u0, u1, u2], [l0, l1, l2], [m0, m1, m2], [f0, f1, ep]⟩).e e4) := by rw [← hZ15]; exact ((((bR_12.out.set0 _).set1 _).set2 _).set3 _).set4 _
    have ht : Btn (w.heap.size + 1) (w.heap.size + 1 + 1) w7 Z15 := by rw [← hZ15]; exact ((((btn_set _ _ _ _).trans (btn_set _ _ _ _)).trans (btn_set _ _ _ _)).trans (btn_set _ _ _ _)).trans (btn_set _ _ _ _)
    have q0 := S_0.out
    have q1 := S_3.out
    have q2 := S_6.out
    have q3 := S_9.out
    have q4 := S_13.out
    have HZ : Hid (Below w.heap.size w Z15) := E_13.out.trans (ht.below (by omega) E_13.out.size)
    have hs := ht.size
    have HM : Hid (M5 Z15 w.heap.size Z15.heap.size (.slice b0 (StT.n5 ⟨[n0, n1, n2], [u0, u1, u2], [l0, l1, l2], [m0, m1, m2], [f0, f1, ep]⟩).a e0) (.slice b1 (StT.n5 ⟨[n0, n1, n2], [u0, u1, u2], [l0, l1, l2], [m0, m1, m2], [f0, f1, ep]⟩).b e1) (.slice b2 (StT.n5 ⟨[n0, n1, n2], [u0, u1, u2], [l0, l1, l2], [m0, m1, m2], [f0, f1, ep]⟩).c e2) (.slice b3 (StT.n5 ⟨[n0, n1, n2], [u0, u1, u2], [l0, l1, l2], [m0, m1, m2], [f0, f1, ep]⟩).d e3) (.slice b4 (StT.n5 ⟨[n0, n1, n2], [u0, u1, u2], [l0, l1, l2], [m0, m1, m2], [f0, f1, ep]⟩).e e4) (StT.n5 ⟨[n0, n1, n2], [u0, u1, u2], [l0, l1, l2], [m0, m1, m2], [f0, f1, ep]⟩) (StT.f5 ⟨[n0, n1, n2], [u0, u1, u2], [l0, l1, l2], [m0, m1, m2], [f0, f1, ep]⟩)) := (M.out.btn ht (.inr (by omega))).wide (by omega) (by omega)
    clear q0 q1 q2 q3 q4 ht hs
    go_wp2
    obtain ⟨t0, t1, t2, t3, t4, -, -, -, -, -⟩ := hz
    exact bodyPost_ret (v := .tuple #[.agg #[.slice b0 (StT.n5 ⟨[n0, n1, n2], [u0, u1, u2], [l0, l1, l2], [m0, m1, m2], [f0, f1, ep]⟩).a e0, .slice b1 (StT.n5 ⟨[n0, n1, n2], [u0, u1, u2], [l0, l1, l2], [m0, m1, m2], [f0, f1, ep]⟩).b e1, .slice b2 (StT.n5 ⟨[n0, n1, n2], [u0, u1, u2], [l0, l1, l2], [m0, m1, m2], [f0, f1, ep]⟩).c e2, .slice b3 (StT.n5 ⟨[n0, n1, n2], [u0, u1, u2], [l0, l1, l2], [m0, m1, m2], [f0, f1, ep]⟩).d e3, .slice b4 (StT.n5 ⟨[n0, n1, n2], [u0, u1, u2], [l0, l1, l2], [m0, m1, m2], [f0, f1, ep]⟩).e e4], .bool true]) (by simp [results, Try.results24, go_sem, t0, t1, t2, t3, t4]) rfl ⟨_, _, _, _, _, rfl, HM, HZ.out⟩
  · subst heq
    have hm2 : m = f2 := by omega
    clear hm
    subst m
    obtain ⟨X6, hX6⟩ : ∃ X, (w5.setCell ⟨d, 14, none⟩ (.int .i64 f2)) = X := ⟨_, rfl⟩
    have ht : Btn d (d + 1) w5 X6 := by rw [← hX6]; exact btn_set _ _ _ _
    have hdl := HDL.out
    have HV : Hid (Dsv X6 d n0 n1 n2 u0 u1 u2 l0 l1 l2 m0 m1 m2 f0 f1 f2) := ⟨_, _, _, _, _, _, (by rw [← hX6]; exact row_set HROW.out 14 _), (J0.out.off ht O0.out).sht.shv, (J1.out.off ht O1.out).sht.shv, (J2.out.off ht O2.out).sht.shv, (J3.out.off ht O3.out).sht.shv, (J4.out.off ht O4.out).sht.shv, (J5.out.off ht O5.out).sht.shv⟩
    have q0 := S_0.out
    have q1 := S_3.out
    have q2 := S_6.out
    have bA_7 := Lib.hid (bA_4.out.btn ht (by omega))
    have bR_8 := Lib.hid (bR_5.out.btn ht (by omega))
    have E_9 := Lib.hid (E_6.out.trans (ht.below (by omega) E_6.out.size))
    have S_9 := Lib.hid ht.size
    clear bA_4 bR_5 E_6 q0 q1 q2 ht
    clear hdl J0 J1 J2 J3 J4 J5 O0 O1 O2 O3 O4 O5
    go_wp2_with fail
    clear hX6 yk fk
    refine (diskStore_any d _ _ _ _ _ _ _ _ _ _ _ _ _ _ _ X6 HV.out).mono ?_; rintro e w7 ⟨r0, r1, r2, r3, r4, rfl, M, hb⟩
    clear HV HROW HDL HD0
    have bA_11 := Lib.hid (bA_7.out.keep hb)
    have bR_12 := Lib.hid (bR_8.out.keep hb)
    have E_13 := Lib.hid (E_9.out.trans (hb.mono E_9.out.size))
    have S_13 := Lib.hid hb.size
    clear bA_7 bR_8 E_9 hb
    obtain ⟨b0, e0, rfl⟩ := M.out.a.vls.form
    obtain ⟨b1, e1, rfl⟩ := M.out.b.vls.form
    obtain ⟨b2, e2, rfl⟩ := M.out.c.vls.form
    obtain ⟨b3, e3, rfl⟩ := M.out.d.vls.form
    obtain ⟨b4, e4, rfl⟩ := M.out.e.vls.form
    obtain ⟨x00, x01, x02, x03, x04, x05, x06, x07, x08, x09⟩ := bR_12.out
    obtain ⟨Z15, hZ15⟩ : ∃ X, (((((w7.setCell ⟨w.heap.size + 1, 0, none⟩ (.slice b0 (StT.n5 ⟨[n0, n1, n2], [u0, u1, u2], [l0, l1, l2], [m0, m1, m2], [f0, f1, f2]⟩).a e0)).setCell ⟨w.heap.size + 1, 1, none⟩ (.slice b1 (StT.n5 ⟨[n0, n1, n2], [u0, u1, u2], [l0, l1, l2], [m0, m1, m2], [f0, f1, f2]⟩).b e1)).setCell ⟨w.heap.size + 1, 2, none⟩ (.slice b2 (StT.n5 ⟨[n0, n1, n2], [u0, u1, u2], [l0, l1, l2], [m0, m1, m2], [f0, f1, f2]⟩).c e2)).setCell ⟨w.heap.size + 1, 3, none⟩ (.slice b3 (StT.n5 ⟨[n0, n1, n2], [u0, u1, u2], [l0, l1, l2], [m0, m1, m2], [f0, f1, f2]⟩).d e3)).setCell ⟨w.heap.size + 1, 4, none⟩ (.slice b4 (StT.n5 ⟨[n0, n1, n2], [u0, u1, u2], [l0, l1, l2], [m0, m1, m2], [f0, f1, f2]⟩).e e4)) = X := ⟨_, rfl⟩
    have hz : Box5W Z15 (w.heap.size + 1) (.slice b0 (StT.n5 ⟨[n0, n1, n2], [u0, u1, u2], [l0, l1, l2], [m0, m1, m2], [f0, f1, f2]⟩).a e0) (.slice b1 (StT.n5 ⟨[n0, n1, n2], [u0, u1, u2], [l0, l1, l2], [m0, m1, m2], [f0, f1, f2]⟩).b e1) (.slice b2 (StT.n5 ⟨[n0, n1, n2], [u0, u1, u2], [l0, l1, l2], [m0, m1, m2], [f0, f1, f2]⟩).c e2) (.slice b3 (StT.n5 ⟨[n0, n1, n2], [u0, u1, u2], [l0, l1, l2], [m0, m1, m2], [f0, f1, f2]⟩).d e3) (.slice b4 (StT.n5 ⟨[n0, n1, n2], [u0, u1, u2], [l0, l1, l2], [m0, m1, m2], [f0, f1, f2]⟩).e e4) := by rw [← hZ15]; exact ((((bR_12.out.set0 _).set1 _).set2 _).set3 _).set4 _
    have ht : Btn (w.heap.size + 1) (w.heap.size + 1 + 1) w7 Z15 := by rw [← hZ15]; exact ((((btn_set _ _ _ _).trans (btn_set _ _ _ _)).trans (btn_set _ _ _ _)).trans (btn_set _ _ _ _)).trans (btn_set _ _ _ _)
    have q0 := S_0.out
    have q1 := S_3.out
    have q2 := S_6.out
    have q3 := S_9.out
    have q4 := S_13.out
    have HZ : Hid (Below w.heap.size w Z15) := E_13.out.trans (ht.below (by omega) E_13.out.size)
    have hs := ht.size
    have HM : Hid (M5 Z15 w.heap.size Z15.heap.size (.slice b0 (StT.n5 ⟨[n0, n1, n2], [u0, u1, u2], [l0, l1, l2], [m0, m1, m2], [f0, f1, f2]⟩).a e0) (.slice b1 (StT.n5 ⟨[n0, n1, n2], [u0, u1, u2], [l0, l1, l2], [m0, m1, m2], [f0, f1, f2]⟩).b e1) (.slice b2 (StT.n5 ⟨[n0, n1, n2], [u0, u1, u2], [l0, l1, l2], [m0, m1, m2], [f0, f1, f2]⟩).c e2) (.slice b3 (StT.n5 ⟨[n0, n1, n2], [u0, u1, u2], [l0, l1, l2], [m0, m1, m2], [f0, f1, f2]⟩).d e3) (.slice b4 (StT.n5 ⟨[n0, n1, n2], [u0, u1, u2], [l0, l1, l2], [m0, m1, m2], [f0, f1, f2]⟩).e e4) (StT.n5 ⟨[n0, n1, n2], [u0, u1, u2], [l0, l1, l2], [m0, m1, m2], [f0, f1, f2]⟩) (StT.f5 ⟨[n0, n1, n2], [u0, u1, u2], [l0, l1, l2], [m0, m1, m2], [f0, f1, f2]⟩)) := (M.out.btn ht (.inr (by omega))).wide (by omega) (by omega)
    clear q0 q1 q2 q3 q4 ht hs
    go_wp2
    obtain ⟨t0, t1, t2, t3, t4, -, -, -, -, -⟩ := hz
    exact bodyPost_ret (v := .tuple #[.agg #[.slice b0 (StT.n5 ⟨[n0, n1, n2], [u0, u1, u2], [l0, l1, l2], [m0, m1, m2], [f0, f1, f2]⟩).a e0, .slice b1 (StT.n5 ⟨[n0, n1, n2], [u0, u1, u2], [l0, l1, l2], [m0, m1, m2], [f0, f1, f2]⟩).b e1, .slice b2 (StT.n5 ⟨[n0, n1, n2], [u0, u1, u2], [l0, l1, l2], [m0, m1, m2], [f0, f1, f2]⟩).c e2, .slice b3 (StT.n5 ⟨[n0, n1, n2], [u0, u1, u2], [l0, l1, l2], [m0, m1, m2], [f0, f1, f2]⟩).d e3, .slice b4 (StT.n5 ⟨[n0, n1, n2], [u0, u1, u2], [l0, l1, l2], [m0, m1, m2], [f0, f1, f2]⟩).e e4], .bool true]) (by simp [results, Try.results24, go_sem, t0, t1, t2, t3, t4]) rfl ⟨_, _, _, _, _, rfl, HM, HZ.out⟩
  · have hm2 : m = f2 := by omega
    clear hm
    subst m
    obtain ⟨X6, hX6⟩ : ∃ X, (w5.setCell ⟨d, 14, none⟩ (.int .i64 f2)) = X := ⟨_, rfl⟩
    have ht : Btn d (d + 1) w5 X6 := by rw [← hX6]; exact btn_set _ _ _ _
    have hdl := HDL.out
    have HV : Hid (Dsv X6 d n0 n1 n2 u0 u1 u2 l0 l1 l2 m0 m1 m2 f0 f1 f2) := ⟨_, _, _, _, _, _, (by rw [← hX6]; exact row_set HROW.out 14 _), (J0.out.off ht O0.out).sht.shv, (J1.out.off ht O1.out).sht.shv, (J2.out.off ht O2.out).sht.shv, (J3.out.off ht O3.out).sht.shv, (J4.out.off ht O4.out).sht.shv, (J5.out.off ht O5.out).sht.shv⟩
    have q0 := S_0.out
    have q1 := S_3.out
    have q2 := S_6.out
    have bA_7 := Lib.hid (bA_4.out.btn ht (by omega))
    have bR_8 := Lib.hid (bR_5.out.btn ht (by omega))
    have E_9 := Lib.hid (E_6.out.trans (ht.below (by omega) E_6.out.size))
    have S_9 := Lib.hid ht.size
    clear bA_4 bR_5 E_6 q0 q1 q2 ht
    clear hdl J0 J1 J2 J3 J4 J5 O0 O1 O2 O3 O4 O5
    go_wp2_with fail
    clear hX6 yk fk
    refine (diskStore_any d _ _ _ _ _ _ _ _ _ _ _ _ _ _ _ X6 HV.out).mono ?_; rintro e w7 ⟨r0, r1, r2, r3, r4, rfl, M, hb⟩
    clear HV HROW HDL HD0
    have bA_11 := Lib.hid (bA_7.out.keep hb)
    have bR_12 := Lib.hid (bR_8.out.keep hb)
    have E_13 := Lib.hid (E_9.out.trans (hb.mono E_9.out.size))
    have S_13 := Lib.hid hb.size
    clear bA_7 bR_8 E_9 hb
    obtain ⟨b0, e0, rfl⟩ := M.out.a.vls.form
    obtain ⟨b1, e1, rfl⟩ := M.out.b.vls.form
    obtain ⟨b2, e2, rfl⟩ := M.out.c.vls.form
    obtain ⟨b3, e3, rfl⟩ := M.out.d.vls.form
    obtain ⟨b4, e4, rfl⟩ := M.out.e.vls.form
    obtain ⟨x00, x01, x02, x03, x04, x05, x06, x07, x08, x09⟩ := bR_12.out
    obtain ⟨Z15, hZ15⟩ : ∃ X, (((((w7.setCell ⟨w.heap.size + 1, 0, none⟩ (.slice b0 (StT.n5 ⟨[n0, n1, n2], [u0, u1, u2], [l0, l1, l2], [m0, m1, m2], [f0, f1, f2]⟩).a e0)).setCell ⟨w.heap.size + 1, 1, none⟩ (.slice b1 (StT.n5 ⟨[n0, n1, n2], [u0, u1, u2], [l0, l1, l2], [m0, m1, m2], [f0, f1, f2]⟩).b e1)).setCell ⟨w.heap.size + 1, 2, none⟩ (.slice b2 (StT.n5 ⟨[n0, n1, n2], [u0, u1, u2], [l0, l1, l2], [m0, m1, m2], [f0, f1, f2]⟩).c e2)).setCell ⟨w.heap.size + 1, 3, none⟩ (.slice b3 (StT.n5 ⟨[n0, n1, n2], [u0, u1, u2], [l0, l1, l2], [m0, m1, m2], [f0, f1, f2]⟩).d e3)).setCell ⟨w.heap.size + 1, 4, none⟩ (.slice b4 (StT.n5 ⟨[n0, n1, n2], [u0, u1, u2], [l0, l1, l2], [m0, m1, m2], [f0, f1, f2]⟩).e e4)) = X := ⟨_, rfl⟩
    have hz : Box5W Z15 (w.heap.size + 1) (.slice b0 (StT.n5 ⟨[n0, n1, n2], [u0, u1, u2], [l0, l1, l2], [m0, m1, m2], [f0, f1, f2]⟩).a e0) (.slice b1 (StT.n5 ⟨[n0, n1, n2], [u0, u1, u2], [l0, l1, l2], [m0, m1, m2], [f0, f1, f2]⟩).b e1) (.slice b2 (StT.n5 ⟨[n0, n1, n2], [u0, u1, u2], [l0, l1, l2], [m0, m1, m2], [f0, f1, f2]⟩).c e2) (.slice b3 (StT.n5 ⟨[n0, n1, n2], [u0, u1, u2], [l0, l1, l2], [m0, m1, m2], [f0, f1, f2]⟩).d e3) (.slice b4 (StT.n5 ⟨[n0, n1, n2], [u0, u1, u2], [l0, l1, l2], [m0, m1, m2], [f0, f1, f2]⟩).e e4) := by rw [← hZ15]; exact ((((bR_12.out.set0 _).set1 _).set2 _).set3 _).set4 _
    have ht : Btn (w.heap.size + 1) (w.heap.size + 1 + 1) w7 Z15 := by rw [← hZ15]; exact ((((btn_set _ _ _ _).trans (btn_set _ _ _ _)).trans (btn_set _ _ _ _)).trans (btn_set _ _ _ _)).trans (btn_set _ _ _ _)
    have q0 := S_0.out
    have q1 := S_3.out
    have q2 := S_6.out
    have q3 := S_9.out
    have q4 := S_13.out
    have HZ : Hid (Below w.heap.size w Z15) := E_13.out.trans (ht.below (by omega) E_13.out.size)
    have hs := ht.size
    have HM : Hid (M5 Z15 w.heap.size Z15.heap.size (.slice b0 (StT.n5 ⟨[n0, n1, n2], [u0, u1, u2], [l0, l1, l2], [m0, m1, m2], [f0, f1, f2]⟩).a e0) (.slice b1 (StT.n5 ⟨[n0, n1, n2], [u0, u1, u2], [l0, l1, l2], [m0, m1, m2], [f0, f1, f2]⟩).b e1) (.slice b2 (StT.n5 ⟨[n0, n1, n2], [u0, u1, u2], [l0, l1, l2], [m0, m1, m2], [f0, f1, f2]⟩).c e2) (.slice b3 (StT.n5 ⟨[n0, n1, n2], [u0, u1, u2], [l0, l1, l2], [m0, m1, m2], [f0, f1, f2]⟩).d e3) (.slice b4 (StT.n5 ⟨[n0, n1, n2], [u0, u1, u2], [l0, l1, l2], [m0, m1, m2], [f0, f1, f2]⟩).e e4) (StT.n5 ⟨[n0, n1, n2], [u0, u1, u2], [l0, l1, l2], [m0, m1, m2], [f0, f1, f2]⟩) (StT.f5 ⟨[n0, n1, n2], [u0, u1, u2], [l0, l1, l2], [m0, m1, m2], [f0, f1, f2]⟩)) := (M.out.btn ht (.inr (by omega))).wide (by omega) (by omega)
    clear q0 q1 q2 q3 q4 ht hs
    go_wp2
    obtain ⟨t0, t1, t2, t3, t4, -, -, -, -, -⟩ := hz
    exact bodyPost_ret (v := .tuple #[.agg #[.slice b0 (StT.n5 ⟨[n0, n1, n2], [u0, u1, u2], [l0, l1, l2], [m0, m1, m2], [f0, f1, f2]⟩).a e0, .slice b1 (StT.n5 ⟨[n0, n1, n2], [u0, u1, u2], [l0, l1, l2], [m0, m1, m2], [f0, f1, f2]⟩).b e1, .slice b2 (StT.n5 ⟨[n0, n1, n2], [u0, u1, u2], [l0, l1, l2], [m0, m1, m2], [f0, f1, f2]⟩).c e2, .slice b3 (StT.n5 ⟨[n0, n1, n2], [u0, u1, u2], [l0, l1, l2], [m0, m1, m2], [f0, f1, f2]⟩).d e3, .slice b4 (StT.n5 ⟨[n0, n1, n2], [u0, u1, u2], [l0, l1, l2], [m0, m1, m2], [f0, f1, f2]⟩).e e4], .bool true]) (by simp [results, Try.results24, go_sem, t0, t1, t2, t3, t4]) rfl ⟨_, _, _, _, _, rfl, HM, HZ.out⟩

theorem implFence_any (v0 v1 v2 v3 v4 : Value) (S : StT) (who ep : Int) (w : World) (h : Sto w v0 v1 v2 v3 v4 S) (hz : szT S) : Calls Try.prog 24 #[.agg #[v0, v1, v2, v3, v4], .int .i64 who, .int .i64 ep] w (ToSB w (fenT S who ep) (fenB S who ep)) := by
  unfold fenT fenB
  by_cases hq : stOkB S = true
  · by_cases h1 : cliB who = true
    · by_cases h2 : epoB ep = true
      · rw [hq, h1, h2]
        obtain ⟨k0, k1⟩ : 0 ≤ who ∧ who < 3 := of_decide_eq_true h1
        obtain rfl | rfl | rfl : who = 0 ∨ who = 1 ∨ who = 2 := by omega
        · exact implFence_0 _ _ _ _ _ S ep w h hz hq h2
        · exact implFence_1 _ _ _ _ _ S ep w h hz hq h2
        · exact implFence_2 _ _ _ _ _ S ep w h hz hq h2
      · have h2 : epoB ep = false := by simpa using h2
        rw [hq, h1, h2]; exact implFence_ep _ _ _ _ _ S who ep w h hz hq h1 h2
    · have h1 : cliB who = false := by simpa using h1
      rw [hq, h1]; exact implFence_cli _ _ _ _ _ S who ep w h hz hq h1
  · have hq : stOkB S = false := by simpa using hq
    rw [hq]; exact implFence_no _ _ _ _ _ S who ep w h hz hq

end Go.Proofs.Ytamhndnfaaifcaa
