/-
  The model's StoreFence.
-/
import Derived.Test.YtadoihddmbbjoaaDoorKStoFenB
import Derived.StillTailTactics
namespace Go.Proofs.YtadoihddmbbjoaaDoor
open Go.RowKit

set_option maxRecDepth 100000 in
set_option maxHeartbeats 3000000 in
theorem specFence_0 (v0 v1 v2 v3 v4 : Value) (S : StT) (ep : Int) (w : World) (h : Sto w v0 v1 v2 v3 v4 S) (hz : szT S) (hn : S.n5.le) (hq : stOkB S = true) (hE0 : 0 ≤ ep) (hE1 : ep ≤ 100) :
    Calls Tryd.prog 67 #[.agg #[v0, v1, v2, v3, v4], .int .i64 0, .int .i64 ep] w (ToSB w ⟨S.now, S.sure, S.last, S.slast, S.floors.set 0 (max (S.floors.getD 0 0) ep)⟩ true) := by
  obtain ⟨z0, z1, z2, z3, z4⟩ := stOk_lens hq
  obtain ⟨N, U, L, M, F⟩ := S
  obtain ⟨n0, n1, n2, rfl⟩ := three z0
  obtain ⟨u0, u1, u2, rfl⟩ := three z1
  obtain ⟨l0, l1, l2, rfl⟩ := three z2
  obtain ⟨m0, m1, m2, rfl⟩ := three z3
  obtain ⟨f0, f1, f2, rfl⟩ := three z4
  clear z0 z1 z2 z3 z4
  obtain ⟨m, hm⟩ : ∃ m, m = max f0 ep := ⟨_, rfl⟩
  have hres : StT.mk [n0, n1, n2] [u0, u1, u2] [l0, l1, l2] [m0, m1, m2] ([f0, f1, f2].set 0 (max ([f0, f1, f2].getD 0 0) ep)) = ⟨[n0, n1, n2], [u0, u1, u2], [l0, l1, l2], [m0, m1, m2], [m, f1, f2]⟩ := by rw [hm]; rfl
  change Calls _ _ _ _ (ToSB w (StT.mk [n0, n1, n2] [u0, u1, u2] [l0, l1, l2] [m0, m1, m2] ([f0, f1, f2].set 0 (max ([f0, f1, f2].getD 0 0) ep))) true)
  rw [hres]
  clear hres
  have KM := Lib.hid (fun w => lmaxS f0 ep w)
  rw [show mxV f0 ep = m by rw [hm]; unfold mxV; split <;> omega] at KM
  clear hm
  have g1 : decide (ep < 0) = false := by simp; omega
  have g2 : decide (100 < ep) = false := by simp; omega
  obtain ⟨a0, c0, rfl⟩ := h.now.form
  obtain ⟨a1, c1, rfl⟩ := h.sure.form
  obtain ⟨a2, c2, rfl⟩ := h.last.form
  obtain ⟨a3, c3, rfl⟩ := h.slast.form
  obtain ⟨a4, c4, rfl⟩ := h.floors.form
  obtain ⟨W, hW⟩ : ∃ W, (w.alloc (.cells #[.slice a0 3 c0, .slice a1 3 c1, .slice a2 3 c2, .slice a3 3 c3, .slice a4 3 c4] 30)).alloc (.cells #[.slice none 0 0, .slice none 0 0, .slice none 0 0, .slice none 0 0, .slice none 0 0] 30) = W := ⟨_, rfl⟩
  have hal : Below w.heap.size w W := by rw [← hW]; exact ((Below.refl _ _).alloc (Nat.le_refl _) _).alloc (by simp) _
  have A0 : Box5 W w.heap.size (.slice a0 3 c0) (.slice a1 3 c1) (.slice a2 3 c2) (.slice a3 3 c3) (.slice a4 3 c4) := by rw [← hW]; exact (new_box5 w _ _ _ _ _ _).keep ((Below.refl _ _).alloc (Nat.le_refl _) _)
  have R0 : Box5W W (w.heap.size + 1) (.slice none 0 0) (.slice none 0 0) (.slice none 0 0) (.slice none 0 0) (.slice none 0 0) := by
    rw [← hW]
    have := new_box5W (w.alloc (.cells #[.slice a0 3 c0, .slice a1 3 c1, .slice a2 3 c2, .slice a3 3 c3, .slice a4 3 c4] 30)) (.slice none 0 0) (.slice none 0 0) (.slice none 0 0) (.slice none 0 0) (.slice none 0 0) 30
    simpa using this
  have hl : w.heap.size + 1 < W.heap.size := by rw [← hW]; simp
  have E_0 := Lib.hid hal
  have S_0 := Lib.hid hl
  have bA_0 := Lib.hid A0
  have bR_0 := Lib.hid R0
  have K0 := specStoreOk_any _ _ _ _ _ ⟨[n0, n1, n2], [u0, u1, u2], [l0, l1, l2], [m0, m1, m2], [f0, f1, f2]⟩ W (h.keep hal) hz
  rw [hq] at K0
  have K := Lib.hid K0
  have HH := Lib.hid h
  have HN := Lib.hid hn
  clear h hz hq hal A0 R0 hl K0 hn
  obtain ⟨x00, x01, x02, x03, x04⟩ := bA_0.out
  go_enter Tryd.func67, Tryd.ntmps67
  go_wp2_with fail
  clear hW
  refine K.out.mono ?_; rintro e w1 ⟨rfl, hb⟩
  have bA_1 := Lib.hid (bA_0.out.keep hb)
  have bR_2 := Lib.hid (bR_0.out.keep hb)
  have E_3 := Lib.hid (E_0.out.trans (hb.mono E_0.out.size))
  have S_3 := Lib.hid hb.size
  clear x00 x01 x02 x03 x04
  clear bA_0 bR_0 E_0 hb
  clear K
  obtain ⟨x00, x01, x02, x03, x04⟩ := bA_1.out
  go_wp2_with fail
  refine (l5Copy_any _ _ _ _ _ ⟨[n0, n1, n2], [u0, u1, u2], [l0, l1, l2], [m0, m1, m2], [f0, f1, f2]⟩ w1 (HH.out.keep E_3.out) HN.out).mono ?_; rintro e w2 ⟨x0, x1, x2, x3, x4, rfl, M, hb⟩
  have bA_4 := Lib.hid (bA_1.out.keep hb)
  have bR_5 := Lib.hid (bR_2.out.keep hb)
  have E_6 := Lib.hid (E_3.out.trans (hb.mono E_3.out.size))
  have S_6 := Lib.hid hb.size
  clear x00 x01 x02 x03 x04
  clear bA_1 bR_2 E_3 hb
  have m_7 := M
  clear M
  obtain ⟨b0, e0, rfl⟩ := m_7.out.a.vls.form
  obtain ⟨b1, e1, rfl⟩ := m_7.out.b.vls.form
  obtain ⟨b2, e2, rfl⟩ := m_7.out.c.vls.form
  obtain ⟨b3, e3, rfl⟩ := m_7.out.d.vls.form
  obtain ⟨g4, e4, rfl⟩ : ∃ g c, x4 = .slice (some ⟨g, 0, none⟩) 3 c := by
    obtain ⟨g, c, h, -, -⟩ := m_7.out.e.at (show 0 < 3 by omega)
    exact ⟨g, c, h⟩
  obtain ⟨X3, hX3⟩ : ∃ X, w2.alloc (.cells #[.slice b0 (StT.n5 ⟨[n0, n1, n2], [u0, u1, u2], [l0, l1, l2], [m0, m1, m2], [f0, f1, f2]⟩).a e0, .slice b1 (StT.n5 ⟨[n0, n1, n2], [u0, u1, u2], [l0, l1, l2], [m0, m1, m2], [f0, f1, f2]⟩).b e1, .slice b2 (StT.n5 ⟨[n0, n1, n2], [u0, u1, u2], [l0, l1, l2], [m0, m1, m2], [f0, f1, f2]⟩).c e2, .slice b3 (StT.n5 ⟨[n0, n1, n2], [u0, u1, u2], [l0, l1, l2], [m0, m1, m2], [f0, f1, f2]⟩).d e3, .slice (some ⟨g4, 0, none⟩) 3 e4] 30) = X := ⟨_, rfl⟩
  have hb : Below w2.heap.size w2 X3 := by rw [← hX3]; exact (Below.refl _ _).alloc (Nat.le_refl _) _
  have hB : Box5W X3 w2.heap.size (.slice b0 (StT.n5 ⟨[n0, n1, n2], [u0, u1, u2], [l0, l1, l2], [m0, m1, m2], [f0, f1, f2]⟩).a e0) (.slice b1 (StT.n5 ⟨[n0, n1, n2], [u0, u1, u2], [l0, l1, l2], [m0, m1, m2], [f0, f1, f2]⟩).b e1) (.slice b2 (StT.n5 ⟨[n0, n1, n2], [u0, u1, u2], [l0, l1, l2], [m0, m1, m2], [f0, f1, f2]⟩).c e2) (.slice b3 (StT.n5 ⟨[n0, n1, n2], [u0, u1, u2], [l0, l1, l2], [m0, m1, m2], [f0, f1, f2]⟩).d e3) (.slice (some ⟨g4, 0, none⟩) 3 e4) := by rw [← hX3]; exact new_box5W _ _ _ _ _ _ _
  have hl : w2.heap.size < X3.heap.size := by rw [← hX3]; simp
  have bA_8 := Lib.hid (bA_4.out.keep hb)
  have bR_9 := Lib.hid (bR_5.out.keep hb)
  have m_10 := Lib.hid (m_7.out.keep hb)
  have E_11 := Lib.hid (E_6.out.trans (hb.mono E_6.out.size))
  have S_11 := Lib.hid hb.size
  clear bA_4 bR_5 m_7 E_6 hb
  have bX_12 := Lib.hid hB
  have S_12b := Lib.hid hl
  clear hB hl
  obtain ⟨x00, x01, x02, x03, x04, x05, x06, x07, x08, x09⟩ := bX_12.out
  go_wp2_with fail
  clear hX3
  have KW := Lib.hid (l4WhoV_any 0 X3)
  rw [show cliB 0 = true from by decide] at KW
  refine KW.out.mono ?_; rintro e w4 ⟨rfl, hb⟩
  clear KW
  have bA_13 := Lib.hid (bA_8.out.keep hb)
  have bR_14 := Lib.hid (bR_9.out.keep hb)
  have m_15 := Lib.hid (m_10.out.keep hb)
  have bX_16 := Lib.hid (bX_12.out.keep hb)
  have E_17 := Lib.hid (E_11.out.trans (hb.mono E_11.out.size))
  have S_17 := Lib.hid hb.size
  clear x00 x01 x02 x03 x04 x05 x06 x07 x08 x09
  clear bA_8 bR_9 m_10 bX_12 E_11 hb
  obtain ⟨x00, x01, x02, x03, x04, x05, x06, x07, x08, x09⟩ := bX_16.out
  go_wp2_with fail
  clear g1 g2
  have hrow4 : Row1 w4 g4 3 (intF [f0, f1, f2]) := by
    obtain ⟨g', c', q', hr, -⟩ := m_15.out.e.at (show 0 < 3 by omega)
    injection q' with q1
    injection q1 with q2
    injection q2 with q3
    rw [q3]; exact hr
  have yk4 : w4.cell? ⟨g4, 0, none⟩ = some (.int .i64 f0) := (hrow4 0 (by omega)).1
  go_still_tail 11, (by kernel_rfl)
  still_call (KM.out _)
  repeat still_step
  refine wpStill_nil ?_
  change wpList _ _ _ _ _ w4.drew
  clear KM hrow4 yk4
  have hdr : Below w4.heap.size w4 w4.drew := (Below.refl _ _).drew
  obtain ⟨w5, hw5⟩ : ∃ X, w4.drew = X := ⟨_, rfl⟩
  rw [hw5] at hdr
  rw [hw5]
  clear hw5
  have bA_18 := Lib.hid (bA_13.out.keep hdr)
  have bR_19 := Lib.hid (bR_14.out.keep hdr)
  have m_20 := Lib.hid (m_15.out.keep hdr)
  have bX_21 := Lib.hid (bX_16.out.keep hdr)
  have E_22 := Lib.hid (E_17.out.trans (hdr.mono E_17.out.size))
  have S_22 := Lib.hid hdr.size
  clear x00 x01 x02 x03 x04 x05 x06 x07 x08 x09
  clear bA_13 bR_14 m_15 bX_16 E_17 hdr
  have hrow : Row1 w5 g4 3 (intF [f0, f1, f2]) := by
    obtain ⟨g', c', q', hr, -⟩ := m_20.out.e.at (show 0 < 3 by omega)
    injection q' with q1
    injection q1 with q2
    injection q2 with q3
    rw [q3]; exact hr
  have hg := m_20.out.e.bnd g4 rfl
  have yk : w5.cell? ⟨g4, 0, none⟩ = some (.int .i64 f0) := (hrow 0 (by omega)).1
  have fk := (hrow 0 (by omega)).2
  obtain ⟨X6, hX6⟩ : ∃ X, w5.setCell ⟨g4, 0, none⟩ (.int .i64 m) = X := ⟨_, rfl⟩
  have ht : Btn g4 (g4 + 1) w5 X6 := by rw [← hX6]; exact btn_set _ _ _ _
  have hrow6 : Row1 X6 g4 3 (intF [m, f1, f2]) := by
    rw [← hX6]
    refine (hrow.set (k := 0) (by omega)).congr (fun i hi => ?_)
    obtain rfl | rfl | rfl : i = 0 ∨ i = 1 ∨ i = 2 := by omega
    all_goals rfl
  have M6 : M5 X6 w1.heap.size w2.heap.size (.slice b0 (StT.n5 ⟨[n0, n1, n2], [u0, u1, u2], [l0, l1, l2], [m0, m1, m2], [f0, f1, f2]⟩).a e0) (.slice b1 (StT.n5 ⟨[n0, n1, n2], [u0, u1, u2], [l0, l1, l2], [m0, m1, m2], [f0, f1, f2]⟩).b e1) (.slice b2 (StT.n5 ⟨[n0, n1, n2], [u0, u1, u2], [l0, l1, l2], [m0, m1, m2], [f0, f1, f2]⟩).c e2) (.slice b3 (StT.n5 ⟨[n0, n1, n2], [u0, u1, u2], [l0, l1, l2], [m0, m1, m2], [f0, f1, f2]⟩).d e3) (.slice (some ⟨g4, 0, none⟩) 3 e4) (StT.n5 ⟨[n0, n1, n2], [u0, u1, u2], [l0, l1, l2], [m0, m1, m2], [m, f1, f2]⟩) (StT.f5 ⟨[n0, n1, n2], [u0, u1, u2], [l0, l1, l2], [m0, m1, m2], [m, f1, f2]⟩) := m5_sete (m_20.out) ht (Mk1.of_row hrow6 hg.1 hg.2 (by have := m_20.out.e.vls; obtain ⟨_, _, q, q2, q3, -⟩ := this; injection q with _ _ q4; rw [q4]; exact q2) (by have := m_20.out.e.vls; obtain ⟨_, _, q, q2, q3, -⟩ := this; injection q with _ _ q4; rw [q4]; exact q3))
  have M6' := Lib.hid M6
  clear M6 hrow hrow6
  have cX := bX_21.out
  have cR := bR_19.out
  have q0 := S_0.out
  have q1 := S_3.out
  have q2 := S_6.out
  have q3 := S_11.out
  have q4 := S_12b.out
  have q5 := S_17.out
  have q6 := S_22.out
  have bA_23 := Lib.hid (bA_18.out.btn ht (by omega))
  have bR_24 := Lib.hid (bR_19.out.btn ht (by omega))
  have bX_25 := Lib.hid (bX_21.out.btn ht (by omega))
  have E_26 := Lib.hid (E_22.out.trans (ht.below (by omega) E_22.out.size))
  have S_26 := Lib.hid ht.size
  clear bA_18 bR_19 bX_21 E_22 q0 q1 q2 q3 q4 q5 q6 ht
  have m_27 := M6'
  clear M6' m_20 cX cR hg
  obtain ⟨yy0, yy1, yy2, yy3, yy4, -, -, -, -, -⟩ := bX_25.out
  obtain ⟨t0, t1, t2, t3, t4, f0', f1', f2', f3', f4'⟩ := bR_24.out
  obtain ⟨Z28, hZ28⟩ : ∃ X, (((((X6.setCell ⟨w.heap.size + 1, 0, none⟩ (.slice b0 (StT.n5 ⟨[n0, n1, n2], [u0, u1, u2], [l0, l1, l2], [m0, m1, m2], [f0, f1, f2]⟩).a e0)).setCell ⟨w.heap.size + 1, 1, none⟩ (.slice b1 (StT.n5 ⟨[n0, n1, n2], [u0, u1, u2], [l0, l1, l2], [m0, m1, m2], [f0, f1, f2]⟩).b e1)).setCell ⟨w.heap.size + 1, 2, none⟩ (.slice b2 (StT.n5 ⟨[n0, n1, n2], [u0, u1, u2], [l0, l1, l2], [m0, m1, m2], [f0, f1, f2]⟩).c e2)).setCell ⟨w.heap.size + 1, 3, none⟩ (.slice b3 (StT.n5 ⟨[n0, n1, n2], [u0, u1, u2], [l0, l1, l2], [m0, m1, m2], [f0, f1, f2]⟩).d e3)).setCell ⟨w.heap.size + 1, 4, none⟩ (.slice (some ⟨g4, 0, none⟩) 3 e4)) = X := ⟨_, rfl⟩
  have hz : Box5W Z28 (w.heap.size + 1) (.slice b0 (StT.n5 ⟨[n0, n1, n2], [u0, u1, u2], [l0, l1, l2], [m0, m1, m2], [f0, f1, f2]⟩).a e0) (.slice b1 (StT.n5 ⟨[n0, n1, n2], [u0, u1, u2], [l0, l1, l2], [m0, m1, m2], [f0, f1, f2]⟩).b e1) (.slice b2 (StT.n5 ⟨[n0, n1, n2], [u0, u1, u2], [l0, l1, l2], [m0, m1, m2], [f0, f1, f2]⟩).c e2) (.slice b3 (StT.n5 ⟨[n0, n1, n2], [u0, u1, u2], [l0, l1, l2], [m0, m1, m2], [f0, f1, f2]⟩).d e3) (.slice (some ⟨g4, 0, none⟩) 3 e4) := by rw [← hZ28]; exact ((((bR_24.out.set0 _).set1 _).set2 _).set3 _).set4 _
  have ht : Btn (w.heap.size + 1) (w.heap.size + 1 + 1) X6 Z28 := by rw [← hZ28]; exact ((((btn_set _ _ _ _).trans (btn_set _ _ _ _)).trans (btn_set _ _ _ _)).trans (btn_set _ _ _ _)).trans (btn_set _ _ _ _)
  have q0 := S_0.out
  have q1 := S_3.out
  have q2 := S_6.out
  have q3 := S_11.out
  have q4 := S_12b.out
  have q5 := S_17.out
  have q6 := S_22.out
  have q7 := S_26.out
  have HZ : Hid (Below w.heap.size w Z28) := E_26.out.trans (ht.below (by omega) E_26.out.size)
  have hs := ht.size
  have HM : Hid (M5 Z28 w.heap.size Z28.heap.size (.slice b0 (StT.n5 ⟨[n0, n1, n2], [u0, u1, u2], [l0, l1, l2], [m0, m1, m2], [f0, f1, f2]⟩).a e0) (.slice b1 (StT.n5 ⟨[n0, n1, n2], [u0, u1, u2], [l0, l1, l2], [m0, m1, m2], [f0, f1, f2]⟩).b e1) (.slice b2 (StT.n5 ⟨[n0, n1, n2], [u0, u1, u2], [l0, l1, l2], [m0, m1, m2], [f0, f1, f2]⟩).c e2) (.slice b3 (StT.n5 ⟨[n0, n1, n2], [u0, u1, u2], [l0, l1, l2], [m0, m1, m2], [f0, f1, f2]⟩).d e3) (.slice (some ⟨g4, 0, none⟩) 3 e4) (StT.n5 ⟨[n0, n1, n2], [u0, u1, u2], [l0, l1, l2], [m0, m1, m2], [m, f1, f2]⟩) (StT.f5 ⟨[n0, n1, n2], [u0, u1, u2], [l0, l1, l2], [m0, m1, m2], [m, f1, f2]⟩)) := (m_27.out.btn ht (.inr (by omega))).wide (by omega) (by omega)
  clear q0 q1 q2 q3 q4 q5 q6 q7 ht hs
  go_wp2
  obtain ⟨t0, t1, t2, t3, t4, -, -, -, -, -⟩ := hz
  exact bodyPost_ret (v := .tuple #[.agg #[.slice b0 (StT.n5 ⟨[n0, n1, n2], [u0, u1, u2], [l0, l1, l2], [m0, m1, m2], [f0, f1, f2]⟩).a e0, .slice b1 (StT.n5 ⟨[n0, n1, n2], [u0, u1, u2], [l0, l1, l2], [m0, m1, m2], [f0, f1, f2]⟩).b e1, .slice b2 (StT.n5 ⟨[n0, n1, n2], [u0, u1, u2], [l0, l1, l2], [m0, m1, m2], [f0, f1, f2]⟩).c e2, .slice b3 (StT.n5 ⟨[n0, n1, n2], [u0, u1, u2], [l0, l1, l2], [m0, m1, m2], [f0, f1, f2]⟩).d e3, .slice (some ⟨g4, 0, none⟩) 3 e4], .bool true]) (by simp [results, Tryd.results67, go_sem, t0, t1, t2, t3, t4]) rfl ⟨_, _, _, _, _, rfl, HM, HZ.out⟩

set_option maxRecDepth 100000 in
set_option maxHeartbeats 3000000 in
theorem specFence_1 (v0 v1 v2 v3 v4 : Value) (S : StT) (ep : Int) (w : World) (h : Sto w v0 v1 v2 v3 v4 S) (hz : szT S) (hn : S.n5.le) (hq : stOkB S = true) (hE0 : 0 ≤ ep) (hE1 : ep ≤ 100) :
    Calls Tryd.prog 67 #[.agg #[v0, v1, v2, v3, v4], .int .i64 1, .int .i64 ep] w (ToSB w ⟨S.now, S.sure, S.last, S.slast, S.floors.set 1 (max (S.floors.getD 1 0) ep)⟩ true) := by
  obtain ⟨z0, z1, z2, z3, z4⟩ := stOk_lens hq
  obtain ⟨N, U, L, M, F⟩ := S
  obtain ⟨n0, n1, n2, rfl⟩ := three z0
  obtain ⟨u0, u1, u2, rfl⟩ := three z1
  obtain ⟨l0, l1, l2, rfl⟩ := three z2
  obtain ⟨m0, m1, m2, rfl⟩ := three z3
  obtain ⟨f0, f1, f2, rfl⟩ := three z4
  clear z0 z1 z2 z3 z4
  obtain ⟨m, hm⟩ : ∃ m, m = max f1 ep := ⟨_, rfl⟩
  have hres : StT.mk [n0, n1, n2] [u0, u1, u2] [l0, l1, l2] [m0, m1, m2] ([f0, f1, f2].set 1 (max ([f0, f1, f2].getD 1 0) ep)) = ⟨[n0, n1, n2], [u0, u1, u2], [l0, l1, l2], [m0, m1, m2], [f0, m, f2]⟩ := by rw [hm]; rfl
  change Calls _ _ _ _ (ToSB w (StT.mk [n0, n1, n2] [u0, u1, u2] [l0, l1, l2] [m0, m1, m2] ([f0, f1, f2].set 1 (max ([f0, f1, f2].getD 1 0) ep))) true)
  rw [hres]
  clear hres
  have KM := Lib.hid (fun w => lmaxS f1 ep w)
  rw [show mxV f1 ep = m by rw [hm]; unfold mxV; split <;> omega] at KM
  clear hm
  have g1 : decide (ep < 0) = false := by simp; omega
  have g2 : decide (100 < ep) = false := by simp; omega
  obtain ⟨a0, c0, rfl⟩ := h.now.form
  obtain ⟨a1, c1, rfl⟩ := h.sure.form
  obtain ⟨a2, c2, rfl⟩ := h.last.form
  obtain ⟨a3, c3, rfl⟩ := h.slast.form
  obtain ⟨a4, c4, rfl⟩ := h.floors.form
  obtain ⟨W, hW⟩ : ∃ W, (w.alloc (.cells #[.slice a0 3 c0, .slice a1 3 c1, .slice a2 3 c2, .slice a3 3 c3, .slice a4 3 c4] 30)).alloc (.cells #[.slice none 0 0, .slice none 0 0, .slice none 0 0, .slice none 0 0, .slice none 0 0] 30) = W := ⟨_, rfl⟩
  have hal : Below w.heap.size w W := by rw [← hW]; exact ((Below.refl _ _).alloc (Nat.le_refl _) _).alloc (by simp) _
  have A0 : Box5 W w.heap.size (.slice a0 3 c0) (.slice a1 3 c1) (.slice a2 3 c2) (.slice a3 3 c3) (.slice a4 3 c4) := by rw [← hW]; exact (new_box5 w _ _ _ _ _ _).keep ((Below.refl _ _).alloc (Nat.le_refl _) _)
  have R0 : Box5W W (w.heap.size + 1) (.slice none 0 0) (.slice none 0 0) (.slice none 0 0) (.slice none 0 0) (.slice none 0 0) := by
    rw [← hW]
    have := new_box5W (w.alloc (.cells #[.slice a0 3 c0, .slice a1 3 c1, .slice a2 3 c2, .slice a3 3 c3, .slice a4 3 c4] 30)) (.slice none 0 0) (.slice none 0 0) (.slice none 0 0) (.slice none 0 0) (.slice none 0 0) 30
    simpa using this
  have hl : w.heap.size + 1 < W.heap.size := by rw [← hW]; simp
  have E_0 := Lib.hid hal
  have S_0 := Lib.hid hl
  have bA_0 := Lib.hid A0
  have bR_0 := Lib.hid R0
  have K0 := specStoreOk_any _ _ _ _ _ ⟨[n0, n1, n2], [u0, u1, u2], [l0, l1, l2], [m0, m1, m2], [f0, f1, f2]⟩ W (h.keep hal) hz
  rw [hq] at K0
  have K := Lib.hid K0
  have HH := Lib.hid h
  have HN := Lib.hid hn
  clear h hz hq hal A0 R0 hl K0 hn
  obtain ⟨x00, x01, x02, x03, x04⟩ := bA_0.out
  go_enter Tryd.func67, Tryd.ntmps67
  go_wp2_with fail
  clear hW
  refine K.out.mono ?_; rintro e w1 ⟨rfl, hb⟩
  have bA_1 := Lib.hid (bA_0.out.keep hb)
  have bR_2 := Lib.hid (bR_0.out.keep hb)
  have E_3 := Lib.hid (E_0.out.trans (hb.mono E_0.out.size))
  have S_3 := Lib.hid hb.size
  clear x00 x01 x02 x03 x04
  clear bA_0 bR_0 E_0 hb
  clear K
  obtain ⟨x00, x01, x02, x03, x04⟩ := bA_1.out
  go_wp2_with fail
  refine (l5Copy_any _ _ _ _ _ ⟨[n0, n1, n2], [u0, u1, u2], [l0, l1, l2], [m0, m1, m2], [f0, f1, f2]⟩ w1 (HH.out.keep E_3.out) HN.out).mono ?_; rintro e w2 ⟨x0, x1, x2, x3, x4, rfl, M, hb⟩
  have bA_4 := Lib.hid (bA_1.out.keep hb)
  have bR_5 := Lib.hid (bR_2.out.keep hb)
  have E_6 := Lib.hid (E_3.out.trans (hb.mono E_3.out.size))
  have S_6 := Lib.hid hb.size
  clear x00 x01 x02 x03 x04
  clear bA_1 bR_2 E_3 hb
  have m_7 := M
  clear M
  obtain ⟨b0, e0, rfl⟩ := m_7.out.a.vls.form
  obtain ⟨b1, e1, rfl⟩ := m_7.out.b.vls.form
  obtain ⟨b2, e2, rfl⟩ := m_7.out.c.vls.form
  obtain ⟨b3, e3, rfl⟩ := m_7.out.d.vls.form
  obtain ⟨g4, e4, rfl⟩ : ∃ g c, x4 = .slice (some ⟨g, 0, none⟩) 3 c := by
    obtain ⟨g, c, h, -, -⟩ := m_7.out.e.at (show 0 < 3 by omega)
    exact ⟨g, c, h⟩
  obtain ⟨X3, hX3⟩ : ∃ X, w2.alloc (.cells #[.slice b0 (StT.n5 ⟨[n0, n1, n2], [u0, u1, u2], [l0, l1, l2], [m0, m1, m2], [f0, f1, f2]⟩).a e0, .slice b1 (StT.n5 ⟨[n0, n1, n2], [u0, u1, u2], [l0, l1, l2], [m0, m1, m2], [f0, f1, f2]⟩).b e1, .slice b2 (StT.n5 ⟨[n0, n1, n2], [u0, u1, u2], [l0, l1, l2], [m0, m1, m2], [f0, f1, f2]⟩).c e2, .slice b3 (StT.n5 ⟨[n0, n1, n2], [u0, u1, u2], [l0, l1, l2], [m0, m1, m2], [f0, f1, f2]⟩).d e3, .slice (some ⟨g4, 0, none⟩) 3 e4] 30) = X := ⟨_, rfl⟩
  have hb : Below w2.heap.size w2 X3 := by rw [← hX3]; exact (Below.refl _ _).alloc (Nat.le_refl _) _
  have hB : Box5W X3 w2.heap.size (.slice b0 (StT.n5 ⟨[n0, n1, n2], [u0, u1, u2], [l0, l1, l2], [m0, m1, m2], [f0, f1, f2]⟩).a e0) (.slice b1 (StT.n5 ⟨[n0, n1, n2], [u0, u1, u2], [l0, l1, l2], [m0, m1, m2], [f0, f1, f2]⟩).b e1) (.slice b2 (StT.n5 ⟨[n0, n1, n2], [u0, u1, u2], [l0, l1, l2], [m0, m1, m2], [f0, f1, f2]⟩).c e2) (.slice b3 (StT.n5 ⟨[n0, n1, n2], [u0, u1, u2], [l0, l1, l2], [m0, m1, m2], [f0, f1, f2]⟩).d e3) (.slice (some ⟨g4, 0, none⟩) 3 e4) := by rw [← hX3]; exact new_box5W _ _ _ _ _ _ _
  have hl : w2.heap.size < X3.heap.size := by rw [← hX3]; simp
  have bA_8 := Lib.hid (bA_4.out.keep hb)
  have bR_9 := Lib.hid (bR_5.out.keep hb)
  have m_10 := Lib.hid (m_7.out.keep hb)
  have E_11 := Lib.hid (E_6.out.trans (hb.mono E_6.out.size))
  have S_11 := Lib.hid hb.size
  clear bA_4 bR_5 m_7 E_6 hb
  have bX_12 := Lib.hid hB
  have S_12b := Lib.hid hl
  clear hB hl
  obtain ⟨x00, x01, x02, x03, x04, x05, x06, x07, x08, x09⟩ := bX_12.out
  go_wp2_with fail
  clear hX3
  have KW := Lib.hid (l4WhoV_any 1 X3)
  rw [show cliB 1 = true from by decide] at KW
  refine KW.out.mono ?_; rintro e w4 ⟨rfl, hb⟩
  clear KW
  have bA_13 := Lib.hid (bA_8.out.keep hb)
  have bR_14 := Lib.hid (bR_9.out.keep hb)
  have m_15 := Lib.hid (m_10.out.keep hb)
  have bX_16 := Lib.hid (bX_12.out.keep hb)
  have E_17 := Lib.hid (E_11.out.trans (hb.mono E_11.out.size))
  have S_17 := Lib.hid hb.size
  clear x00 x01 x02 x03 x04 x05 x06 x07 x08 x09
  clear bA_8 bR_9 m_10 bX_12 E_11 hb
  obtain ⟨x00, x01, x02, x03, x04, x05, x06, x07, x08, x09⟩ := bX_16.out
  go_wp2_with fail
  clear g1 g2
  have hrow4 : Row1 w4 g4 3 (intF [f0, f1, f2]) := by
    obtain ⟨g', c', q', hr, -⟩ := m_15.out.e.at (show 0 < 3 by omega)
    injection q' with q1
    injection q1 with q2
    injection q2 with q3
    rw [q3]; exact hr
  have yk4 : w4.cell? ⟨g4, 1, none⟩ = some (.int .i64 f1) := (hrow4 1 (by omega)).1
  go_still_tail 11, (by kernel_rfl)
  still_call (KM.out _)
  repeat still_step
  refine wpStill_nil ?_
  change wpList _ _ _ _ _ w4.drew
  clear KM hrow4 yk4
  have hdr : Below w4.heap.size w4 w4.drew := (Below.refl _ _).drew
  obtain ⟨w5, hw5⟩ : ∃ X, w4.drew = X := ⟨_, rfl⟩
  rw [hw5] at hdr
  rw [hw5]
  clear hw5
  have bA_18 := Lib.hid (bA_13.out.keep hdr)
  have bR_19 := Lib.hid (bR_14.out.keep hdr)
  have m_20 := Lib.hid (m_15.out.keep hdr)
  have bX_21 := Lib.hid (bX_16.out.keep hdr)
  have E_22 := Lib.hid (E_17.out.trans (hdr.mono E_17.out.size))
  have S_22 := Lib.hid hdr.size
  clear x00 x01 x02 x03 x04 x05 x06 x07 x08 x09
  clear bA_13 bR_14 m_15 bX_16 E_17 hdr
  have hrow : Row1 w5 g4 3 (intF [f0, f1, f2]) := by
    obtain ⟨g', c', q', hr, -⟩ := m_20.out.e.at (show 0 < 3 by omega)
    injection q' with q1
    injection q1 with q2
    injection q2 with q3
    rw [q3]; exact hr
  have hg := m_20.out.e.bnd g4 rfl
  have yk : w5.cell? ⟨g4, 1, none⟩ = some (.int .i64 f1) := (hrow 1 (by omega)).1
  have fk := (hrow 1 (by omega)).2
  obtain ⟨X6, hX6⟩ : ∃ X, w5.setCell ⟨g4, 1, none⟩ (.int .i64 m) = X := ⟨_, rfl⟩
  have ht : Btn g4 (g4 + 1) w5 X6 := by rw [← hX6]; exact btn_set _ _ _ _
  have hrow6 : Row1 X6 g4 3 (intF [f0, m, f2]) := by
    rw [← hX6]
    refine (hrow.set (k := 1) (by omega)).congr (fun i hi => ?_)
    obtain rfl | rfl | rfl : i = 0 ∨ i = 1 ∨ i = 2 := by omega
    all_goals rfl
  have M6 : M5 X6 w1.heap.size w2.heap.size (.slice b0 (StT.n5 ⟨[n0, n1, n2], [u0, u1, u2], [l0, l1, l2], [m0, m1, m2], [f0, f1, f2]⟩).a e0) (.slice b1 (StT.n5 ⟨[n0, n1, n2], [u0, u1, u2], [l0, l1, l2], [m0, m1, m2], [f0, f1, f2]⟩).b e1) (.slice b2 (StT.n5 ⟨[n0, n1, n2], [u0, u1, u2], [l0, l1, l2], [m0, m1, m2], [f0, f1, f2]⟩).c e2) (.slice b3 (StT.n5 ⟨[n0, n1, n2], [u0, u1, u2], [l0, l1, l2], [m0, m1, m2], [f0, f1, f2]⟩).d e3) (.slice (some ⟨g4, 0, none⟩) 3 e4) (StT.n5 ⟨[n0, n1, n2], [u0, u1, u2], [l0, l1, l2], [m0, m1, m2], [f0, m, f2]⟩) (StT.f5 ⟨[n0, n1, n2], [u0, u1, u2], [l0, l1, l2], [m0, m1, m2], [f0, m, f2]⟩) := m5_sete (m_20.out) ht (Mk1.of_row hrow6 hg.1 hg.2 (by have := m_20.out.e.vls; obtain ⟨_, _, q, q2, q3, -⟩ := this; injection q with _ _ q4; rw [q4]; exact q2) (by have := m_20.out.e.vls; obtain ⟨_, _, q, q2, q3, -⟩ := this; injection q with _ _ q4; rw [q4]; exact q3))
  have M6' := Lib.hid M6
  clear M6 hrow hrow6
  have cX := bX_21.out
  have cR := bR_19.out
  have q0 := S_0.out
  have q1 := S_3.out
  have q2 := S_6.out
  have q3 := S_11.out
  have q4 := S_12b.out
  have q5 := S_17.out
  have q6 := S_22.out
  have bA_23 := Lib.hid (bA_18.out.btn ht (by omega))
  have bR_24 := Lib.hid (bR_19.out.btn ht (by omega))
  have bX_25 := Lib.hid (bX_21.out.btn ht (by omega))
  have E_26 := Lib.hid (E_22.out.trans (ht.below (by omega) E_22.out.size))
  have S_26 := Lib.hid ht.size
  clear bA_18 bR_19 bX_21 E_22 q0 q1 q2 q3 q4 q5 q6 ht
  have m_27 := M6'
  clear M6' m_20 cX cR hg
  obtain ⟨yy0, yy1, yy2, yy3, yy4, -, -, -, -, -⟩ := bX_25.out
  obtain ⟨t0, t1, t2, t3, t4, f0', f1', f2', f3', f4'⟩ := bR_24.out
  obtain ⟨Z28, hZ28⟩ : ∃ X, (((((X6.setCell ⟨w.heap.size + 1, 0, none⟩ (.slice b0 (StT.n5 ⟨[n0, n1, n2], [u0, u1, u2], [l0, l1, l2], [m0, m1, m2], [f0, f1, f2]⟩).a e0)).setCell ⟨w.heap.size + 1, 1, none⟩ (.slice b1 (StT.n5 ⟨[n0, n1, n2], [u0, u1, u2], [l0, l1, l2], [m0, m1, m2], [f0, f1, f2]⟩).b e1)).setCell ⟨w.heap.size + 1, 2, none⟩ (.slice b2 (StT.n5 ⟨[n0, n1, n2], [u0, u1, u2], [l0, l1, l2], [m0, m1, m2], [f0, f1, f2]⟩).c e2)).setCell ⟨w.heap.size + 1, 3, none⟩ (.slice b3 (StT.n5 ⟨[n0, n1, n2], [u0, u1, u2], [l0, l1, l2], [m0, m1, m2], [f0, f1, f2]⟩).d e3)).setCell ⟨w.heap.size + 1, 4, none⟩ (.slice (some ⟨g4, 0, none⟩) 3 e4)) = X := ⟨_, rfl⟩
  have hz : Box5W Z28 (w.heap.size + 1) (.slice b0 (StT.n5 ⟨[n0, n1, n2], [u0, u1, u2], [l0, l1, l2], [m0, m1, m2], [f0, f1, f2]⟩).a e0) (.slice b1 (StT.n5 ⟨[n0, n1, n2], [u0, u1, u2], [l0, l1, l2], [m0, m1, m2], [f0, f1, f2]⟩).b e1) (.slice b2 (StT.n5 ⟨[n0, n1, n2], [u0, u1, u2], [l0, l1, l2], [m0, m1, m2], [f0, f1, f2]⟩).c e2) (.slice b3 (StT.n5 ⟨[n0, n1, n2], [u0, u1, u2], [l0, l1, l2], [m0, m1, m2], [f0, f1, f2]⟩).d e3) (.slice (some ⟨g4, 0, none⟩) 3 e4) := by rw [← hZ28]; exact ((((bR_24.out.set0 _).set1 _).set2 _).set3 _).set4 _
  have ht : Btn (w.heap.size + 1) (w.heap.size + 1 + 1) X6 Z28 := by rw [← hZ28]; exact ((((btn_set _ _ _ _).trans (btn_set _ _ _ _)).trans (btn_set _ _ _ _)).trans (btn_set _ _ _ _)).trans (btn_set _ _ _ _)
  have q0 := S_0.out
  have q1 := S_3.out
  have q2 := S_6.out
  have q3 := S_11.out
  have q4 := S_12b.out
  have q5 := S_17.out
  have q6 := S_22.out
  have q7 := S_26.out
  have HZ : Hid (Below w.heap.size w Z28) := E_26.out.trans (ht.below (by omega) E_26.out.size)
  have hs := ht.size
  have HM : Hid (M5 Z28 w.heap.size Z28.heap.size (.slice b0 (StT.n5 ⟨[n0, n1, n2], [u0, u1, u2], [l0, l1, l2], [m0, m1, m2], [f0, f1, f2]⟩).a e0) (.slice b1 (StT.n5 ⟨[n0, n1, n2], [u0, u1, u2], [l0, l1, l2], [m0, m1, m2], [f0, f1, f2]⟩).b e1) (.slice b2 (StT.n5 ⟨[n0, n1, n2], [u0, u1, u2], [l0, l1, l2], [m0, m1, m2], [f0, f1, f2]⟩).c e2) (.slice b3 (StT.n5 ⟨[n0, n1, n2], [u0, u1, u2], [l0, l1, l2], [m0, m1, m2], [f0, f1, f2]⟩).d e3) (.slice (some ⟨g4, 0, none⟩) 3 e4) (StT.n5 ⟨[n0, n1, n2], [u0, u1, u2], [l0, l1, l2], [m0, m1, m2], [f0, m, f2]⟩) (StT.f5 ⟨[n0, n1, n2], [u0, u1, u2], [l0, l1, l2], [m0, m1, m2], [f0, m, f2]⟩)) := (m_27.out.btn ht (.inr (by omega))).wide (by omega) (by omega)
  clear q0 q1 q2 q3 q4 q5 q6 q7 ht hs
  go_wp2
  obtain ⟨t0, t1, t2, t3, t4, -, -, -, -, -⟩ := hz
  exact bodyPost_ret (v := .tuple #[.agg #[.slice b0 (StT.n5 ⟨[n0, n1, n2], [u0, u1, u2], [l0, l1, l2], [m0, m1, m2], [f0, f1, f2]⟩).a e0, .slice b1 (StT.n5 ⟨[n0, n1, n2], [u0, u1, u2], [l0, l1, l2], [m0, m1, m2], [f0, f1, f2]⟩).b e1, .slice b2 (StT.n5 ⟨[n0, n1, n2], [u0, u1, u2], [l0, l1, l2], [m0, m1, m2], [f0, f1, f2]⟩).c e2, .slice b3 (StT.n5 ⟨[n0, n1, n2], [u0, u1, u2], [l0, l1, l2], [m0, m1, m2], [f0, f1, f2]⟩).d e3, .slice (some ⟨g4, 0, none⟩) 3 e4], .bool true]) (by simp [results, Tryd.results67, go_sem, t0, t1, t2, t3, t4]) rfl ⟨_, _, _, _, _, rfl, HM, HZ.out⟩

set_option maxRecDepth 100000 in
set_option maxHeartbeats 3000000 in
theorem specFence_2 (v0 v1 v2 v3 v4 : Value) (S : StT) (ep : Int) (w : World) (h : Sto w v0 v1 v2 v3 v4 S) (hz : szT S) (hn : S.n5.le) (hq : stOkB S = true) (hE0 : 0 ≤ ep) (hE1 : ep ≤ 100) :
    Calls Tryd.prog 67 #[.agg #[v0, v1, v2, v3, v4], .int .i64 2, .int .i64 ep] w (ToSB w ⟨S.now, S.sure, S.last, S.slast, S.floors.set 2 (max (S.floors.getD 2 0) ep)⟩ true) := by
  obtain ⟨z0, z1, z2, z3, z4⟩ := stOk_lens hq
  obtain ⟨N, U, L, M, F⟩ := S
  obtain ⟨n0, n1, n2, rfl⟩ := three z0
  obtain ⟨u0, u1, u2, rfl⟩ := three z1
  obtain ⟨l0, l1, l2, rfl⟩ := three z2
  obtain ⟨m0, m1, m2, rfl⟩ := three z3
  obtain ⟨f0, f1, f2, rfl⟩ := three z4
  clear z0 z1 z2 z3 z4
  obtain ⟨m, hm⟩ : ∃ m, m = max f2 ep := ⟨_, rfl⟩
  have hres : StT.mk [n0, n1, n2] [u0, u1, u2] [l0, l1, l2] [m0, m1, m2] ([f0, f1, f2].set 2 (max ([f0, f1, f2].getD 2 0) ep)) = ⟨[n0, n1, n2], [u0, u1, u2], [l0, l1, l2], [m0, m1, m2], [f0, f1, m]⟩ := by rw [hm]; rfl
  change Calls _ _ _ _ (ToSB w (StT.mk [n0, n1, n2] [u0, u1, u2] [l0, l1, l2] [m0, m1, m2] ([f0, f1, f2].set 2 (max ([f0, f1, f2].getD 2 0) ep))) true)
  rw [hres]
  clear hres
  have KM := Lib.hid (fun w => lmaxS f2 ep w)
  rw [show mxV f2 ep = m by rw [hm]; unfold mxV; split <;> omega] at KM
  clear hm
  have g1 : decide (ep < 0) = false := by simp; omega
  have g2 : decide (100 < ep) = false := by simp; omega
  obtain ⟨a0, c0, rfl⟩ := h.now.form
  obtain ⟨a1, c1, rfl⟩ := h.sure.form
  obtain ⟨a2, c2, rfl⟩ := h.last.form
  obtain ⟨a3, c3, rfl⟩ := h.slast.form
  obtain ⟨a4, c4, rfl⟩ := h.floors.form
  obtain ⟨W, hW⟩ : ∃ W, (w.alloc (.cells #[.slice a0 3 c0, .slice a1 3 c1, .slice a2 3 c2, .slice a3 3 c3, .slice a4 3 c4] 30)).alloc (.cells #[.slice none 0 0, .slice none 0 0, .slice none 0 0, .slice none 0 0, .slice none 0 0] 30) = W := ⟨_, rfl⟩
  have hal : Below w.heap.size w W := by rw [← hW]; exact ((Below.refl _ _).alloc (Nat.le_refl _) _).alloc (by simp) _
  have A0 : Box5 W w.heap.size (.slice a0 3 c0) (.slice a1 3 c1) (.slice a2 3 c2) (.slice a3 3 c3) (.slice a4 3 c4) := by rw [← hW]; exact (new_box5 w _ _ _ _ _ _).keep ((Below.refl _ _).alloc (Nat.le_refl _) _)
  have R0 : Box5W W (w.heap.size + 1) (.slice none 0 0) (.slice none 0 0) (.slice none 0 0) (.slice none 0 0) (.slice none 0 0) := by
    rw [← hW]
    have := new_box5W (w.alloc (.cells #[.slice a0 3 c0, .slice a1 3 c1, .slice a2 3 c2, .slice a3 3 c3, .slice a4 3 c4] 30)) (.slice none 0 0) (.slice none 0 0) (.slice none 0 0) (.slice none 0 0) (.slice none 0 0) 30
    simpa using this
  have hl : w.heap.size + 1 < W.heap.size := by rw [← hW]; simp
  have E_0 := Lib.hid hal
  have S_0 := Lib.hid hl
  have bA_0 := Lib.hid A0
  have bR_0 := Lib.hid R0
  have K0 := specStoreOk_any _ _ _ _ _ ⟨[n0, n1, n2], [u0, u1, u2], [l0, l1, l2], [m0, m1, m2], [f0, f1, f2]⟩ W (h.keep hal) hz
  rw [hq] at K0
  have K := Lib.hid K0
  have HH := Lib.hid h
  have HN := Lib.hid hn
  clear h hz hq hal A0 R0 hl K0 hn
  obtain ⟨x00, x01, x02, x03, x04⟩ := bA_0.out
  go_enter Tryd.func67, Tryd.ntmps67
  go_wp2_with fail
  clear hW
  refine K.out.mono ?_; rintro e w1 ⟨rfl, hb⟩
  have bA_1 := Lib.hid (bA_0.out.keep hb)
  have bR_2 := Lib.hid (bR_0.out.keep hb)
  have E_3 := Lib.hid (E_0.out.trans (hb.mono E_0.out.size))
  have S_3 := Lib.hid hb.size
  clear x00 x01 x02 x03 x04
  clear bA_0 bR_0 E_0 hb
  clear K
  obtain ⟨x00, x01, x02, x03, x04⟩ := bA_1.out
  go_wp2_with fail
  refine (l5Copy_any _ _ _ _ _ ⟨[n0, n1, n2], [u0, u1, u2], [l0, l1, l2], [m0, m1, m2], [f0, f1, f2]⟩ w1 (HH.out.keep E_3.out) HN.out).mono ?_; rintro e w2 ⟨x0, x1, x2, x3, x4, rfl, M, hb⟩
  have bA_4 := Lib.hid (bA_1.out.keep hb)
  have bR_5 := Lib.hid (bR_2.out.keep hb)
  have E_6 := Lib.hid (E_3.out.trans (hb.mono E_3.out.size))
  have S_6 := Lib.hid hb.size
  clear x00 x01 x02 x03 x04
  clear bA_1 bR_2 E_3 hb
  have m_7 := M
  clear M
  obtain ⟨b0, e0, rfl⟩ := m_7.out.a.vls.form
  obtain ⟨b1, e1, rfl⟩ := m_7.out.b.vls.form
  obtain ⟨b2, e2, rfl⟩ := m_7.out.c.vls.form
  obtain ⟨b3, e3, rfl⟩ := m_7.out.d.vls.form
  obtain ⟨g4, e4, rfl⟩ : ∃ g c, x4 = .slice (some ⟨g, 0, none⟩) 3 c := by
    obtain ⟨g, c, h, -, -⟩ := m_7.out.e.at (show 0 < 3 by omega)
    exact ⟨g, c, h⟩
  obtain ⟨X3, hX3⟩ : ∃ X, w2.alloc (.cells #[.slice b0 (StT.n5 ⟨[n0, n1, n2], [u0, u1, u2], [l0, l1, l2], [m0, m1, m2], [f0, f1, f2]⟩).a e0, .slice b1 (StT.n5 ⟨[n0, n1, n2], [u0, u1, u2], [l0, l1, l2], [m0, m1, m2], [f0, f1, f2]⟩).b e1, .slice b2 (StT.n5 ⟨[n0, n1, n2], [u0, u1, u2], [l0, l1, l2], [m0, m1, m2], [f0, f1, f2]⟩).c e2, .slice b3 (StT.n5 ⟨[n0, n1, n2], [u0, u1, u2], [l0, l1, l2], [m0, m1, m2], [f0, f1, f2]⟩).d e3, .slice (some ⟨g4, 0, none⟩) 3 e4] 30) = X := ⟨_, rfl⟩
  have hb : Below w2.heap.size w2 X3 := by rw [← hX3]; exact (Below.refl _ _).alloc (Nat.le_refl _) _
  have hB : Box5W X3 w2.heap.size (.slice b0 (StT.n5 ⟨[n0, n1, n2], [u0, u1, u2], [l0, l1, l2], [m0, m1, m2], [f0, f1, f2]⟩).a e0) (.slice b1 (StT.n5 ⟨[n0, n1, n2], [u0, u1, u2], [l0, l1, l2], [m0, m1, m2], [f0, f1, f2]⟩).b e1) (.slice b2 (StT.n5 ⟨[n0, n1, n2], [u0, u1, u2], [l0, l1, l2], [m0, m1, m2], [f0, f1, f2]⟩).c e2) (.slice b3 (StT.n5 ⟨[n0, n1, n2], [u0, u1, u2], [l0, l1, l2], [m0, m1, m2], [f0, f1, f2]⟩).d e3) (.slice (some ⟨g4, 0, none⟩) 3 e4) := by rw [← hX3]; exact new_box5W _ _ _ _ _ _ _
  have hl : w2.heap.size < X3.heap.size := by rw [← hX3]; simp
  have bA_8 := Lib.hid (bA_4.out.keep hb)
  have bR_9 := Lib.hid (bR_5.out.keep hb)
  have m_10 := Lib.hid (m_7.out.keep hb)
  have E_11 := Lib.hid (E_6.out.trans (hb.mono E_6.out.size))
  have S_11 := Lib.hid hb.size
  clear bA_4 bR_5 m_7 E_6 hb
  have bX_12 := Lib.hid hB
  have S_12b := Lib.hid hl
  clear hB hl
  obtain ⟨x00, x01, x02, x03, x04, x05, x06, x07, x08, x09⟩ := bX_12.out
  go_wp2_with fail
  clear hX3
  have KW := Lib.hid (l4WhoV_any 2 X3)
  rw [show cliB 2 = true from by decide] at KW
  refine KW.out.mono ?_; rintro e w4 ⟨rfl, hb⟩
  clear KW
  have bA_13 := Lib.hid (bA_8.out.keep hb)
  have bR_14 := Lib.hid (bR_9.out.keep hb)
  have m_15 := Lib.hid (m_10.out.keep hb)
  have bX_16 := Lib.hid (bX_12.out.keep hb)
  have E_17 := Lib.hid (E_11.out.trans (hb.mono E_11.out.size))
  have S_17 := Lib.hid hb.size
  clear x00 x01 x02 x03 x04 x05 x06 x07 x08 x09
  clear bA_8 bR_9 m_10 bX_12 E_11 hb
  obtain ⟨x00, x01, x02, x03, x04, x05, x06, x07, x08, x09⟩ := bX_16.out
  go_wp2_with fail
  clear g1 g2
  have hrow4 : Row1 w4 g4 3 (intF [f0, f1, f2]) := by
    obtain ⟨g', c', q', hr, -⟩ := m_15.out.e.at (show 0 < 3 by omega)
    injection q' with q1
    injection q1 with q2
    injection q2 with q3
    rw [q3]; exact hr
  have yk4 : w4.cell? ⟨g4, 2, none⟩ = some (.int .i64 f2) := (hrow4 2 (by omega)).1
  go_still_tail 11, (by kernel_rfl)
  still_call (KM.out _)
  repeat still_step
  refine wpStill_nil ?_
  change wpList _ _ _ _ _ w4.drew
  clear KM hrow4 yk4
  have hdr : Below w4.heap.size w4 w4.drew := (Below.refl _ _).drew
  obtain ⟨w5, hw5⟩ : ∃ X, w4.drew = X := ⟨_, rfl⟩
  rw [hw5] at hdr
  rw [hw5]
  clear hw5
  have bA_18 := Lib.hid (bA_13.out.keep hdr)
  have bR_19 := Lib.hid (bR_14.out.keep hdr)
  have m_20 := Lib.hid (m_15.out.keep hdr)
  have bX_21 := Lib.hid (bX_16.out.keep hdr)
  have E_22 := Lib.hid (E_17.out.trans (hdr.mono E_17.out.size))
  have S_22 := Lib.hid hdr.size
  clear x00 x01 x02 x03 x04 x05 x06 x07 x08 x09
  clear bA_13 bR_14 m_15 bX_16 E_17 hdr
  have hrow : Row1 w5 g4 3 (intF [f0, f1, f2]) := by
    obtain ⟨g', c', q', hr, -⟩ := m_20.out.e.at (show 0 < 3 by omega)
    injection q' with q1
    injection q1 with q2
    injection q2 with q3
    rw [q3]; exact hr
  have hg := m_20.out.e.bnd g4 rfl
  have yk : w5.cell? ⟨g4, 2, none⟩ = some (.int .i64 f2) := (hrow 2 (by omega)).1
  have fk := (hrow 2 (by omega)).2
  obtain ⟨X6, hX6⟩ : ∃ X, w5.setCell ⟨g4, 2, none⟩ (.int .i64 m) = X := ⟨_, rfl⟩
  have ht : Btn g4 (g4 + 1) w5 X6 := by rw [← hX6]; exact btn_set _ _ _ _
  have hrow6 : Row1 X6 g4 3 (intF [f0, f1, m]) := by
    rw [← hX6]
    refine (hrow.set (k := 2) (by omega)).congr (fun i hi => ?_)
    obtain rfl | rfl | rfl : i = 0 ∨ i = 1 ∨ i = 2 := by omega
    all_goals rfl
  have M6 : M5 X6 w1.heap.size w2.heap.size (.slice b0 (StT.n5 ⟨[n0, n1, n2], [u0, u1, u2], [l0, l1, l2], [m0, m1, m2], [f0, f1, f2]⟩).a e0) (.slice b1 (StT.n5 ⟨[n0, n1, n2], [u0, u1, u2], [l0, l1, l2], [m0, m1, m2], [f0, f1, f2]⟩).b e1) (.slice b2 (StT.n5 ⟨[n0, n1, n2], [u0, u1, u2], [l0, l1, l2], [m0, m1, m2], [f0, f1, f2]⟩).c e2) (.slice b3 (StT.n5 ⟨[n0, n1, n2], [u0, u1, u2], [l0, l1, l2], [m0, m1, m2], [f0, f1, f2]⟩).d e3) (.slice (some ⟨g4, 0, none⟩) 3 e4) (StT.n5 ⟨[n0, n1, n2], [u0, u1, u2], [l0, l1, l2], [m0, m1, m2], [f0, f1, m]⟩) (StT.f5 ⟨[n0, n1, n2], [u0, u1, u2], [l0, l1, l2], [m0, m1, m2], [f0, f1, m]⟩) := m5_sete (m_20.out) ht (Mk1.of_row hrow6 hg.1 hg.2 (by have := m_20.out.e.vls; obtain ⟨_, _, q, q2, q3, -⟩ := this; injection q with _ _ q4; rw [q4]; exact q2) (by have := m_20.out.e.vls; obtain ⟨_, _, q, q2, q3, -⟩ := this; injection q with _ _ q4; rw [q4]; exact q3))
  have M6' := Lib.hid M6
  clear M6 hrow hrow6
  have cX := bX_21.out
  have cR := bR_19.out
  have q0 := S_0.out
  have q1 := S_3.out
  have q2 := S_6.out
  have q3 := S_11.out
  have q4 := S_12b.out
  have q5 := S_17.out
  have q6 := S_22.out
  have bA_23 := Lib.hid (bA_18.out.btn ht (by omega))
  have bR_24 := Lib.hid (bR_19.out.btn ht (by omega))
  have bX_25 := Lib.hid (bX_21.out.btn ht (by omega))
  have E_26 := Lib.hid (E_22.out.trans (ht.below (by omega) E_22.out.size))
  have S_26 := Lib.hid ht.size
  clear bA_18 bR_19 bX_21 E_22 q0 q1 q2 q3 q4 q5 q6 ht
  have m_27 := M6'
  clear M6' m_20 cX cR hg
  obtain ⟨yy0, yy1, yy2, yy3, yy4, -, -, -, -, -⟩ := bX_25.out
  obtain ⟨t0, t1, t2, t3, t4, f0', f1', f2', f3', f4'⟩ := bR_24.out
  obtain ⟨Z28, hZ28⟩ : ∃ X, (((((X6.setCell ⟨w.heap.size + 1, 0, none⟩ (.slice b0 (StT.n5 ⟨[n0, n1, n2], [u0, u1, u2], [l0, l1, l2], [m0, m1, m2], [f0, f1, f2]⟩).a e0)).setCell ⟨w.heap.size + 1, 1, none⟩ (.slice b1 (StT.n5 ⟨[n0, n1, n2], [u0, u1, u2], [l0, l1, l2], [m0, m1, m2], [f0, f1, f2]⟩).b e1)).setCell ⟨w.heap.size + 1, 2, none⟩ (.slice b2 (StT.n5 ⟨[n0, n1, n2], [u0, u1, u2], [l0, l1, l2], [m0, m1, m2], [f0, f1, f2]⟩).c e2)).setCell ⟨w.heap.size + 1, 3, none⟩ (.slice b3 (StT.n5 ⟨[n0, n1, n2], [u0, u1, u2], [l0, l1, l2], [m0, m1, m2], [f0, f1, f2]⟩).d e3)).setCell ⟨w.heap.size + 1, 4, none⟩ (.slice (some ⟨g4, 0, none⟩) 3 e4)) = X := ⟨_, rfl⟩
  have hz : Box5W Z28 (w.heap.size + 1) (.slice b0 (StT.n5 ⟨[n0, n1, n2], [u0, u1, u2], [l0, l1, l2], [m0, m1, m2], [f0, f1, f2]⟩).a e0) (.slice b1 (StT.n5 ⟨[n0, n1, n2], [u0, u1, u2], [l0, l1, l2], [m0, m1, m2], [f0, f1, f2]⟩).b e1) (.slice b2 (StT.n5 ⟨[n0, n1, n2], [u0, u1, u2], [l0, l1, l2], [m0, m1, m2], [f0, f1, f2]⟩).c e2) (.slice b3 (StT.n5 ⟨[n0, n1, n2], [u0, u1, u2], [l0, l1, l2], [m0, m1, m2], [f0, f1, f2]⟩).d e3) (.slice (some ⟨g4, 0, none⟩) 3 e4) := by rw [← hZ28]; exact ((((bR_24.out.set0 _).set1 _).set2 _).set3 _).set4 _
  have ht : Btn (w.heap.size + 1) (w.heap.size + 1 + 1) X6 Z28 := by rw [← hZ28]; exact ((((btn_set _ _ _ _).trans (btn_set _ _ _ _)).trans (btn_set _ _ _ _)).trans (btn_set _ _ _ _)).trans (btn_set _ _ _ _)
  have q0 := S_0.out
  have q1 := S_3.out
  have q2 := S_6.out
  have q3 := S_11.out
  have q4 := S_12b.out
  have q5 := S_17.out
  have q6 := S_22.out
  have q7 := S_26.out
  have HZ : Hid (Below w.heap.size w Z28) := E_26.out.trans (ht.below (by omega) E_26.out.size)
  have hs := ht.size
  have HM : Hid (M5 Z28 w.heap.size Z28.heap.size (.slice b0 (StT.n5 ⟨[n0, n1, n2], [u0, u1, u2], [l0, l1, l2], [m0, m1, m2], [f0, f1, f2]⟩).a e0) (.slice b1 (StT.n5 ⟨[n0, n1, n2], [u0, u1, u2], [l0, l1, l2], [m0, m1, m2], [f0, f1, f2]⟩).b e1) (.slice b2 (StT.n5 ⟨[n0, n1, n2], [u0, u1, u2], [l0, l1, l2], [m0, m1, m2], [f0, f1, f2]⟩).c e2) (.slice b3 (StT.n5 ⟨[n0, n1, n2], [u0, u1, u2], [l0, l1, l2], [m0, m1, m2], [f0, f1, f2]⟩).d e3) (.slice (some ⟨g4, 0, none⟩) 3 e4) (StT.n5 ⟨[n0, n1, n2], [u0, u1, u2], [l0, l1, l2], [m0, m1, m2], [f0, f1, m]⟩) (StT.f5 ⟨[n0, n1, n2], [u0, u1, u2], [l0, l1, l2], [m0, m1, m2], [f0, f1, m]⟩)) := (m_27.out.btn ht (.inr (by omega))).wide (by omega) (by omega)
  clear q0 q1 q2 q3 q4 q5 q6 q7 ht hs
  go_wp2
  obtain ⟨t0, t1, t2, t3, t4, -, -, -, -, -⟩ := hz
  exact bodyPost_ret (v := .tuple #[.agg #[.slice b0 (StT.n5 ⟨[n0, n1, n2], [u0, u1, u2], [l0, l1, l2], [m0, m1, m2], [f0, f1, f2]⟩).a e0, .slice b1 (StT.n5 ⟨[n0, n1, n2], [u0, u1, u2], [l0, l1, l2], [m0, m1, m2], [f0, f1, f2]⟩).b e1, .slice b2 (StT.n5 ⟨[n0, n1, n2], [u0, u1, u2], [l0, l1, l2], [m0, m1, m2], [f0, f1, f2]⟩).c e2, .slice b3 (StT.n5 ⟨[n0, n1, n2], [u0, u1, u2], [l0, l1, l2], [m0, m1, m2], [f0, f1, f2]⟩).d e3, .slice (some ⟨g4, 0, none⟩) 3 e4], .bool true]) (by simp [results, Tryd.results67, go_sem, t0, t1, t2, t3, t4]) rfl ⟨_, _, _, _, _, rfl, HM, HZ.out⟩

theorem specFence_any (v0 v1 v2 v3 v4 : Value) (S : StT) (who ep : Int) (w : World) (h : Sto w v0 v1 v2 v3 v4 S) (hz : szT S) (hn : S.n5.le) : Calls Tryd.prog 67 #[.agg #[v0, v1, v2, v3, v4], .int .i64 who, .int .i64 ep] w (ToSB w (fenT S who ep) (fenB S who ep)) := by
  unfold fenT fenB
  by_cases hq : stOkB S = true
  · by_cases h1 : cliB who = true
    · by_cases h2 : 0 ≤ ep ∧ ep ≤ 100
      · rw [hq, h1, show epoB ep = true from decide_eq_true h2]
        obtain ⟨k0, k1⟩ : 0 ≤ who ∧ who < 3 := of_decide_eq_true h1
        obtain rfl | rfl | rfl : who = 0 ∨ who = 1 ∨ who = 2 := by omega
        · exact specFence_0 _ _ _ _ _ S ep w h hz hn hq h2.1 h2.2
        · exact specFence_1 _ _ _ _ _ S ep w h hz hn hq h2.1 h2.2
        · exact specFence_2 _ _ _ _ _ S ep w h hz hn hq h2.1 h2.2
      · rw [hq, h1, show epoB ep = false from decide_eq_false h2]
        by_cases h3 : ep < 0
        · exact specFence_lo _ _ _ _ _ S who ep w h hz hn hq h1 h3
        · exact specFence_hi _ _ _ _ _ S who ep w h hz hn hq h1 (by omega)
    · have h1 : cliB who = false := by simpa using h1
      rw [hq, h1]; exact specFence_cli _ _ _ _ _ S who ep w h hz hn hq h1
  · have hq : stOkB S = false := by simpa using hq
    rw [hq]; exact specFence_no _ _ _ _ _ S who ep w h hz hq

end Go.Proofs.YtadoihddmbbjoaaDoor
