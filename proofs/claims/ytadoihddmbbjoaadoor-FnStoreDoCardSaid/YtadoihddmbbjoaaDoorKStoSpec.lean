/-
  The model's StoreSync and StoreFall.
-/
import Derived.Test.YtadoihddmbbjoaaDoorKStoTexts
namespace Go.Proofs.YtadoihddmbbjoaaDoor
open Go.RowKit

set_option maxRecDepth 100000 in
set_option maxHeartbeats 8000000 in
theorem specSync_no (v0 v1 v2 v3 v4 : Value) (S : StT) (w : World) (h : Sto w v0 v1 v2 v3 v4 S) (hz : szT S) (hq : stOkB S = false) :
    Calls Tryd.prog 65 #[.agg #[v0, v1, v2, v3, v4]] w (ToSt w (syncT S)) := by
  have hst : syncT S = st0 := by unfold syncT; rw [if_neg (by simp [hq])]
  obtain ⟨a0, c0, rfl⟩ := h.now.form
  obtain ⟨a1, c1, rfl⟩ := h.sure.form
  obtain ⟨a2, c2, rfl⟩ := h.last.form
  obtain ⟨a3, c3, rfl⟩ := h.slast.form
  obtain ⟨a4, c4, rfl⟩ := h.floors.form
  obtain ⟨W, hW⟩ : ∃ W, (w.alloc (.cells #[.slice a0 S.now.length c0, .slice a1 S.sure.length c1, .slice a2 S.last.length c2, .slice a3 S.slast.length c3, .slice a4 S.floors.length c4] 30)).alloc (.cells #[.slice none 0 0, .slice none 0 0, .slice none 0 0, .slice none 0 0, .slice none 0 0] 30) = W := ⟨_, rfl⟩
  have hal : Below w.heap.size w W := by rw [← hW]; exact ((Below.refl _ _).alloc (Nat.le_refl _) _).alloc (by simp) _
  have A0 : Box5 W w.heap.size (.slice a0 S.now.length c0) (.slice a1 S.sure.length c1) (.slice a2 S.last.length c2) (.slice a3 S.slast.length c3) (.slice a4 S.floors.length c4) := by rw [← hW]; exact (new_box5 w _ _ _ _ _ _).keep ((Below.refl _ _).alloc (Nat.le_refl _) _)
  have R0 : Box5W W (w.heap.size + 1) (.slice none 0 0) (.slice none 0 0) (.slice none 0 0) (.slice none 0 0) (.slice none 0 0) := by
    rw [← hW]
    have := new_box5W (w.alloc (.cells #[.slice a0 S.now.length c0, .slice a1 S.sure.length c1, .slice a2 S.last.length c2, .slice a3 S.slast.length c3, .slice a4 S.floors.length c4] 30)) (.slice none 0 0) (.slice none 0 0) (.slice none 0 0) (.slice none 0 0) (.slice none 0 0) 30
    simpa using this
  have hl : w.heap.size + 1 < W.heap.size := by rw [← hW]; simp
  have E_0 := Lib.hid hal
  have S_0 := Lib.hid hl
  have bA_0 := Lib.hid A0
  have bR_0 := Lib.hid R0
  have K0 := specStoreOk_any _ _ _ _ _ S W (h.keep hal) hz
  rw [hq] at K0
  have K := Lib.hid K0
  rw [hst]
  clear h hz hq hal A0 R0 hl K0
  obtain ⟨x00, x01, x02, x03, x04⟩ := bA_0.out
  go_enter Tryd.func65, Tryd.ntmps65
  go_wp2_with fail
  clear hW
  refine K.out.mono ?_; rintro e w1 ⟨rfl, hb⟩
  have bA_1 := Lib.hid (bA_0.out.keep hb)
  have bR_2 := Lib.hid (bR_0.out.keep hb)
  have E_3 := Lib.hid (E_0.out.trans (hb.mono E_0.out.size))
  have S_3 := Lib.hid hb.size
  clear x00 x01 x02 x03 x04
  clear bA_0 bR_0 E_0 hb
  clear K
  obtain ⟨x00, x01, x02, x03, x04, x05, x06, x07, x08, x09⟩ := bR_2.out
  obtain ⟨Z4, hZ4⟩ : ∃ X, (((((w1.setCell ⟨w.heap.size + 1, 0, none⟩ (.slice none 0 0)).setCell ⟨w.heap.size + 1, 1, none⟩ (.slice none 0 0)).setCell ⟨w.heap.size + 1, 2, none⟩ (.slice none 0 0)).setCell ⟨w.heap.size + 1, 3, none⟩ (.slice none 0 0)).setCell ⟨w.heap.size + 1, 4, none⟩ (.slice none 0 0)) = X := ⟨_, rfl⟩
  have hz : Box5W Z4 (w.heap.size + 1) (.slice none 0 0) (.slice none 0 0) (.slice none 0 0) (.slice none 0 0) (.slice none 0 0) := by rw [← hZ4]; exact ((((bR_2.out.set0 _).set1 _).set2 _).set3 _).set4 _
  have ht : Btn (w.heap.size + 1) (w.heap.size + 1 + 1) w1 Z4 := by rw [← hZ4]; exact ((((btn_set _ _ _ _).trans (btn_set _ _ _ _)).trans (btn_set _ _ _ _)).trans (btn_set _ _ _ _)).trans (btn_set _ _ _ _)
  have q0 := S_0.out
  have q1 := S_3.out
  have HZ : Hid (Below w.heap.size w Z4) := E_3.out.trans (ht.below (by omega) E_3.out.size)
  have hs := ht.size
  have HM : Hid (M5 Z4 w.heap.size Z4.heap.size (.slice none 0 0) (.slice none 0 0) (.slice none 0 0) (.slice none 0 0) (.slice none 0 0) (StT.n5 st0) (StT.f5 st0)) := M5.none _ _ _
  clear q0 q1 ht hs
  go_wp2
  obtain ⟨t0, t1, t2, t3, t4, -, -, -, -, -⟩ := hz
  exact bodyPost_ret (v := .agg #[.slice none 0 0, .slice none 0 0, .slice none 0 0, .slice none 0 0, .slice none 0 0]) (by simp [results, Tryd.results65, go_sem, t0, t1, t2, t3, t4]) rfl ⟨_, _, _, _, _, rfl, HM, HZ.out⟩

set_option maxRecDepth 100000 in
set_option maxHeartbeats 8000000 in
theorem specSync_yes (v0 v1 v2 v3 v4 : Value) (S : StT) (w : World) (h : Sto w v0 v1 v2 v3 v4 S) (hz : szT S) (hn : S.n5.le) (hq : stOkB S = true) :
    Calls Tryd.prog 65 #[.agg #[v0, v1, v2, v3, v4]] w (ToSt w (syncT S)) := by
  have hst : syncT S = ⟨S.now, S.now, S.last, S.last, S.floors⟩ := by unfold syncT; rw [if_pos hq]
  rw [hst]
  clear hst
  obtain ⟨a0, c0, rfl⟩ := h.now.form
  obtain ⟨a1, c1, rfl⟩ := h.sure.form
  obtain ⟨a2, c2, rfl⟩ := h.last.form
  obtain ⟨a3, c3, rfl⟩ := h.slast.form
  obtain ⟨a4, c4, rfl⟩ := h.floors.form
  obtain ⟨W, hW⟩ : ∃ W, (w.alloc (.cells #[.slice a0 S.now.length c0, .slice a1 S.sure.length c1, .slice a2 S.last.length c2, .slice a3 S.slast.length c3, .slice a4 S.floors.length c4] 30)).alloc (.cells #[.slice none 0 0, .slice none 0 0, .slice none 0 0, .slice none 0 0, .slice none 0 0] 30) = W := ⟨_, rfl⟩
  have hal : Below w.heap.size w W := by rw [← hW]; exact ((Below.refl _ _).alloc (Nat.le_refl _) _).alloc (by simp) _
  have A0 : Box5 W w.heap.size (.slice a0 S.now.length c0) (.slice a1 S.sure.length c1) (.slice a2 S.last.length c2) (.slice a3 S.slast.length c3) (.slice a4 S.floors.length c4) := by rw [← hW]; exact (new_box5 w _ _ _ _ _ _).keep ((Below.refl _ _).alloc (Nat.le_refl _) _)
  have R0 : Box5W W (w.heap.size + 1) (.slice none 0 0) (.slice none 0 0) (.slice none 0 0) (.slice none 0 0) (.slice none 0 0) := by
    rw [← hW]
    have := new_box5W (w.alloc (.cells #[.slice a0 S.now.length c0, .slice a1 S.sure.length c1, .slice a2 S.last.length c2, .slice a3 S.slast.length c3, .slice a4 S.floors.length c4] 30)) (.slice none 0 0) (.slice none 0 0) (.slice none 0 0) (.slice none 0 0) (.slice none 0 0) 30
    simpa using this
  have hl : w.heap.size + 1 < W.heap.size := by rw [← hW]; simp
  have E_0 := Lib.hid hal
  have S_0 := Lib.hid hl
  have bA_0 := Lib.hid A0
  have bR_0 := Lib.hid R0
  have K0 := specStoreOk_any _ _ _ _ _ S W (h.keep hal) hz
  rw [hq] at K0
  have K := Lib.hid K0
  have HH := Lib.hid h
  have HN := Lib.hid hn
  clear h hz hq hal A0 R0 hl K0 hn
  obtain ⟨x00, x01, x02, x03, x04⟩ := bA_0.out
  go_enter Tryd.func65, Tryd.ntmps65
  go_wp2_with fail
  clear hW
  refine K.out.mono ?_; rintro e w1 ⟨rfl, hb⟩
  have bA_1 := Lib.hid (bA_0.out.keep hb)
  have bR_2 := Lib.hid (bR_0.out.keep hb)
  have E_3 := Lib.hid (E_0.out.trans (hb.mono E_0.out.size))
  have S_3 := Lib.hid hb.size
  clear x00 x01 x02 x03 x04
  clear bA_0 bR_0 E_0 hb
  clear K
  obtain ⟨x00, x01, x02, x03, x04⟩ := bA_1.out
  go_wp2_with fail
  refine (l5Copy_any _ _ _ _ _ S w1 (HH.out.keep E_3.out) HN.out).mono ?_; rintro e w2 ⟨x0, x1, x2, x3, x4, rfl, M, hb⟩
  have bA_4 := Lib.hid (bA_1.out.keep hb)
  have bR_5 := Lib.hid (bR_2.out.keep hb)
  have E_6 := Lib.hid (E_3.out.trans (hb.mono E_3.out.size))
  have S_6 := Lib.hid hb.size
  clear x00 x01 x02 x03 x04
  clear bA_1 bR_2 E_3 hb
  have m_7 := M
  clear M
  obtain ⟨b0, e0, rfl⟩ := m_7.out.a.vls.form
  obtain ⟨b1, e1, rfl⟩ := m_7.out.b.vls.form
  obtain ⟨b2, e2, rfl⟩ := m_7.out.c.vls.form
  obtain ⟨b3, e3, rfl⟩ := m_7.out.d.vls.form
  obtain ⟨b4, e4, rfl⟩ := m_7.out.e.vls.form
  obtain ⟨X3, hX3⟩ : ∃ X, w2.alloc (.cells #[.slice b0 S.n5.a e0, .slice b1 S.n5.b e1, .slice b2 S.n5.c e2, .slice b3 S.n5.d e3, .slice b4 S.n5.e e4] 30) = X := ⟨_, rfl⟩
  have hb : Below w2.heap.size w2 X3 := by rw [← hX3]; exact (Below.refl _ _).alloc (Nat.le_refl _) _
  have hB : Box5W X3 w2.heap.size (.slice b0 S.n5.a e0) (.slice b1 S.n5.b e1) (.slice b2 S.n5.c e2) (.slice b3 S.n5.d e3) (.slice b4 S.n5.e e4) := by rw [← hX3]; exact new_box5W _ _ _ _ _ _ _
  have hl : w2.heap.size < X3.heap.size := by rw [← hX3]; simp
  have bA_8 := Lib.hid (bA_4.out.keep hb)
  have bR_9 := Lib.hid (bR_5.out.keep hb)
  have m_10 := Lib.hid (m_7.out.keep hb)
  have E_11 := Lib.hid (E_6.out.trans (hb.mono E_6.out.size))
  have S_11 := Lib.hid hb.size
  clear bA_4 bR_5 m_7 E_6 hb
  have bX_12 := Lib.hid hB
  have S_12b := Lib.hid hl
  clear hB hl
  obtain ⟨x00, x01, x02, x03, x04⟩ := bA_8.out
  have HV := Lib.hid (HH.out.now.keep (E_11.out.trans (((Below.refl X3.heap.size X3).alloc (Nat.le_refl _) (.cells #[] 9)).mono E_11.out.size)))
  obtain ⟨z0, z1, z2, z3, z4⟩ := bA_8.out.keep ((Below.refl X3.heap.size X3).alloc (Nat.le_refl _) (.cells #[] 9))
  go_wp2_with (at_builtin; go_must (
      clear hX3
      refine wpList_app0 rfl (.tmp 10) (.tmp 12) 22 9 rfl Tryd.underlying22 _ 16 infoStrV (by omega) X3.heap.size X3.heap.size (Nat.le_refl _) (by simp) rfl (.slice a0 S.now.length c0) rfl S.now.length _ HV.out (fun _ => rfl) (HN.out.1) ?_; intro v5 w5 q2 q3 _
      have hb : Below X3.heap.size X3 w5 := ((Below.refl _ _).alloc (Nat.le_refl _) _).trans (q3.mono (by simp))
      obtain ⟨b5, e5, rfl⟩ := q2.vls.form
      clear HV q3 z0 z1 z2 z3 z4
      have bA_13 := Lib.hid (bA_8.out.keep hb)
      have bR_14 := Lib.hid (bR_9.out.keep hb)
      have m_15 := Lib.hid (m_10.out.keep hb)
      have bX_16 := Lib.hid (bX_12.out.keep hb)
      have E_17 := Lib.hid (E_11.out.trans (hb.mono E_11.out.size))
      have S_17 := Lib.hid hb.size
      clear x00 x01 x02 x03 x04
      clear bA_8 bR_9 m_10 bX_12 E_11 hb
      have n5_18 := Lib.hid q2
      clear q2
      obtain ⟨x00, x01, x02, x03, x04, x05, x06, x07, x08, x09⟩ := bX_16.out
      obtain ⟨Y5, hY5⟩ : ∃ X, w5.setCell ⟨w2.heap.size, 1, none⟩ (.slice b5 S.now.length e5) = X := ⟨_, rfl⟩
      have ht : Btn w2.heap.size (w2.heap.size + 1) w5 Y5 := by rw [← hY5]; exact btn_set _ _ _ _
      have hB : Box5W Y5 (w2.heap.size) (.slice b0 S.n5.a e0) (.slice b5 S.now.length e5) (.slice b2 S.n5.c e2) (.slice b3 S.n5.d e3) (.slice b4 S.n5.e e4) := by rw [← hY5]; exact bX_16.out.set1 _
      have q0 := S_0.out
      have q1 := S_3.out
      have q2 := S_6.out
      have q3 := S_11.out
      have q4 := S_12b.out
      have q5 := S_17.out
      have bA_19 := Lib.hid (bA_13.out.btn ht (by omega))
      have bR_20 := Lib.hid (bR_14.out.btn ht (by omega))
      have m_21 := Lib.hid (m_15.out.btn ht (by omega))
      have n5_22 := Lib.hid (n5_18.out.btn ht (by omega))
      have E_23 := Lib.hid (E_17.out.trans (ht.below (by omega) E_17.out.size))
      have S_23 := Lib.hid ht.size
      clear bA_13 bR_14 m_15 n5_18 E_17 q0 q1 q2 q3 q4 q5 ht
      have bX_24 := Lib.hid hB
      clear hB bX_16
      obtain ⟨x00, x01, x02, x03, x04⟩ := bA_19.out
      have HV := Lib.hid (HH.out.last.keep (E_23.out.trans (((Below.refl Y5.heap.size Y5).alloc (Nat.le_refl _) (.cells #[] 3)).mono E_23.out.size)))
      obtain ⟨z0, z1, z2, z3, z4⟩ := bA_19.out.keep ((Below.refl Y5.heap.size Y5).alloc (Nat.le_refl _) (.cells #[] 3))
      go_wp2_with (at_builtin; go_must (
          clear hY5 x00 x01 x02 x03 x04 x05 x06 x07 x08 x09
          refine wpList_app0 rfl (.tmp 15) (.tmp 17) 23 3 rfl Tryd.underlying23 _ 8 infoIntV (by omega) Y5.heap.size Y5.heap.size (Nat.le_refl _) (by simp) rfl (.slice a2 S.last.length c2) rfl S.last.length _ HV.out (fun _ => rfl) (HN.out.2.2.1) ?_; intro v6 w6 q2 q3 _
          have hb : Below Y5.heap.size Y5 w6 := ((Below.refl _ _).alloc (Nat.le_refl _) _).trans (q3.mono (by simp))
          obtain ⟨b6, e6, rfl⟩ := q2.vls.form
          clear HV q3 z0 z1 z2 z3 z4
          have bA_25 := Lib.hid (bA_19.out.keep hb)
          have bR_26 := Lib.hid (bR_20.out.keep hb)
          have m_27 := Lib.hid (m_21.out.keep hb)
          have n5_28 := Lib.hid (n5_22.out.keep hb)
          have bX_29 := Lib.hid (bX_24.out.keep hb)
          have E_30 := Lib.hid (E_23.out.trans (hb.mono E_23.out.size))
          have S_30 := Lib.hid hb.size
          clear x00 x01 x02 x03 x04
          clear bA_19 bR_20 m_21 n5_22 bX_24 E_23 hb
          have n6_31 := Lib.hid q2
          clear q2
          obtain ⟨x00, x01, x02, x03, x04, x05, x06, x07, x08, x09⟩ := bX_29.out
          obtain ⟨Y6, hY6⟩ : ∃ X, w6.setCell ⟨w2.heap.size, 3, none⟩ (.slice b6 S.last.length e6) = X := ⟨_, rfl⟩
          have ht : Btn w2.heap.size (w2.heap.size + 1) w6 Y6 := by rw [← hY6]; exact btn_set _ _ _ _
          have hB : Box5W Y6 (w2.heap.size) (.slice b0 S.n5.a e0) (.slice b5 S.now.length e5) (.slice b2 S.n5.c e2) (.slice b6 S.last.length e6) (.slice b4 S.n5.e e4) := by rw [← hY6]; exact bX_29.out.set3 _
          have q0 := S_0.out
          have q1 := S_3.out
          have q2 := S_6.out
          have q3 := S_11.out
          have q4 := S_12b.out
          have q5 := S_17.out
          have q6 := S_23.out
          have q7 := S_30.out
          have bA_32 := Lib.hid (bA_25.out.btn ht (by omega))
          have bR_33 := Lib.hid (bR_26.out.btn ht (by omega))
          have m_34 := Lib.hid (m_27.out.btn ht (by omega))
          have n5_35 := Lib.hid (n5_28.out.btn ht (by omega))
          have n6_36 := Lib.hid (n6_31.out.btn ht (by omega))
          have E_37 := Lib.hid (E_30.out.trans (ht.below (by omega) E_30.out.size))
          have S_37 := Lib.hid ht.size
          clear bA_25 bR_26 m_27 n5_28 n6_31 E_30 q0 q1 q2 q3 q4 q5 q6 q7 ht
          have bX_38 := Lib.hid hB
          clear hB bX_29
          obtain ⟨u0, u1, u2, u3, u4, -, -, -, -, -⟩ := bX_38.out
          obtain ⟨t0, t1, t2, t3, t4, f0, f1, f2, f3, f4⟩ := bR_33.out
          obtain ⟨Z39, hZ39⟩ : ∃ X, (((((Y6.setCell ⟨w.heap.size + 1, 0, none⟩ (.slice b0 S.n5.a e0)).setCell ⟨w.heap.size + 1, 1, none⟩ (.slice b5 S.now.length e5)).setCell ⟨w.heap.size + 1, 2, none⟩ (.slice b2 S.n5.c e2)).setCell ⟨w.heap.size + 1, 3, none⟩ (.slice b6 S.last.length e6)).setCell ⟨w.heap.size + 1, 4, none⟩ (.slice b4 S.n5.e e4)) = X := ⟨_, rfl⟩
          have hz : Box5W Z39 (w.heap.size + 1) (.slice b0 S.n5.a e0) (.slice b5 S.now.length e5) (.slice b2 S.n5.c e2) (.slice b6 S.last.length e6) (.slice b4 S.n5.e e4) := by rw [← hZ39]; exact ((((bR_33.out.set0 _).set1 _).set2 _).set3 _).set4 _
          have ht : Btn (w.heap.size + 1) (w.heap.size + 1 + 1) Y6 Z39 := by rw [← hZ39]; exact ((((btn_set _ _ _ _).trans (btn_set _ _ _ _)).trans (btn_set _ _ _ _)).trans (btn_set _ _ _ _)).trans (btn_set _ _ _ _)
          have q0 := S_0.out
          have q1 := S_3.out
          have q2 := S_6.out
          have q3 := S_11.out
          have q4 := S_12b.out
          have q5 := S_17.out
          have q6 := S_23.out
          have q7 := S_30.out
          have q8 := S_37.out
          have HZ : Hid (Below w.heap.size w Z39) := E_37.out.trans (ht.below (by omega) E_37.out.size)
          have hs := ht.size
          have Pa := (m_34.out.a).btn ht (.inr (by omega))
          have Pb := (n5_35.out).btn ht (.inr (by omega))
          have Pc := (m_34.out.c).btn ht (.inr (by omega))
          have Pd := (n6_36.out).btn ht (.inr (by omega))
          have Pe := (m_34.out.e).btn ht (.inr (by omega))
          have HM : Hid (M5 Z39 w.heap.size Z39.heap.size (.slice b0 S.n5.a e0) (.slice b5 S.now.length e5) (.slice b2 S.n5.c e2) (.slice b6 S.last.length e6) (.slice b4 S.n5.e e4) (StT.n5 ⟨S.now, S.now, S.last, S.last, S.floors⟩) (StT.f5 ⟨S.now, S.now, S.last, S.last, S.floors⟩)) := ⟨Pa.wide (by omega) (by omega), Pb.wide (by omega) (by omega), Pc.wide (by omega) (by omega), Pd.wide (by omega) (by omega), Pe.wide (by omega) (by omega), Pa.dis Pb (by omega), m_34.out.ac, Pa.dis Pd (by omega), m_34.out.ae, Pb.dis Pc (by omega), Pb.dis Pd (by omega), Pb.dis Pe (by omega), Pc.dis Pd (by omega), m_34.out.ce, Pd.dis Pe (by omega)⟩
          clear q0 q1 q2 q3 q4 q5 q6 q7 q8 ht hs Pa Pb Pc Pd Pe
          go_wp2
          clear hY6 x00 x01 x02 x03 x04 x05 x06 x07 x08 x09 u0 u1 u2 u3 u4 t0 t1 t2 t3 t4 f0 f1 f2 f3 f4
          obtain ⟨t0, t1, t2, t3, t4, -, -, -, -, -⟩ := hz
          exact bodyPost_ret (v := .agg #[.slice b0 S.n5.a e0, .slice b5 S.now.length e5, .slice b2 S.n5.c e2, .slice b6 S.last.length e6, .slice b4 S.n5.e e4]) (by simp [results, Tryd.results65, go_sem, t0, t1, t2, t3, t4]) rfl ⟨_, _, _, _, _, rfl, HM, HZ.out⟩))))

theorem specSync_any (v0 v1 v2 v3 v4 : Value) (S : StT) (w : World) (h : Sto w v0 v1 v2 v3 v4 S) (hz : szT S) (hn : S.n5.le) : Calls Tryd.prog 65 #[.agg #[v0, v1, v2, v3, v4]] w (ToSt w (syncT S)) := by
  by_cases hq : stOkB S = true
  · exact specSync_yes _ _ _ _ _ S w h hz hn hq
  · exact specSync_no _ _ _ _ _ S w h hz (by simpa using hq)

set_option maxRecDepth 100000 in
set_option maxHeartbeats 8000000 in
theorem specFall_no (v0 v1 v2 v3 v4 : Value) (S : StT) (w : World) (h : Sto w v0 v1 v2 v3 v4 S) (hz : szT S) (hq : stOkB S = false) :
    Calls Tryd.prog 66 #[.agg #[v0, v1, v2, v3, v4]] w (ToSt w (fallT S)) := by
  have hst : fallT S = st0 := by unfold fallT; rw [if_neg (by simp [hq])]
  obtain ⟨a0, c0, rfl⟩ := h.now.form
  obtain ⟨a1, c1, rfl⟩ := h.sure.form
  obtain ⟨a2, c2, rfl⟩ := h.last.form
  obtain ⟨a3, c3, rfl⟩ := h.slast.form
  obtain ⟨a4, c4, rfl⟩ := h.floors.form
  obtain ⟨W, hW⟩ : ∃ W, (w.alloc (.cells #[.slice a0 S.now.length c0, .slice a1 S.sure.length c1, .slice a2 S.last.length c2, .slice a3 S.slast.length c3, .slice a4 S.floors.length c4] 30)).alloc (.cells #[.slice none 0 0, .slice none 0 0, .slice none 0 0, .slice none 0 0, .slice none 0 0] 30) = W := ⟨_, rfl⟩
  have hal : Below w.heap.size w W := by rw [← hW]; exact ((Below.refl _ _).alloc (Nat.le_refl _) _).alloc (by simp) _
  have A0 : Box5 W w.heap.size (.slice a0 S.now.length c0) (.slice a1 S.sure.length c1) (.slice a2 S.last.length c2) (.slice a3 S.slast.length c3) (.slice a4 S.floors.length c4) := by rw [← hW]; exact (new_box5 w _ _ _ _ _ _).keep ((Below.refl _ _).alloc (Nat.le_refl _) _)
  have R0 : Box5W W (w.heap.size + 1) (.slice none 0 0) (.slice none 0 0) (.slice none 0 0) (.slice none 0 0) (.slice none 0 0) := by
    rw [← hW]
    have := new_box5W (w.alloc (.cells #[.slice a0 S.now.length c0, .slice a1 S.sure.length c1, .slice a2 S.last.length c2, .slice a3 S.slast.length c3, .slice a4 S.floors.length c4] 30)) (.slice none 0 0) (.slice none 0 0) (.slice none 0 0) (.slice none 0 0) (.slice none 0 0) 30
    simpa using this
  have hl : w.heap.size + 1 < W.heap.size := by rw [← hW]; simp
  have E_0 := Lib.hid hal
  have S_0 := Lib.hid hl
  have bA_0 := Lib.hid A0
  have bR_0 := Lib.hid R0
  have K0 := specStoreOk_any _ _ _ _ _ S W (h.keep hal) hz
  rw [hq] at K0
  have K := Lib.hid K0
  rw [hst]
  clear h hz hq hal A0 R0 hl K0
  obtain ⟨x00, x01, x02, x03, x04⟩ := bA_0.out
  go_enter Tryd.func66, Tryd.ntmps66
  go_wp2_with fail
  clear hW
  refine K.out.mono ?_; rintro e w1 ⟨rfl, hb⟩
  have bA_1 := Lib.hid (bA_0.out.keep hb)
  have bR_2 := Lib.hid (bR_0.out.keep hb)
  have E_3 := Lib.hid (E_0.out.trans (hb.mono E_0.out.size))
  have S_3 := Lib.hid hb.size
  clear x00 x01 x02 x03 x04
  clear bA_0 bR_0 E_0 hb
  clear K
  obtain ⟨x00, x01, x02, x03, x04, x05, x06, x07, x08, x09⟩ := bR_2.out
  obtain ⟨Z4, hZ4⟩ : ∃ X, (((((w1.setCell ⟨w.heap.size + 1, 0, none⟩ (.slice none 0 0)).setCell ⟨w.heap.size + 1, 1, none⟩ (.slice none 0 0)).setCell ⟨w.heap.size + 1, 2, none⟩ (.slice none 0 0)).setCell ⟨w.heap.size + 1, 3, none⟩ (.slice none 0 0)).setCell ⟨w.heap.size + 1, 4, none⟩ (.slice none 0 0)) = X := ⟨_, rfl⟩
  have hz : Box5W Z4 (w.heap.size + 1) (.slice none 0 0) (.slice none 0 0) (.slice none 0 0) (.slice none 0 0) (.slice none 0 0) := by rw [← hZ4]; exact ((((bR_2.out.set0 _).set1 _).set2 _).set3 _).set4 _
  have ht : Btn (w.heap.size + 1) (w.heap.size + 1 + 1) w1 Z4 := by rw [← hZ4]; exact ((((btn_set _ _ _ _).trans (btn_set _ _ _ _)).trans (btn_set _ _ _ _)).trans (btn_set _ _ _ _)).trans (btn_set _ _ _ _)
  have q0 := S_0.out
  have q1 := S_3.out
  have HZ : Hid (Below w.heap.size w Z4) := E_3.out.trans (ht.below (by omega) E_3.out.size)
  have hs := ht.size
  have HM : Hid (M5 Z4 w.heap.size Z4.heap.size (.slice none 0 0) (.slice none 0 0) (.slice none 0 0) (.slice none 0 0) (.slice none 0 0) (StT.n5 st0) (StT.f5 st0)) := M5.none _ _ _
  clear q0 q1 ht hs
  go_wp2
  obtain ⟨t0, t1, t2, t3, t4, -, -, -, -, -⟩ := hz
  exact bodyPost_ret (v := .agg #[.slice none 0 0, .slice none 0 0, .slice none 0 0, .slice none 0 0, .slice none 0 0]) (by simp [results, Tryd.results66, go_sem, t0, t1, t2, t3, t4]) rfl ⟨_, _, _, _, _, rfl, HM, HZ.out⟩

set_option maxRecDepth 100000 in
set_option maxHeartbeats 8000000 in
theorem specFall_yes (v0 v1 v2 v3 v4 : Value) (S : StT) (w : World) (h : Sto w v0 v1 v2 v3 v4 S) (hz : szT S) (hn : S.n5.le) (hq : stOkB S = true) :
    Calls Tryd.prog 66 #[.agg #[v0, v1, v2, v3, v4]] w (ToSt w (fallT S)) := by
  have hst : fallT S = ⟨S.sure, S.sure, S.slast, S.slast, S.floors⟩ := by unfold fallT; rw [if_pos hq]
  rw [hst]
  clear hst
  obtain ⟨a0, c0, rfl⟩ := h.now.form
  obtain ⟨a1, c1, rfl⟩ := h.sure.form
  obtain ⟨a2, c2, rfl⟩ := h.last.form
  obtain ⟨a3, c3, rfl⟩ := h.slast.form
  obtain ⟨a4, c4, rfl⟩ := h.floors.form
  obtain ⟨W, hW⟩ : ∃ W, (w.alloc (.cells #[.slice a0 S.now.length c0, .slice a1 S.sure.length c1, .slice a2 S.last.length c2, .slice a3 S.slast.length c3, .slice a4 S.floors.length c4] 30)).alloc (.cells #[.slice none 0 0, .slice none 0 0, .slice none 0 0, .slice none 0 0, .slice none 0 0] 30) = W := ⟨_, rfl⟩
  have hal : Below w.heap.size w W := by rw [← hW]; exact ((Below.refl _ _).alloc (Nat.le_refl _) _).alloc (by simp) _
  have A0 : Box5 W w.heap.size (.slice a0 S.now.length c0) (.slice a1 S.sure.length c1) (.slice a2 S.last.length c2) (.slice a3 S.slast.length c3) (.slice a4 S.floors.length c4) := by rw [← hW]; exact (new_box5 w _ _ _ _ _ _).keep ((Below.refl _ _).alloc (Nat.le_refl _) _)
  have R0 : Box5W W (w.heap.size + 1) (.slice none 0 0) (.slice none 0 0) (.slice none 0 0) (.slice none 0 0) (.slice none 0 0) := by
    rw [← hW]
    have := new_box5W (w.alloc (.cells #[.slice a0 S.now.length c0, .slice a1 S.sure.length c1, .slice a2 S.last.length c2, .slice a3 S.slast.length c3, .slice a4 S.floors.length c4] 30)) (.slice none 0 0) (.slice none 0 0) (.slice none 0 0) (.slice none 0 0) (.slice none 0 0) 30
    simpa using this
  have hl : w.heap.size + 1 < W.heap.size := by rw [← hW]; simp
  have E_0 := Lib.hid hal
  have S_0 := Lib.hid hl
  have bA_0 := Lib.hid A0
  have bR_0 := Lib.hid R0
  have K0 := specStoreOk_any _ _ _ _ _ S W (h.keep hal) hz
  rw [hq] at K0
  have K := Lib.hid K0
  have HH := Lib.hid h
  have HN := Lib.hid hn
  clear h hz hq hal A0 R0 hl K0 hn
  obtain ⟨x00, x01, x02, x03, x04⟩ := bA_0.out
  go_enter Tryd.func66, Tryd.ntmps66
  go_wp2_with fail
  clear hW
  refine K.out.mono ?_; rintro e w1 ⟨rfl, hb⟩
  have bA_1 := Lib.hid (bA_0.out.keep hb)
  have bR_2 := Lib.hid (bR_0.out.keep hb)
  have E_3 := Lib.hid (E_0.out.trans (hb.mono E_0.out.size))
  have S_3 := Lib.hid hb.size
  clear x00 x01 x02 x03 x04
  clear bA_0 bR_0 E_0 hb
  clear K
  obtain ⟨x00, x01, x02, x03, x04⟩ := bA_1.out
  go_wp2_with fail
  refine (l5Copy_any _ _ _ _ _ S w1 (HH.out.keep E_3.out) HN.out).mono ?_; rintro e w2 ⟨x0, x1, x2, x3, x4, rfl, M, hb⟩
  have bA_4 := Lib.hid (bA_1.out.keep hb)
  have bR_5 := Lib.hid (bR_2.out.keep hb)
  have E_6 := Lib.hid (E_3.out.trans (hb.mono E_3.out.size))
  have S_6 := Lib.hid hb.size
  clear x00 x01 x02 x03 x04
  clear bA_1 bR_2 E_3 hb
  have m_7 := M
  clear M
  obtain ⟨b0, e0, rfl⟩ := m_7.out.a.vls.form
  obtain ⟨b1, e1, rfl⟩ := m_7.out.b.vls.form
  obtain ⟨b2, e2, rfl⟩ := m_7.out.c.vls.form
  obtain ⟨b3, e3, rfl⟩ := m_7.out.d.vls.form
  obtain ⟨b4, e4, rfl⟩ := m_7.out.e.vls.form
  obtain ⟨X3, hX3⟩ : ∃ X, w2.alloc (.cells #[.slice b0 S.n5.a e0, .slice b1 S.n5.b e1, .slice b2 S.n5.c e2, .slice b3 S.n5.d e3, .slice b4 S.n5.e e4] 30) = X := ⟨_, rfl⟩
  have hb : Below w2.heap.size w2 X3 := by rw [← hX3]; exact (Below.refl _ _).alloc (Nat.le_refl _) _
  have hB : Box5W X3 w2.heap.size (.slice b0 S.n5.a e0) (.slice b1 S.n5.b e1) (.slice b2 S.n5.c e2) (.slice b3 S.n5.d e3) (.slice b4 S.n5.e e4) := by rw [← hX3]; exact new_box5W _ _ _ _ _ _ _
  have hl : w2.heap.size < X3.heap.size := by rw [← hX3]; simp
  have bA_8 := Lib.hid (bA_4.out.keep hb)
  have bR_9 := Lib.hid (bR_5.out.keep hb)
  have m_10 := Lib.hid (m_7.out.keep hb)
  have E_11 := Lib.hid (E_6.out.trans (hb.mono E_6.out.size))
  have S_11 := Lib.hid hb.size
  clear bA_4 bR_5 m_7 E_6 hb
  have bX_12 := Lib.hid hB
  have S_12b := Lib.hid hl
  clear hB hl
  obtain ⟨x00, x01, x02, x03, x04⟩ := bA_8.out
  have HV := Lib.hid (HH.out.sure.keep (E_11.out.trans (((Below.refl X3.heap.size X3).alloc (Nat.le_refl _) (.cells #[] 9)).mono E_11.out.size)))
  obtain ⟨z0, z1, z2, z3, z4⟩ := bA_8.out.keep ((Below.refl X3.heap.size X3).alloc (Nat.le_refl _) (.cells #[] 9))
  go_wp2_with (at_builtin; go_must (
      clear hX3
      refine wpList_app0 rfl (.tmp 10) (.tmp 12) 22 9 rfl Tryd.underlying22 _ 16 infoStrV (by omega) X3.heap.size X3.heap.size (Nat.le_refl _) (by simp) rfl (.slice a1 S.sure.length c1) rfl S.sure.length _ HV.out (fun _ => rfl) (HN.out.2.1) ?_; intro v5 w5 q2 q3 _
      have hb : Below X3.heap.size X3 w5 := ((Below.refl _ _).alloc (Nat.le_refl _) _).trans (q3.mono (by simp))
      obtain ⟨b5, e5, rfl⟩ := q2.vls.form
      clear HV q3 z0 z1 z2 z3 z4
      have bA_13 := Lib.hid (bA_8.out.keep hb)
      have bR_14 := Lib.hid (bR_9.out.keep hb)
      have m_15 := Lib.hid (m_10.out.keep hb)
      have bX_16 := Lib.hid (bX_12.out.keep hb)
      have E_17 := Lib.hid (E_11.out.trans (hb.mono E_11.out.size))
      have S_17 := Lib.hid hb.size
      clear x00 x01 x02 x03 x04
      clear bA_8 bR_9 m_10 bX_12 E_11 hb
      have n5_18 := Lib.hid q2
      clear q2
      obtain ⟨x00, x01, x02, x03, x04, x05, x06, x07, x08, x09⟩ := bX_16.out
      obtain ⟨Y5, hY5⟩ : ∃ X, w5.setCell ⟨w2.heap.size, 0, none⟩ (.slice b5 S.sure.length e5) = X := ⟨_, rfl⟩
      have ht : Btn w2.heap.size (w2.heap.size + 1) w5 Y5 := by rw [← hY5]; exact btn_set _ _ _ _
      have hB : Box5W Y5 (w2.heap.size) (.slice b5 S.sure.length e5) (.slice b1 S.n5.b e1) (.slice b2 S.n5.c e2) (.slice b3 S.n5.d e3) (.slice b4 S.n5.e e4) := by rw [← hY5]; exact bX_16.out.set0 _
      have q0 := S_0.out
      have q1 := S_3.out
      have q2 := S_6.out
      have q3 := S_11.out
      have q4 := S_12b.out
      have q5 := S_17.out
      have bA_19 := Lib.hid (bA_13.out.btn ht (by omega))
      have bR_20 := Lib.hid (bR_14.out.btn ht (by omega))
      have m_21 := Lib.hid (m_15.out.btn ht (by omega))
      have n5_22 := Lib.hid (n5_18.out.btn ht (by omega))
      have E_23 := Lib.hid (E_17.out.trans (ht.below (by omega) E_17.out.size))
      have S_23 := Lib.hid ht.size
      clear bA_13 bR_14 m_15 n5_18 E_17 q0 q1 q2 q3 q4 q5 ht
      have bX_24 := Lib.hid hB
      clear hB bX_16
      obtain ⟨x00, x01, x02, x03, x04⟩ := bA_19.out
      have HV := Lib.hid (HH.out.slast.keep (E_23.out.trans (((Below.refl Y5.heap.size Y5).alloc (Nat.le_refl _) (.cells #[] 3)).mono E_23.out.size)))
      obtain ⟨z0, z1, z2, z3, z4⟩ := bA_19.out.keep ((Below.refl Y5.heap.size Y5).alloc (Nat.le_refl _) (.cells #[] 3))
      go_wp2_with (at_builtin; go_must (
          clear hY5 x00 x01 x02 x03 x04 x05 x06 x07 x08 x09
          refine wpList_app0 rfl (.tmp 15) (.tmp 17) 23 3 rfl Tryd.underlying23 _ 8 infoIntV (by omega) Y5.heap.size Y5.heap.size (Nat.le_refl _) (by simp) rfl (.slice a3 S.slast.length c3) rfl S.slast.length _ HV.out (fun _ => rfl) (HN.out.2.2.2.1) ?_; intro v6 w6 q2 q3 _
          have hb : Below Y5.heap.size Y5 w6 := ((Below.refl _ _).alloc (Nat.le_refl _) _).trans (q3.mono (by simp))
          obtain ⟨b6, e6, rfl⟩ := q2.vls.form
          clear HV q3 z0 z1 z2 z3 z4
          have bA_25 := Lib.hid (bA_19.out.keep hb)
          have bR_26 := Lib.hid (bR_20.out.keep hb)
          have m_27 := Lib.hid (m_21.out.keep hb)
          have n5_28 := Lib.hid (n5_22.out.keep hb)
          have bX_29 := Lib.hid (bX_24.out.keep hb)
          have E_30 := Lib.hid (E_23.out.trans (hb.mono E_23.out.size))
          have S_30 := Lib.hid hb.size
          clear x00 x01 x02 x03 x04
          clear bA_19 bR_20 m_21 n5_22 bX_24 E_23 hb
          have n6_31 := Lib.hid q2
          clear q2
          obtain ⟨x00, x01, x02, x03, x04, x05, x06, x07, x08, x09⟩ := bX_29.out
          obtain ⟨Y6, hY6⟩ : ∃ X, w6.setCell ⟨w2.heap.size, 2, none⟩ (.slice b6 S.slast.length e6) = X := ⟨_, rfl⟩
          have ht : Btn w2.heap.size (w2.heap.size + 1) w6 Y6 := by rw [← hY6]; exact btn_set _ _ _ _
          have hB : Box5W Y6 (w2.heap.size) (.slice b5 S.sure.length e5) (.slice b1 S.n5.b e1) (.slice b6 S.slast.length e6) (.slice b3 S.n5.d e3) (.slice b4 S.n5.e e4) := by rw [← hY6]; exact bX_29.out.set2 _
          have q0 := S_0.out
          have q1 := S_3.out
          have q2 := S_6.out
          have q3 := S_11.out
          have q4 := S_12b.out
          have q5 := S_17.out
          have q6 := S_23.out
          have q7 := S_30.out
          have bA_32 := Lib.hid (bA_25.out.btn ht (by omega))
          have bR_33 := Lib.hid (bR_26.out.btn ht (by omega))
          have m_34 := Lib.hid (m_27.out.btn ht (by omega))
          have n5_35 := Lib.hid (n5_28.out.btn ht (by omega))
          have n6_36 := Lib.hid (n6_31.out.btn ht (by omega))
          have E_37 := Lib.hid (E_30.out.trans (ht.below (by omega) E_30.out.size))
          have S_37 := Lib.hid ht.size
          clear bA_25 bR_26 m_27 n5_28 n6_31 E_30 q0 q1 q2 q3 q4 q5 q6 q7 ht
          have bX_38 := Lib.hid hB
          clear hB bX_29
          obtain ⟨u0, u1, u2, u3, u4, -, -, -, -, -⟩ := bX_38.out
          obtain ⟨t0, t1, t2, t3, t4, f0, f1, f2, f3, f4⟩ := bR_33.out
          obtain ⟨Z39, hZ39⟩ : ∃ X, (((((Y6.setCell ⟨w.heap.size + 1, 0, none⟩ (.slice b5 S.sure.length e5)).setCell ⟨w.heap.size + 1, 1, none⟩ (.slice b1 S.n5.b e1)).setCell ⟨w.heap.size + 1, 2, none⟩ (.slice b6 S.slast.length e6)).setCell ⟨w.heap.size + 1, 3, none⟩ (.slice b3 S.n5.d e3)).setCell ⟨w.heap.size + 1, 4, none⟩ (.slice b4 S.n5.e e4)) = X := ⟨_, rfl⟩
          have hz : Box5W Z39 (w.heap.size + 1) (.slice b5 S.sure.length e5) (.slice b1 S.n5.b e1) (.slice b6 S.slast.length e6) (.slice b3 S.n5.d e3) (.slice b4 S.n5.e e4) := by rw [← hZ39]; exact ((((bR_33.out.set0 _).set1 _).set2 _).set3 _).set4 _
          have ht : Btn (w.heap.size + 1) (w.heap.size + 1 + 1) Y6 Z39 := by rw [← hZ39]; exact ((((btn_set _ _ _ _).trans (btn_set _ _ _ _)).trans (btn_set _ _ _ _)).trans (btn_set _ _ _ _)).trans (btn_set _ _ _ _)
          have q0 := S_0.out
          have q1 := S_3.out
          have q2 := S_6.out
          have q3 := S_11.out
          have q4 := S_12b.out
          have q5 := S_17.out
          have q6 := S_23.out
          have q7 := S_30.out
          have q8 := S_37.out
          have HZ : Hid (Below w.heap.size w Z39) := E_37.out.trans (ht.below (by omega) E_37.out.size)
          have hs := ht.size
          have Pa := (n5_35.out).btn ht (.inr (by omega))
          have Pb := (m_34.out.b).btn ht (.inr (by omega))
          have Pc := (n6_36.out).btn ht (.inr (by omega))
          have Pd := (m_34.out.d).btn ht (.inr (by omega))
          have Pe := (m_34.out.e).btn ht (.inr (by omega))
          have HM : Hid (M5 Z39 w.heap.size Z39.heap.size (.slice b5 S.sure.length e5) (.slice b1 S.n5.b e1) (.slice b6 S.slast.length e6) (.slice b3 S.n5.d e3) (.slice b4 S.n5.e e4) (StT.n5 ⟨S.sure, S.sure, S.slast, S.slast, S.floors⟩) (StT.f5 ⟨S.sure, S.sure, S.slast, S.slast, S.floors⟩)) := ⟨Pa.wide (by omega) (by omega), Pb.wide (by omega) (by omega), Pc.wide (by omega) (by omega), Pd.wide (by omega) (by omega), Pe.wide (by omega) (by omega), Pa.dis Pb (by omega), Pa.dis Pc (by omega), Pa.dis Pd (by omega), Pa.dis Pe (by omega), Pb.dis Pc (by omega), m_34.out.bd, m_34.out.be, Pc.dis Pd (by omega), Pc.dis Pe (by omega), m_34.out.de⟩
          clear q0 q1 q2 q3 q4 q5 q6 q7 q8 ht hs Pa Pb Pc Pd Pe
          go_wp2
          clear hY6 x00 x01 x02 x03 x04 x05 x06 x07 x08 x09 u0 u1 u2 u3 u4 t0 t1 t2 t3 t4 f0 f1 f2 f3 f4
          obtain ⟨t0, t1, t2, t3, t4, -, -, -, -, -⟩ := hz
          exact bodyPost_ret (v := .agg #[.slice b5 S.sure.length e5, .slice b1 S.n5.b e1, .slice b6 S.slast.length e6, .slice b3 S.n5.d e3, .slice b4 S.n5.e e4]) (by simp [results, Tryd.results66, go_sem, t0, t1, t2, t3, t4]) rfl ⟨_, _, _, _, _, rfl, HM, HZ.out⟩))))

theorem specFall_any (v0 v1 v2 v3 v4 : Value) (S : StT) (w : World) (h : Sto w v0 v1 v2 v3 v4 S) (hz : szT S) (hn : S.n5.le) : Calls Tryd.prog 66 #[.agg #[v0, v1, v2, v3, v4]] w (ToSt w (fallT S)) := by
  by_cases hq : stOkB S = true
  · exact specFall_yes _ _ _ _ _ S w h hz hn hq
  · exact specFall_no _ _ _ _ _ S w h hz (by simpa using hq)

end Go.Proofs.YtadoihddmbbjoaaDoor
