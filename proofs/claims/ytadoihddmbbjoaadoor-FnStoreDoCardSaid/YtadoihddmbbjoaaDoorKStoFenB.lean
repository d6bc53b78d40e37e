/-
  The model's StoreFence.
-/
import Derived.Test.YtadoihddmbbjoaaDoorKStoSpec
import Derived.StillTailTactics
namespace Go.Proofs.YtadoihddmbbjoaaDoor
open Go.RowKit

theorem ret_intV {a b : Int} (h : a = b) : Ending.returned (.int .i64 a) = .returned (.int .i64 b) := by rw [h]
def mxV (a b : Int) : Int := if b < a then a else b
set_option maxHeartbeats 400000 in
theorem lmaxV_any (a b : Int) (w : World) :
    Calls Tryd.prog 82 #[.int .i64 a, .int .i64 b] w fun e w' => e = .returned (.int .i64 (mxV a b)) ∧ w = w' := by
  by_cases h : b < a
  all_goals
    go_enter Tryd.func82, Tryd.ntmps82
    go_wp2
    go_ret
    exact ⟨ret_intV (by unfold mxV; first | rw [if_pos (by omega)] | rw [if_neg (by omega)]), rfl⟩
theorem lmaxS (a b : Int) (w : World) : Calls Tryd.prog 82 #[.int .i64 a, .int .i64 b] w fun e w' => e = .returned (.int .i64 (mxV a b)) ∧ w' = w := (lmaxV_any a b w).mono fun _ _ h => ⟨h.1, h.2.symm⟩
set_option maxHeartbeats 400000 in
theorem l4WhoV_any (who : Int) (w : World) : Calls Tryd.prog 76 #[.int .i64 who] w fun e w' => e = .returned (.bool (cliB who)) ∧ Below w.heap.size w w' := by
  by_cases h1 : 0 ≤ who <;> by_cases h2 : who < 3
  all_goals
    go_enter Tryd.func76, Tryd.ntmps76
    go_wp2
    go_ret
    exact ⟨ret_bool (by unfold cliB; simp [h1, h2]), Below.refl _ _⟩
theorem m5_sete {w w1 : World} {lo hi g n cap : Nat} {v0 v1 v2 v3 : Value} {N : N5} {F : F5} {f : Nat → Value} (h : M5 w lo hi v0 v1 v2 v3 (.slice (some ⟨g, 0, none⟩) n cap) N F) (ht : Btn g (g + 1) w w1) (hm : Mk1 w1 lo hi (.slice (some ⟨g, 0, none⟩) n cap) N.e f) :
    M5 w1 lo hi v0 v1 v2 v3 (.slice (some ⟨g, 0, none⟩) n cap) N { F with e := f } := by
  have off : ∀ u, Dis u (.slice (some ⟨g, 0, none⟩) n cap) → ∀ b, u.ownBlock = some b → b < w.heap.size → w1.heap[b]? = w.heap[b]? := fun u hd b hb hlt => ht.block b hlt (fun hh => by
    have e : b = g := by omega
    subst e
    exact hd b hb rfl)
  exact { h with a := h.a.same (off _ h.ae), b := h.b.same (off _ h.be), c := h.c.same (off _ h.ce), d := h.d.same (off _ h.de), e := hm }

set_option maxRecDepth 100000 in
set_option maxHeartbeats 3000000 in
theorem specFence_no (v0 v1 v2 v3 v4 : Value) (S : StT) (who ep : Int) (w : World) (h : Sto w v0 v1 v2 v3 v4 S) (hz : szT S) (hq : stOkB S = false) :
    Calls Tryd.prog 67 #[.agg #[v0, v1, v2, v3, v4], .int .i64 who, .int .i64 ep] w (ToSB w st0 false) := by
  obtain ⟨a0, c0, rfl⟩ := h.now.form
  obtain ⟨a1, c1, rfl⟩ := h.sure.form
  obtain ⟨a2, c2, rfl⟩ := h.last.form
  obtain ⟨a3, c3, rfl⟩ := h.slast.form
  obtain ⟨a4, c4, rfl⟩ := h.floors.form
  obtain ⟨W, hW⟩ : ∃ W, (w.alloc (.cells #[.slice a0 S.now.length c0, .slice a1 S.sure.length c1, .slice a2 S.last.length c2, .slice a3 S.slast.length c3, .slice a4 S.floors.length c4] 30)).alloc (.cells #[.slice none 0 0, .slice none 0 0, .slice none 0 0, .slice none 0 0, .slice none 0 0] 30) = W := ⟨_, rfl⟩
  have hal : Below w.heap.size w W := by rw [← hW]; exact ((Below.refl _ _).alloc (Nat.le_refl _) _).alloc (by simp) _
  have A0 : Box5 W w.heap.size (.slice a0 S.now.length c0) (.slice a1 S.sure.length c1) (.slice a2 S.last.length c2) (.slice a3 S.slast.length c3) (.slice a4 S.floors.length c4) := by rw [← hW]; exact (new_box5 w _ _ _ _ _ _).keep ((Below.refl _ _).alloc (Nat.le_refl _) _)
  have R0 : Box5W W (w.heap.size + 1) (.slice none 0 0) (.slice none 0 0) (.slice none 0 0) (.slice none 0 0) (.slice none 0 0) := by
    rw [← hW]
    have := new_box5W (w.alloc (.cells #[.slice a0 S.now.length c0, .slice a1 S.sure.length c1, .slice a2 S.last.length c2, .slice a3 S.slast.length c3, .slice a4 S.floors.length c4] 30)) (.slice none 0 0) (.slice none 0 0) (.slice none 0 0) (.slice none 0 0) (.slice none 0 0) 30
    simpa using this
  have hl : w.heap.size + 1 < W.heap.size := by rw [← hW]; simp
  have E_0 := Lib.hid hal
  have S_0 := Lib.hid hl
  have bA_0 := Lib.hid A0
  have bR_0 := Lib.hid R0
  have K0 := specStoreOk_any _ _ _ _ _ S W (h.keep hal) hz
  rw [hq] at K0
  have K := Lib.hid K0
  clear h hz hq hal A0 R0 hl K0
  obtain ⟨x00, x01, x02, x03, x04⟩ := bA_0.out
  go_enter Tryd.func67, Tryd.ntmps67
  go_wp2_with fail
  clear hW
  refine K.out.mono ?_; rintro e w1 ⟨rfl, hb⟩
  have bA_1 := Lib.hid (bA_0.out.keep hb)
  have bR_2 := Lib.hid (bR_0.out.keep hb)
  have E_3 := Lib.hid (E_0.out.trans (hb.mono E_0.out.size))
  have S_3 := Lib.hid hb.size
  clear x00 x01 x02 x03 x04
  clear bA_0 bR_0 E_0 hb
  clear K
  obtain ⟨x00, x01, x02, x03, x04, x05, x06, x07, x08, x09⟩ := bR_2.out
  obtain ⟨Z4, hZ4⟩ : ∃ X, (((((w1.setCell ⟨w.heap.size + 1, 0, none⟩ (.slice none 0 0)).setCell ⟨w.heap.size + 1, 1, none⟩ (.slice none 0 0)).setCell ⟨w.heap.size + 1, 2, none⟩ (.slice none 0 0)).setCell ⟨w.heap.size + 1, 3, none⟩ (.slice none 0 0)).setCell ⟨w.heap.size + 1, 4, none⟩ (.slice none 0 0)) = X := ⟨_, rfl⟩
  have hz : Box5W Z4 (w.heap.size + 1) (.slice none 0 0) (.slice none 0 0) (.slice none 0 0) (.slice none 0 0) (.slice none 0 0) := by rw [← hZ4]; exact ((((bR_2.out.set0 _).set1 _).set2 _).set3 _).set4 _
  have ht : Btn (w.heap.size + 1) (w.heap.size + 1 + 1) w1 Z4 := by rw [← hZ4]; exact ((((btn_set _ _ _ _).trans (btn_set _ _ _ _)).trans (btn_set _ _ _ _)).trans (btn_set _ _ _ _)).trans (btn_set _ _ _ _)
  have q0 := S_0.out
  have q1 := S_3.out
  have HZ : Hid (Below w.heap.size w Z4) := E_3.out.trans (ht.below (by omega) E_3.out.size)
  have hs := ht.size
  have HM : Hid (M5 Z4 w.heap.size Z4.heap.size (.slice none 0 0) (.slice none 0 0) (.slice none 0 0) (.slice none 0 0) (.slice none 0 0) (StT.n5 st0) (StT.f5 st0)) := M5.none _ _ _
  clear q0 q1 ht hs
  go_wp2
  obtain ⟨t0, t1, t2, t3, t4, -, -, -, -, -⟩ := hz
  exact bodyPost_ret (v := .tuple #[.agg #[.slice none 0 0, .slice none 0 0, .slice none 0 0, .slice none 0 0, .slice none 0 0], .bool false]) (by simp [results, Tryd.results67, go_sem, t0, t1, t2, t3, t4]) rfl ⟨_, _, _, _, _, rfl, HM, HZ.out⟩

set_option maxRecDepth 100000 in
set_option maxHeartbeats 3000000 in
theorem specFence_cli (v0 v1 v2 v3 v4 : Value) (S : StT) (who ep : Int) (w : World) (h : Sto w v0 v1 v2 v3 v4 S) (hz : szT S) (hn : S.n5.le) (hq : stOkB S = true) (h1 : cliB who = false) :
    Calls Tryd.prog 67 #[.agg #[v0, v1, v2, v3, v4], .int .i64 who, .int .i64 ep] w (ToSB w S false) := by
  obtain ⟨a0, c0, rfl⟩ := h.now.form
  obtain ⟨a1, c1, rfl⟩ := h.sure.form
  obtain ⟨a2, c2, rfl⟩ := h.last.form
  obtain ⟨a3, c3, rfl⟩ := h.slast.form
  obtain ⟨a4, c4, rfl⟩ := h.floors.form
  obtain ⟨W, hW⟩ : ∃ W, (w.alloc (.cells #[.slice a0 S.now.length c0, .slice a1 S.sure.length c1, .slice a2 S.last.length c2, .slice a3 S.slast.length c3, .slice a4 S.floors.length c4] 30)).alloc (.cells #[.slice none 0 0, .slice none 0 0, .slice none 0 0, .slice none 0 0, .slice none 0 0] 30) = W := ⟨_, rfl⟩
  have hal : Below w.heap.size w W := by rw [← hW]; exact ((Below.refl _ _).alloc (Nat.le_refl _) _).alloc (by simp) _
  have A0 : Box5 W w.heap.size (.slice a0 S.now.length c0) (.slice a1 S.sure.length c1) (.slice a2 S.last.length c2) (.slice a3 S.slast.length c3) (.slice a4 S.floors.length c4) := by rw [← hW]; exact (new_box5 w _ _ _ _ _ _).keep ((Below.refl _ _).alloc (Nat.le_refl _) _)
  have R0 : Box5W W (w.heap.size + 1) (.slice none 0 0) (.slice none 0 0) (.slice none 0 0) (.slice none 0 0) (.slice none 0 0) := by
    rw [← hW]
    have := new_box5W (w.alloc (.cells #[.slice a0 S.now.length c0, .slice a1 S.sure.length c1, .slice a2 S.last.length c2, .slice a3 S.slast.length c3, .slice a4 S.floors.length c4] 30)) (.slice none 0 0) (.slice none 0 0) (.slice none 0 0) (.slice none 0 0) (.slice none 0 0) 30
    simpa using this
  have hl : w.heap.size + 1 < W.heap.size := by rw [← hW]; simp
  have E_0 := Lib.hid hal
  have S_0 := Lib.hid hl
  have bA_0 := Lib.hid A0
  have bR_0 := Lib.hid R0
  have K0 := specStoreOk_any _ _ _ _ _ S W (h.keep hal) hz
  rw [hq] at K0
  have K := Lib.hid K0
  have HH := Lib.hid h
  have HN := Lib.hid hn
  clear h hz hq hal A0 R0 hl K0 hn
  obtain ⟨x00, x01, x02, x03, x04⟩ := bA_0.out
  go_enter Tryd.func67, Tryd.ntmps67
  go_wp2_with fail
  clear hW
  refine K.out.mono ?_; rintro e w1 ⟨rfl, hb⟩
  have bA_1 := Lib.hid (bA_0.out.keep hb)
  have bR_2 := Lib.hid (bR_0.out.keep hb)
  have E_3 := Lib.hid (E_0.out.trans (hb.mono E_0.out.size))
  have S_3 := Lib.hid hb.size
  clear x00 x01 x02 x03 x04
  clear bA_0 bR_0 E_0 hb
  clear K
  obtain ⟨x00, x01, x02, x03, x04⟩ := bA_1.out
  go_wp2_with fail
  refine (l5Copy_any _ _ _ _ _ S w1 (HH.out.keep E_3.out) HN.out).mono ?_; rintro e w2 ⟨x0, x1, x2, x3, x4, rfl, M, hb⟩
  have bA_4 := Lib.hid (bA_1.out.keep hb)
  have bR_5 := Lib.hid (bR_2.out.keep hb)
  have E_6 := Lib.hid (E_3.out.trans (hb.mono E_3.out.size))
  have S_6 := Lib.hid hb.size
  clear x00 x01 x02 x03 x04
  clear bA_1 bR_2 E_3 hb
  have m_7 := M
  clear M
  obtain ⟨b0, e0, rfl⟩ := m_7.out.a.vls.form
  obtain ⟨b1, e1, rfl⟩ := m_7.out.b.vls.form
  obtain ⟨b2, e2, rfl⟩ := m_7.out.c.vls.form
  obtain ⟨b3, e3, rfl⟩ := m_7.out.d.vls.form
  obtain ⟨b4, e4, rfl⟩ := m_7.out.e.vls.form
  obtain ⟨X3, hX3⟩ : ∃ X, w2.alloc (.cells #[.slice b0 (StT.n5 S).a e0, .slice b1 (StT.n5 S).b e1, .slice b2 (StT.n5 S).c e2, .slice b3 (StT.n5 S).d e3, .slice b4 (StT.n5 S).e e4] 30) = X := ⟨_, rfl⟩
  have hb : Below w2.heap.size w2 X3 := by rw [← hX3]; exact (Below.refl _ _).alloc (Nat.le_refl _) _
  have hB : Box5W X3 w2.heap.size (.slice b0 (StT.n5 S).a e0) (.slice b1 (StT.n5 S).b e1) (.slice b2 (StT.n5 S).c e2) (.slice b3 (StT.n5 S).d e3) (.slice b4 (StT.n5 S).e e4) := by rw [← hX3]; exact new_box5W _ _ _ _ _ _ _
  have hl : w2.heap.size < X3.heap.size := by rw [← hX3]; simp
  have bA_8 := Lib.hid (bA_4.out.keep hb)
  have bR_9 := Lib.hid (bR_5.out.keep hb)
  have m_10 := Lib.hid (m_7.out.keep hb)
  have E_11 := Lib.hid (E_6.out.trans (hb.mono E_6.out.size))
  have S_11 := Lib.hid hb.size
  clear bA_4 bR_5 m_7 E_6 hb
  have bX_12 := Lib.hid hB
  have S_12b := Lib.hid hl
  clear hB hl
  obtain ⟨x00, x01, x02, x03, x04, x05, x06, x07, x08, x09⟩ := bX_12.out
  go_wp2_with fail
  clear hX3
  have KW := Lib.hid (l4WhoV_any who X3)
  rw [h1] at KW
  refine KW.out.mono ?_; rintro e w4 ⟨rfl, hb⟩
  clear KW
  have bA_13 := Lib.hid (bA_8.out.keep hb)
  have bR_14 := Lib.hid (bR_9.out.keep hb)
  have m_15 := Lib.hid (m_10.out.keep hb)
  have bX_16 := Lib.hid (bX_12.out.keep hb)
  have E_17 := Lib.hid (E_11.out.trans (hb.mono E_11.out.size))
  have S_17 := Lib.hid hb.size
  clear x00 x01 x02 x03 x04 x05 x06 x07 x08 x09
  clear bA_8 bR_9 m_10 bX_12 E_11 hb
  obtain ⟨yy0, yy1, yy2, yy3, yy4, -, -, -, -, -⟩ := bX_16.out
  obtain ⟨t0, t1, t2, t3, t4, f0', f1', f2', f3', f4'⟩ := bR_14.out
  obtain ⟨Z18, hZ18⟩ : ∃ X, (((((w4.setCell ⟨w.heap.size + 1, 0, none⟩ (.slice b0 (StT.n5 S).a e0)).setCell ⟨w.heap.size + 1, 1, none⟩ (.slice b1 (StT.n5 S).b e1)).setCell ⟨w.heap.size + 1, 2, none⟩ (.slice b2 (StT.n5 S).c e2)).setCell ⟨w.heap.size + 1, 3, none⟩ (.slice b3 (StT.n5 S).d e3)).setCell ⟨w.heap.size + 1, 4, none⟩ (.slice b4 (StT.n5 S).e e4)) = X := ⟨_, rfl⟩
  have hz : Box5W Z18 (w.heap.size + 1) (.slice b0 (StT.n5 S).a e0) (.slice b1 (StT.n5 S).b e1) (.slice b2 (StT.n5 S).c e2) (.slice b3 (StT.n5 S).d e3) (.slice b4 (StT.n5 S).e e4) := by rw [← hZ18]; exact ((((bR_14.out.set0 _).set1 _).set2 _).set3 _).set4 _
  have ht : Btn (w.heap.size + 1) (w.heap.size + 1 + 1) w4 Z18 := by rw [← hZ18]; exact ((((btn_set _ _ _ _).trans (btn_set _ _ _ _)).trans (btn_set _ _ _ _)).trans (btn_set _ _ _ _)).trans (btn_set _ _ _ _)
  have q0 := S_0.out
  have q1 := S_3.out
  have q2 := S_6.out
  have q3 := S_11.out
  have q4 := S_12b.out
  have q5 := S_17.out
  have HZ : Hid (Below w.heap.size w Z18) := E_17.out.trans (ht.below (by omega) E_17.out.size)
  have hs := ht.size
  have HM : Hid (M5 Z18 w.heap.size Z18.heap.size (.slice b0 (StT.n5 S).a e0) (.slice b1 (StT.n5 S).b e1) (.slice b2 (StT.n5 S).c e2) (.slice b3 (StT.n5 S).d e3) (.slice b4 (StT.n5 S).e e4) (StT.n5 S) (StT.f5 S)) := (m_15.out.btn ht (.inr (by omega))).wide (by omega) (by omega)
  clear q0 q1 q2 q3 q4 q5 ht hs
  go_wp2
  obtain ⟨t0, t1, t2, t3, t4, -, -, -, -, -⟩ := hz
  exact bodyPost_ret (v := .tuple #[.agg #[.slice b0 (StT.n5 S).a e0, .slice b1 (StT.n5 S).b e1, .slice b2 (StT.n5 S).c e2, .slice b3 (StT.n5 S).d e3, .slice b4 (StT.n5 S).e e4], .bool false]) (by simp [results, Tryd.results67, go_sem, t0, t1, t2, t3, t4]) rfl ⟨_, _, _, _, _, rfl, HM, HZ.out⟩

set_option maxRecDepth 100000 in
set_option maxHeartbeats 3000000 in
theorem specFence_lo (v0 v1 v2 v3 v4 : Value) (S : StT) (who ep : Int) (w : World) (h : Sto w v0 v1 v2 v3 v4 S) (hz : szT S) (hn : S.n5.le) (hq : stOkB S = true) (h1 : cliB who = true) (h2 : ep < 0) :
    Calls Tryd.prog 67 #[.agg #[v0, v1, v2, v3, v4], .int .i64 who, .int .i64 ep] w (ToSB w S false) := by
  obtain ⟨a0, c0, rfl⟩ := h.now.form
  obtain ⟨a1, c1, rfl⟩ := h.sure.form
  obtain ⟨a2, c2, rfl⟩ := h.last.form
  obtain ⟨a3, c3, rfl⟩ := h.slast.form
  obtain ⟨a4, c4, rfl⟩ := h.floors.form
  obtain ⟨W, hW⟩ : ∃ W, (w.alloc (.cells #[.slice a0 S.now.length c0, .slice a1 S.sure.length c1, .slice a2 S.last.length c2, .slice a3 S.slast.length c3, .slice a4 S.floors.length c4] 30)).alloc (.cells #[.slice none 0 0, .slice none 0 0, .slice none 0 0, .slice none 0 0, .slice none 0 0] 30) = W := ⟨_, rfl⟩
  have hal : Below w.heap.size w W := by rw [← hW]; exact ((Below.refl _ _).alloc (Nat.le_refl _) _).alloc (by simp) _
  have A0 : Box5 W w.heap.size (.slice a0 S.now.length c0) (.slice a1 S.sure.length c1) (.slice a2 S.last.length c2) (.slice a3 S.slast.length c3) (.slice a4 S.floors.length c4) := by rw [← hW]; exact (new_box5 w _ _ _ _ _ _).keep ((Below.refl _ _).alloc (Nat.le_refl _) _)
  have R0 : Box5W W (w.heap.size + 1) (.slice none 0 0) (.slice none 0 0) (.slice none 0 0) (.slice none 0 0) (.slice none 0 0) := by
    rw [← hW]
    have := new_box5W (w.alloc (.cells #[.slice a0 S.now.length c0, .slice a1 S.sure.length c1, .slice a2 S.last.length c2, .slice a3 S.slast.length c3, .slice a4 S.floors.length c4] 30)) (.slice none 0 0) (.slice none 0 0) (.slice none 0 0) (.slice none 0 0) (.slice none 0 0) 30
    simpa using this
  have hl : w.heap.size + 1 < W.heap.size := by rw [← hW]; simp
  have E_0 := Lib.hid hal
  have S_0 := Lib.hid hl
  have bA_0 := Lib.hid A0
  have bR_0 := Lib.hid R0
  have K0 := specStoreOk_any _ _ _ _ _ S W (h.keep hal) hz
  rw [hq] at K0
  have K := Lib.hid K0
  have HH := Lib.hid h
  have HN := Lib.hid hn
  clear h hz hq hal A0 R0 hl K0 hn
  obtain ⟨x00, x01, x02, x03, x04⟩ := bA_0.out
  go_enter Tryd.func67, Tryd.ntmps67
  go_wp2_with fail
  clear hW
  refine K.out.mono ?_; rintro e w1 ⟨rfl, hb⟩
  have bA_1 := Lib.hid (bA_0.out.keep hb)
  have bR_2 := Lib.hid (bR_0.out.keep hb)
  have E_3 := Lib.hid (E_0.out.trans (hb.mono E_0.out.size))
  have S_3 := Lib.hid hb.size
  clear x00 x01 x02 x03 x04
  clear bA_0 bR_0 E_0 hb
  clear K
  obtain ⟨x00, x01, x02, x03, x04⟩ := bA_1.out
  go_wp2_with fail
  refine (l5Copy_any _ _ _ _ _ S w1 (HH.out.keep E_3.out) HN.out).mono ?_; rintro e w2 ⟨x0, x1, x2, x3, x4, rfl, M, hb⟩
  have bA_4 := Lib.hid (bA_1.out.keep hb)
  have bR_5 := Lib.hid (bR_2.out.keep hb)
  have E_6 := Lib.hid (E_3.out.trans (hb.mono E_3.out.size))
  have S_6 := Lib.hid hb.size
  clear x00 x01 x02 x03 x04
  clear bA_1 bR_2 E_3 hb
  have m_7 := M
  clear M
  obtain ⟨b0, e0, rfl⟩ := m_7.out.a.vls.form
  obtain ⟨b1, e1, rfl⟩ := m_7.out.b.vls.form
  obtain ⟨b2, e2, rfl⟩ := m_7.out.c.vls.form
  obtain ⟨b3, e3, rfl⟩ := m_7.out.d.vls.form
  obtain ⟨b4, e4, rfl⟩ := m_7.out.e.vls.form
  obtain ⟨X3, hX3⟩ : ∃ X, w2.alloc (.cells #[.slice b0 (StT.n5 S).a e0, .slice b1 (StT.n5 S).b e1, .slice b2 (StT.n5 S).c e2, .slice b3 (StT.n5 S).d e3, .slice b4 (StT.n5 S).e e4] 30) = X := ⟨_, rfl⟩
  have hb : Below w2.heap.size w2 X3 := by rw [← hX3]; exact (Below.refl _ _).alloc (Nat.le_refl _) _
  have hB : Box5W X3 w2.heap.size (.slice b0 (StT.n5 S).a e0) (.slice b1 (StT.n5 S).b e1) (.slice b2 (StT.n5 S).c e2) (.slice b3 (StT.n5 S).d e3) (.slice b4 (StT.n5 S).e e4) := by rw [← hX3]; exact new_box5W _ _ _ _ _ _ _
  have hl : w2.heap.size < X3.heap.size := by rw [← hX3]; simp
  have bA_8 := Lib.hid (bA_4.out.keep hb)
  have bR_9 := Lib.hid (bR_5.out.keep hb)
  have m_10 := Lib.hid (m_7.out.keep hb)
  have E_11 := Lib.hid (E_6.out.trans (hb.mono E_6.out.size))
  have S_11 := Lib.hid hb.size
  clear bA_4 bR_5 m_7 E_6 hb
  have bX_12 := Lib.hid hB
  have S_12b := Lib.hid hl
  clear hB hl
  obtain ⟨x00, x01, x02, x03, x04, x05, x06, x07, x08, x09⟩ := bX_12.out
  go_wp2_with fail
  clear hX3
  have KW := Lib.hid (l4WhoV_any who X3)
  rw [h1] at KW
  refine KW.out.mono ?_; rintro e w4 ⟨rfl, hb⟩
  clear KW
  have bA_13 := Lib.hid (bA_8.out.keep hb)
  have bR_14 := Lib.hid (bR_9.out.keep hb)
  have m_15 := Lib.hid (m_10.out.keep hb)
  have bX_16 := Lib.hid (bX_12.out.keep hb)
  have E_17 := Lib.hid (E_11.out.trans (hb.mono E_11.out.size))
  have S_17 := Lib.hid hb.size
  clear x00 x01 x02 x03 x04 x05 x06 x07 x08 x09
  clear bA_8 bR_9 m_10 bX_12 E_11 hb
  have g1 : decide (ep < 0) = true := by simpa using h2
  obtain ⟨yy0, yy1, yy2, yy3, yy4, -, -, -, -, -⟩ := bX_16.out
  obtain ⟨t0, t1, t2, t3, t4, f0', f1', f2', f3', f4'⟩ := bR_14.out
  obtain ⟨Z18, hZ18⟩ : ∃ X, (((((w4.setCell ⟨w.heap.size + 1, 0, none⟩ (.slice b0 (StT.n5 S).a e0)).setCell ⟨w.heap.size + 1, 1, none⟩ (.slice b1 (StT.n5 S).b e1)).setCell ⟨w.heap.size + 1, 2, none⟩ (.slice b2 (StT.n5 S).c e2)).setCell ⟨w.heap.size + 1, 3, none⟩ (.slice b3 (StT.n5 S).d e3)).setCell ⟨w.heap.size + 1, 4, none⟩ (.slice b4 (StT.n5 S).e e4)) = X := ⟨_, rfl⟩
  have hz : Box5W Z18 (w.heap.size + 1) (.slice b0 (StT.n5 S).a e0) (.slice b1 (StT.n5 S).b e1) (.slice b2 (StT.n5 S).c e2) (.slice b3 (StT.n5 S).d e3) (.slice b4 (StT.n5 S).e e4) := by rw [← hZ18]; exact ((((bR_14.out.set0 _).set1 _).set2 _).set3 _).set4 _
  have ht : Btn (w.heap.size + 1) (w.heap.size + 1 + 1) w4 Z18 := by rw [← hZ18]; exact ((((btn_set _ _ _ _).trans (btn_set _ _ _ _)).trans (btn_set _ _ _ _)).trans (btn_set _ _ _ _)).trans (btn_set _ _ _ _)
  have q0 := S_0.out
  have q1 := S_3.out
  have q2 := S_6.out
  have q3 := S_11.out
  have q4 := S_12b.out
  have q5 := S_17.out
  have HZ : Hid (Below w.heap.size w Z18) := E_17.out.trans (ht.below (by omega) E_17.out.size)
  have hs := ht.size
  have HM : Hid (M5 Z18 w.heap.size Z18.heap.size (.slice b0 (StT.n5 S).a e0) (.slice b1 (StT.n5 S).b e1) (.slice b2 (StT.n5 S).c e2) (.slice b3 (StT.n5 S).d e3) (.slice b4 (StT.n5 S).e e4) (StT.n5 S) (StT.f5 S)) := (m_15.out.btn ht (.inr (by omega))).wide (by omega) (by omega)
  clear q0 q1 q2 q3 q4 q5 ht hs
  go_wp2
  obtain ⟨t0, t1, t2, t3, t4, -, -, -, -, -⟩ := hz
  exact bodyPost_ret (v := .tuple #[.agg #[.slice b0 (StT.n5 S).a e0, .slice b1 (StT.n5 S).b e1, .slice b2 (StT.n5 S).c e2, .slice b3 (StT.n5 S).d e3, .slice b4 (StT.n5 S).e e4], .bool false]) (by simp [results, Tryd.results67, go_sem, t0, t1, t2, t3, t4]) rfl ⟨_, _, _, _, _, rfl, HM, HZ.out⟩

set_option maxRecDepth 100000 in
set_option maxHeartbeats 3000000 in
theorem specFence_hi (v0 v1 v2 v3 v4 : Value) (S : StT) (who ep : Int) (w : World) (h : Sto w v0 v1 v2 v3 v4 S) (hz : szT S) (hn : S.n5.le) (hq : stOkB S = true) (h1 : cliB who = true) (h2 : 100 < ep) :
    Calls Tryd.prog 67 #[.agg #[v0, v1, v2, v3, v4], .int .i64 who, .int .i64 ep] w (ToSB w S false) := by
  obtain ⟨a0, c0, rfl⟩ := h.now.form
  obtain ⟨a1, c1, rfl⟩ := h.sure.form
  obtain ⟨a2, c2, rfl⟩ := h.last.form
  obtain ⟨a3, c3, rfl⟩ := h.slast.form
  obtain ⟨a4, c4, rfl⟩ := h.floors.form
  obtain ⟨W, hW⟩ : ∃ W, (w.alloc (.cells #[.slice a0 S.now.length c0, .slice a1 S.sure.length c1, .slice a2 S.last.length c2, .slice a3 S.slast.length c3, .slice a4 S.floors.length c4] 30)).alloc (.cells #[.slice none 0 0, .slice none 0 0, .slice none 0 0, .slice none 0 0, .slice none 0 0] 30) = W := ⟨_, rfl⟩
  have hal : Below w.heap.size w W := by rw [← hW]; exact ((Below.refl _ _).alloc (Nat.le_refl _) _).alloc (by simp) _
  have A0 : Box5 W w.heap.size (.slice a0 S.now.length c0) (.slice a1 S.sure.length c1) (.slice a2 S.last.length c2) (.slice a3 S.slast.length c3) (.slice a4 S.floors.length c4) := by rw [← hW]; exact (new_box5 w _ _ _ _ _ _).keep ((Below.refl _ _).alloc (Nat.le_refl _) _)
  have R0 : Box5W W (w.heap.size + 1) (.slice none 0 0) (.slice none 0 0) (.slice none 0 0) (.slice none 0 0) (.slice none 0 0) := by
    rw [← hW]
    have := new_box5W (w.alloc (.cells #[.slice a0 S.now.length c0, .slice a1 S.sure.length c1, .slice a2 S.last.length c2, .slice a3 S.slast.length c3, .slice a4 S.floors.length c4] 30)) (.slice none 0 0) (.slice none 0 0) (.slice none 0 0) (.slice none 0 0) (.slice none 0 0) 30
    simpa using this
  have hl : w.heap.size + 1 < W.heap.size := by rw [← hW]; simp
  have E_0 := Lib.hid hal
  have S_0 := Lib.hid hl
  have bA_0 := Lib.hid A0
  have bR_0 := Lib.hid R0
  have K0 := specStoreOk_any _ _ _ _ _ S W (h.keep hal) hz
  rw [hq] at K0
  have K := Lib.hid K0
  have HH := Lib.hid h
  have HN := Lib.hid hn
  clear h hz hq hal A0 R0 hl K0 hn
  obtain ⟨x00, x01, x02, x03, x04⟩ := bA_0.out
  go_enter Tryd.func67, Tryd.ntmps67
  go_wp2_with fail
  clear hW
  refine K.out.mono ?_; rintro e w1 ⟨rfl, hb⟩
  have bA_1 := Lib.hid (bA_0.out.keep hb)
  have bR_2 := Lib.hid (bR_0.out.keep hb)
  have E_3 := Lib.hid (E_0.out.trans (hb.mono E_0.out.size))
  have S_3 := Lib.hid hb.size
  clear x00 x01 x02 x03 x04
  clear bA_0 bR_0 E_0 hb
  clear K
  obtain ⟨x00, x01, x02, x03, x04⟩ := bA_1.out
  go_wp2_with fail
  refine (l5Copy_any _ _ _ _ _ S w1 (HH.out.keep E_3.out) HN.out).mono ?_; rintro e w2 ⟨x0, x1, x2, x3, x4, rfl, M, hb⟩
  have bA_4 := Lib.hid (bA_1.out.keep hb)
  have bR_5 := Lib.hid (bR_2.out.keep hb)
  have E_6 := Lib.hid (E_3.out.trans (hb.mono E_3.out.size))
  have S_6 := Lib.hid hb.size
  clear x00 x01 x02 x03 x04
  clear bA_1 bR_2 E_3 hb
  have m_7 := M
  clear M
  obtain ⟨b0, e0, rfl⟩ := m_7.out.a.vls.form
  obtain ⟨b1, e1, rfl⟩ := m_7.out.b.vls.form
  obtain ⟨b2, e2, rfl⟩ := m_7.out.c.vls.form
  obtain ⟨b3, e3, rfl⟩ := m_7.out.d.vls.form
  obtain ⟨b4, e4, rfl⟩ := m_7.out.e.vls.form
  obtain ⟨X3, hX3⟩ : ∃ X, w2.alloc (.cells #[.slice b0 (StT.n5 S).a e0, .slice b1 (StT.n5 S).b e1, .slice b2 (StT.n5 S).c e2, .slice b3 (StT.n5 S).d e3, .slice b4 (StT.n5 S).e e4] 30) = X := ⟨_, rfl⟩
  have hb : Below w2.heap.size w2 X3 := by rw [← hX3]; exact (Below.refl _ _).alloc (Nat.le_refl _) _
  have hB : Box5W X3 w2.heap.size (.slice b0 (StT.n5 S).a e0) (.slice b1 (StT.n5 S).b e1) (.slice b2 (StT.n5 S).c e2) (.slice b3 (StT.n5 S).d e3) (.slice b4 (StT.n5 S).e e4) := by rw [← hX3]; exact new_box5W _ _ _ _ _ _ _
  have hl : w2.heap.size < X3.heap.size := by rw [← hX3]; simp
  have bA_8 := Lib.hid (bA_4.out.keep hb)
  have bR_9 := Lib.hid (bR_5.out.keep hb)
  have m_10 := Lib.hid (m_7.out.keep hb)
  have E_11 := Lib.hid (E_6.out.trans (hb.mono E_6.out.size))
  have S_11 := Lib.hid hb.size
  clear bA_4 bR_5 m_7 E_6 hb
  have bX_12 := Lib.hid hB
  have S_12b := Lib.hid hl
  clear hB hl
  obtain ⟨x00, x01, x02, x03, x04, x05, x06, x07, x08, x09⟩ := bX_12.out
  go_wp2_with fail
  clear hX3
  have KW := Lib.hid (l4WhoV_any who X3)
  rw [h1] at KW
  refine KW.out.mono ?_; rintro e w4 ⟨rfl, hb⟩
  clear KW
  have bA_13 := Lib.hid (bA_8.out.keep hb)
  have bR_14 := Lib.hid (bR_9.out.keep hb)
  have m_15 := Lib.hid (m_10.out.keep hb)
  have bX_16 := Lib.hid (bX_12.out.keep hb)
  have E_17 := Lib.hid (E_11.out.trans (hb.mono E_11.out.size))
  have S_17 := Lib.hid hb.size
  clear x00 x01 x02 x03 x04 x05 x06 x07 x08 x09
  clear bA_8 bR_9 m_10 bX_12 E_11 hb
  have g1 : decide (ep < 0) = false := by simp; omega
  have g2 : decide (100 < ep) = true := by simpa using h2
  obtain ⟨yy0, yy1, yy2, yy3, yy4, -, -, -, -, -⟩ := bX_16.out
  obtain ⟨t0, t1, t2, t3, t4, f0', f1', f2', f3', f4'⟩ := bR_14.out
  obtain ⟨Z18, hZ18⟩ : ∃ X, (((((w4.setCell ⟨w.heap.size + 1, 0, none⟩ (.slice b0 (StT.n5 S).a e0)).setCell ⟨w.heap.size + 1, 1, none⟩ (.slice b1 (StT.n5 S).b e1)).setCell ⟨w.heap.size + 1, 2, none⟩ (.slice b2 (StT.n5 S).c e2)).setCell ⟨w.heap.size + 1, 3, none⟩ (.slice b3 (StT.n5 S).d e3)).setCell ⟨w.heap.size + 1, 4, none⟩ (.slice b4 (StT.n5 S).e e4)) = X := ⟨_, rfl⟩
  have hz : Box5W Z18 (w.heap.size + 1) (.slice b0 (StT.n5 S).a e0) (.slice b1 (StT.n5 S).b e1) (.slice b2 (StT.n5 S).c e2) (.slice b3 (StT.n5 S).d e3) (.slice b4 (StT.n5 S).e e4) := by rw [← hZ18]; exact ((((bR_14.out.set0 _).set1 _).set2 _).set3 _).set4 _
  have ht : Btn (w.heap.size + 1) (w.heap.size + 1 + 1) w4 Z18 := by rw [← hZ18]; exact ((((btn_set _ _ _ _).trans (btn_set _ _ _ _)).trans (btn_set _ _ _ _)).trans (btn_set _ _ _ _)).trans (btn_set _ _ _ _)
  have q0 := S_0.out
  have q1 := S_3.out
  have q2 := S_6.out
  have q3 := S_11.out
  have q4 := S_12b.out
  have q5 := S_17.out
  have HZ : Hid (Below w.heap.size w Z18) := E_17.out.trans (ht.below (by omega) E_17.out.size)
  have hs := ht.size
  have HM : Hid (M5 Z18 w.heap.size Z18.heap.size (.slice b0 (StT.n5 S).a e0) (.slice b1 (StT.n5 S).b e1) (.slice b2 (StT.n5 S).c e2) (.slice b3 (StT.n5 S).d e3) (.slice b4 (StT.n5 S).e e4) (StT.n5 S) (StT.f5 S)) := (m_15.out.btn ht (.inr (by omega))).wide (by omega) (by omega)
  clear q0 q1 q2 q3 q4 q5 ht hs
  go_wp2
  obtain ⟨t0, t1, t2, t3, t4, -, -, -, -, -⟩ := hz
  exact bodyPost_ret (v := .tuple #[.agg #[.slice b0 (StT.n5 S).a e0, .slice b1 (StT.n5 S).b e1, .slice b2 (StT.n5 S).c e2, .slice b3 (StT.n5 S).d e3, .slice b4 (StT.n5 S).e e4], .bool false]) (by simp [results, Tryd.results67, go_sem, t0, t1, t2, t3, t4]) rfl ⟨_, _, _, _, _, rfl, HM, HZ.out⟩


end Go.Proofs.YtadoihddmbbjoaaDoor
