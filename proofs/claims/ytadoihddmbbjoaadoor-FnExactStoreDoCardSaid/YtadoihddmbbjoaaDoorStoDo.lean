/-
  The model's StoreDo.
-/
import Derived.Test.YtadoihddmbbjoaaDoorStoDoF
import Derived.Test.YtadoihddmbbjoaaDoorStoCopy
import Derived.Deep.RegionHeld3
namespace Go.Proofs.YtadoihddmbbjoaaDoor
open Go.RowKit

theorem cell_far5 {w : World} {b o R : Nat} {v u0 u1 u2 u3 u4 : Value} (h : w.cell? ⟨b, o, none⟩ = some v) (hne : b ≠ R) : (((((w.setCell ⟨R, 0, none⟩ u0).setCell ⟨R, 1, none⟩ u1).setCell ⟨R, 2, none⟩ u2).setCell ⟨R, 3, none⟩ u3).setCell ⟨R, 4, none⟩ u4).cell? ⟨b, o, none⟩ = some v := by
  have ht : Btn R (R + 1) w (((((w.setCell ⟨R, 0, none⟩ u0).setCell ⟨R, 1, none⟩ u1).setCell ⟨R, 2, none⟩ u2).setCell ⟨R, 3, none⟩ u3).setCell ⟨R, 4, none⟩ u4) := ((((btn_set _ _ _ _).trans (btn_set _ _ _ _)).trans (btn_set _ _ _ _)).trans (btn_set _ _ _ _)).trans (btn_set _ _ _ _)
  exact (World.cell?_of_block (a := ⟨b, o, none⟩) (ht.block b (World.block_lt_of_cell? w _ h) (by omega))).trans h
/-- What a function that makes a store and a number leaves. -/
def ToSK (w : World) (S : StT) (c : Int) (e : Ending) (w' : World) : Prop :=
  ∃ v0 v1 v2 v3 v4, e = .returned (.tuple #[.agg #[v0, v1, v2, v3, v4], .int .i64 c]) ∧ Hid (M5 w' w.heap.size w'.heap.size v0 v1 v2 v3 v4 S.n5 S.f5) ∧ Below w.heap.size w w'

set_option maxRecDepth 100000 in
set_option maxHeartbeats 8000000 in
theorem specDo_no (v0 v1 v2 v3 v4 : Value) (S : StT) (q : ReqT) (w : World) (h : Sto w v0 v1 v2 v3 v4 S) (hz : szT S) (hs : stOkB S = false) (hd : q.data.length ≤ 9000000) :
    Calls Tryd.prog 8 #[.agg #[v0, v1, v2, v3, v4], .agg (rqA q)] w (ToSK w (doT S q) (doK S q)) := by
  have hT : doT S q = st0 := by unfold doT; rw [if_neg (by rw [hs]; simp)]
  have hK : doK S q = 1 := by unfold doK; rw [if_neg (by rw [hs]; simp)]
  rw [hT, hK]
  clear hT hK
  obtain ⟨who, ep, num, obj, pos, data⟩ := q
  obtain ⟨a0, c0, rfl⟩ := h.now.form
  obtain ⟨a1, c1, rfl⟩ := h.sure.form
  obtain ⟨a2, c2, rfl⟩ := h.last.form
  obtain ⟨a3, c3, rfl⟩ := h.slast.form
  obtain ⟨a4, c4, rfl⟩ := h.floors.form
  obtain ⟨W, hW⟩ : ∃ W, ((w.alloc (.cells #[.slice a0 S.now.length c0, .slice a1 S.sure.length c1, .slice a2 S.last.length c2, .slice a3 S.slast.length c3, .slice a4 S.floors.length c4] 30)).alloc (.cells (rqA ⟨who, ep, num, obj, pos, data⟩) 34)).alloc (.cells #[.slice none 0 0, .slice none 0 0, .slice none 0 0, .slice none 0 0, .slice none 0 0] 30) = W := ⟨_, rfl⟩
  have hal : Below w.heap.size w W := by rw [← hW]; exact (((Below.refl _ _).alloc (Nat.le_refl _) _).alloc (by simp) _).alloc (by simp; omega) _
  have A0 : Box5 W w.heap.size (.slice a0 S.now.length c0) (.slice a1 S.sure.length c1) (.slice a2 S.last.length c2) (.slice a3 S.slast.length c3) (.slice a4 S.floors.length c4) := by rw [← hW]; exact ((new_box5 w _ _ _ _ _ _).keep ((Below.refl _ _).alloc (Nat.le_refl _) _)).keep ((Below.refl _ _).alloc (Nat.le_refl _) _)
  have B0 : Box6 W (w.heap.size + 1) ⟨who, ep, num, obj, pos, data⟩ := by
    rw [← hW]
    have := (new_box6 (w.alloc (.cells #[.slice a0 S.now.length c0, .slice a1 S.sure.length c1, .slice a2 S.last.length c2, .slice a3 S.slast.length c3, .slice a4 S.floors.length c4] 30)) ⟨who, ep, num, obj, pos, data⟩ 34).keep ((Below.refl _ _).alloc (Nat.le_refl _) (.cells #[.slice none 0 0, .slice none 0 0, .slice none 0 0, .slice none 0 0, .slice none 0 0] 30))
    simpa using this
  have R0 : Box5W W (w.heap.size + 2) (.slice none 0 0) (.slice none 0 0) (.slice none 0 0) (.slice none 0 0) (.slice none 0 0) := by
    rw [← hW]
    have := new_box5W ((w.alloc (.cells #[.slice a0 S.now.length c0, .slice a1 S.sure.length c1, .slice a2 S.last.length c2, .slice a3 S.slast.length c3, .slice a4 S.floors.length c4] 30)).alloc (.cells (rqA ⟨who, ep, num, obj, pos, data⟩) 34)) (.slice none 0 0) (.slice none 0 0) (.slice none 0 0) (.slice none 0 0) (.slice none 0 0) 30
    simpa using this
  have hl : w.heap.size + 2 < W.heap.size := by rw [← hW]; simp
  have E_0 := Lib.hid hal
  have S_0 := Lib.hid hl
  have bA_0 := Lib.hid A0
  have bQ_0 := Lib.hid B0
  have bR_0 := Lib.hid R0
  have HH := Lib.hid h
  have K0 := specStoreOk_any _ _ _ _ _ S W (h.keep hal) hz
  rw [hs] at K0
  have K := Lib.hid K0
  clear hal A0 B0 R0 hl h K0
  obtain ⟨x00, x01, x02, x03, x04⟩ := bA_0.out
  go_enter Tryd.func8, Tryd.ntmps8
  go_wp2_with fail
  clear hW
  refine K.out.mono ?_; rintro e w1 ⟨rfl, hb⟩
  have bA_1 := Lib.hid (bA_0.out.keep hb)
  have bQ_2 := Lib.hid (bQ_0.out.keep hb)
  have bR_3 := Lib.hid (bR_0.out.keep hb)
  have E_4 := Lib.hid (E_0.out.trans (hb.mono E_0.out.size))
  have S_4 := Lib.hid hb.size
  clear x00 x01 x02 x03 x04
  clear bA_0 bQ_0 bR_0 E_0 hb
  clear K
  obtain ⟨x00, x01, x02, x03, x04, x05, x06, x07, x08, x09⟩ := bR_3.out
  obtain ⟨Zn, hZn⟩ : ∃ X, (((((w1.setCell ⟨w.heap.size + 2, 0, none⟩ (.slice none 0 0)).setCell ⟨w.heap.size + 2, 1, none⟩ (.slice none 0 0)).setCell ⟨w.heap.size + 2, 2, none⟩ (.slice none 0 0)).setCell ⟨w.heap.size + 2, 3, none⟩ (.slice none 0 0)).setCell ⟨w.heap.size + 2, 4, none⟩ (.slice none 0 0)) = X := ⟨_, rfl⟩
  have hz : Box5W Zn (w.heap.size + 2) (.slice none 0 0) (.slice none 0 0) (.slice none 0 0) (.slice none 0 0) (.slice none 0 0) := by rw [← hZn]; exact ((((bR_3.out.set0 _).set1 _).set2 _).set3 _).set4 _
  have ht : Btn (w.heap.size + 2) (w.heap.size + 2 + 1) w1 Zn := by rw [← hZn]; exact ((((btn_set _ _ _ _).trans (btn_set _ _ _ _)).trans (btn_set _ _ _ _)).trans (btn_set _ _ _ _)).trans (btn_set _ _ _ _)
  have q0 := S_0.out
  have q1 := S_4.out
  have HZ : Hid (Below w.heap.size w Zn) := E_4.out.trans (ht.below (by omega) E_4.out.size)
  clear q0 q1 ht
  go_wp2
  obtain ⟨t0, t1, t2, t3, t4, -, -, -, -, -⟩ := hz
  exact bodyPost_ret (v := .tuple #[.agg #[.slice none 0 0, .slice none 0 0, .slice none 0 0, .slice none 0 0, .slice none 0 0], .int .i64 1]) (by simp [results, Tryd.results8, go_sem, t0, t1, t2, t3, t4]) rfl ⟨_, _, _, _, _, rfl, M5.none _ _ _, HZ.out⟩

set_option maxRecDepth 100000 in
set_option maxHeartbeats 8000000 in
theorem specDo_yes (v0 v1 v2 v3 v4 : Value) (S : StT) (q : ReqT) (w : World) (h : Sto w v0 v1 v2 v3 v4 S) (hz : szT S) (hn : S.n5.le) (hs : stOkB S = true) (hd : q.data.length ≤ 9000000) :
    Calls Tryd.prog 8 #[.agg #[v0, v1, v2, v3, v4], .agg (rqA q)] w (ToSK w (doT S q) (doK S q)) := by
  have hT : doT S q = doS S q := by unfold doT; rw [if_pos hs]
  have hK : doK S q = doC S q := by unfold doK; rw [if_pos hs]
  rw [hT, hK]
  clear hT hK
  obtain ⟨who, ep, num, obj, pos, data⟩ := q
  obtain ⟨C, hC⟩ : ∃ C, doC S ⟨who, ep, num, obj, pos, data⟩ = C := ⟨_, rfl⟩
  obtain ⟨T, hT⟩ : ∃ C, doS S ⟨who, ep, num, obj, pos, data⟩ = C := ⟨_, rfl⟩
  have KD : Hid (∀ v0 v1 v2 v3 v4 lo hi w, M5 w lo hi v0 v1 v2 v3 v4 S.n5 S.f5 → hi ≤ w.heap.size → Calls Tryd.prog 24 #[.agg #[v0, v1, v2, v3, v4], .agg (rqA ⟨who, ep, num, obj, pos, data⟩)] w fun e w' => e = .returned (.tuple #[.agg #[v0, v1, v2, v3, v4], .int .i64 C]) ∧ Hid (M5 w' lo hi v0 v1 v2 v3 v4 T.n5 T.f5) ∧ Btn lo hi w w') := fun v0 v1 v2 v3 v4 lo hi w h1 h2 => by
    have := l5Do_any v0 v1 v2 v3 v4 S ⟨who, ep, num, obj, pos, data⟩ lo hi w h1 h2 hs hd
    unfold DoSt at this
    rwa [hC, hT] at this
  rw [hC, hT]
  have HN := Lib.hid hn
  clear hC hT hn hd
  obtain ⟨a0, c0, rfl⟩ := h.now.form
  obtain ⟨a1, c1, rfl⟩ := h.sure.form
  obtain ⟨a2, c2, rfl⟩ := h.last.form
  obtain ⟨a3, c3, rfl⟩ := h.slast.form
  obtain ⟨a4, c4, rfl⟩ := h.floors.form
  obtain ⟨W, hW⟩ : ∃ W, ((w.alloc (.cells #[.slice a0 S.now.length c0, .slice a1 S.sure.length c1, .slice a2 S.last.length c2, .slice a3 S.slast.length c3, .slice a4 S.floors.length c4] 30)).alloc (.cells (rqA ⟨who, ep, num, obj, pos, data⟩) 34)).alloc (.cells #[.slice none 0 0, .slice none 0 0, .slice none 0 0, .slice none 0 0, .slice none 0 0] 30) = W := ⟨_, rfl⟩
  have hal : Below w.heap.size w W := by rw [← hW]; exact (((Below.refl _ _).alloc (Nat.le_refl _) _).alloc (by simp) _).alloc (by simp; omega) _
  have A0 : Box5 W w.heap.size (.slice a0 S.now.length c0) (.slice a1 S.sure.length c1) (.slice a2 S.last.length c2) (.slice a3 S.slast.length c3) (.slice a4 S.floors.length c4) := by rw [← hW]; exact ((new_box5 w _ _ _ _ _ _).keep ((Below.refl _ _).alloc (Nat.le_refl _) _)).keep ((Below.refl _ _).alloc (Nat.le_refl _) _)
  have B0 : Box6 W (w.heap.size + 1) ⟨who, ep, num, obj, pos, data⟩ := by
    rw [← hW]
    have := (new_box6 (w.alloc (.cells #[.slice a0 S.now.length c0, .slice a1 S.sure.length c1, .slice a2 S.last.length c2, .slice a3 S.slast.length c3, .slice a4 S.floors.length c4] 30)) ⟨who, ep, num, obj, pos, data⟩ 34).keep ((Below.refl _ _).alloc (Nat.le_refl _) (.cells #[.slice none 0 0, .slice none 0 0, .slice none 0 0, .slice none 0 0, .slice none 0 0] 30))
    simpa using this
  have R0 : Box5W W (w.heap.size + 2) (.slice none 0 0) (.slice none 0 0) (.slice none 0 0) (.slice none 0 0) (.slice none 0 0) := by
    rw [← hW]
    have := new_box5W ((w.alloc (.cells #[.slice a0 S.now.length c0, .slice a1 S.sure.length c1, .slice a2 S.last.length c2, .slice a3 S.slast.length c3, .slice a4 S.floors.length c4] 30)).alloc (.cells (rqA ⟨who, ep, num, obj, pos, data⟩) 34)) (.slice none 0 0) (.slice none 0 0) (.slice none 0 0) (.slice none 0 0) (.slice none 0 0) 30
    simpa using this
  have hl : w.heap.size + 2 < W.heap.size := by rw [← hW]; simp
  have E_0 := Lib.hid hal
  have S_0 := Lib.hid hl
  have bA_0 := Lib.hid A0
  have bQ_0 := Lib.hid B0
  have bR_0 := Lib.hid R0
  have HH := Lib.hid h
  have K0 := specStoreOk_any _ _ _ _ _ S W (h.keep hal) hz
  rw [hs] at K0
  have K := Lib.hid K0
  clear hal A0 B0 R0 hl h K0
  obtain ⟨x00, x01, x02, x03, x04⟩ := bA_0.out
  go_enter Tryd.func8, Tryd.ntmps8
  go_wp2_with fail
  clear hW
  refine K.out.mono ?_; rintro e w1 ⟨rfl, hb⟩
  have bA_1 := Lib.hid (bA_0.out.keep hb)
  have bQ_2 := Lib.hid (bQ_0.out.keep hb)
  have bR_3 := Lib.hid (bR_0.out.keep hb)
  have E_4 := Lib.hid (E_0.out.trans (hb.mono E_0.out.size))
  have S_4 := Lib.hid hb.size
  clear x00 x01 x02 x03 x04
  clear bA_0 bQ_0 bR_0 E_0 hb
  clear K
  clear hs hz
  obtain ⟨x00, x01, x02, x03, x04⟩ := bA_1.out
  obtain ⟨x10, x11, x12, x13, x14, x15⟩ := bQ_2.out
  go_wp2_with fail
  have hD : Below w1.heap.size w1 w1.drew := (Below.refl _ _).drew
  have q0 := S_0.out
  have q1 := S_4.out
  go_region_held3 (fun w' => w'.cell? ⟨w.heap.size, 0, none⟩ = some (.slice a0 S.now.length c0) ∧ w'.cell? ⟨w.heap.size, 1, none⟩ = some (.slice a1 S.sure.length c1) ∧ w'.cell? ⟨w.heap.size, 2, none⟩ = some (.slice a2 S.last.length c2) ∧ w'.cell? ⟨w.heap.size, 3, none⟩ = some (.slice a3 S.slast.length c3) ∧ w'.cell? ⟨w.heap.size, 4, none⟩ = some (.slice a4 S.floors.length c4) ∧ w'.cell? ⟨w.heap.size + 1, 0, none⟩ = some (.int .i64 who) ∧ w'.cell? ⟨w.heap.size + 1, 1, none⟩ = some (.int .i64 ep) ∧ w'.cell? ⟨w.heap.size + 1, 2, none⟩ = some (.int .i64 num) ∧ w'.cell? ⟨w.heap.size + 1, 3, none⟩ = some (.int .i64 obj) ∧ w'.cell? ⟨w.heap.size + 1, 4, none⟩ = some (.int .i64 pos) ∧ w'.cell? ⟨w.heap.size + 1, 5, none⟩ = some (.string (mkB data)))
    (refine ⟨?_, ?_, ?_, ?_, ?_, ?_, ?_, ?_, ?_, ?_, ?_⟩ <;> first | (with_reducible refine cell_far5 ?_ ?_ <;> first | omega | assumption | (refine cell_keep hb ?_; first | assumption | (go_keep; done) | (go_simp; done))) | (go_keep; done) | (refine cell_keep hb ?_; first | (go_keep; done) | (go_simp; done)))
    (first
      | (go_at_call 24; refine (KD.out _ _ _ _ _ _ _ _ M.out (Nat.le_refl _)).mono ?_; rintro e r1 ⟨rfl, M2, hbt⟩; have hm := hb.size; have hr0 := hbt.size; have hd1 : w1.heap.size ≤ w1.drew.heap.size := hD.size; have hb : Below w1.drew.heap.size w1.drew r1 := hb.trans (hbt.below (Nat.le_refl _) hm); have hR1 := hD.trans (hb.mono hD.size); obtain ⟨s0, s1, s2, s3, s4, f0, f1, f2, f3, f4⟩ := bR_3.out.keep hR1)
      | (go_at_call 25; refine (l5Copy_any _ _ _ _ _ S _ (HH.out.keep (E_4.out.trans (hD.mono E_4.out.size))) HN.out).mono ?_; rintro e r0 ⟨y0, y1, y2, y3, y4, rfl, M, hb⟩; have hR0 := hD.trans (hb.mono hD.size); obtain ⟨b0, e0, rfl⟩ := M.out.a.vls.form; obtain ⟨b1, e1, rfl⟩ := M.out.b.vls.form; obtain ⟨b2, e2, rfl⟩ := M.out.c.vls.form; obtain ⟨b3, e3, rfl⟩ := M.out.d.vls.form; obtain ⟨b4, e4, rfl⟩ := M.out.e.vls.form))
  obtain ⟨Z, hZ⟩ : ∃ X, (((((r1.setCell ⟨w.heap.size + 1 + 1, 0, none⟩ (.slice b0 S.n5.a e0)).setCell ⟨w.heap.size + 1 + 1, 1, none⟩ (.slice b1 S.n5.b e1)).setCell ⟨w.heap.size + 1 + 1, 2, none⟩ (.slice b2 S.n5.c e2)).setCell ⟨w.heap.size + 1 + 1, 3, none⟩ (.slice b3 S.n5.d e3)).setCell ⟨w.heap.size + 1 + 1, 4, none⟩ (.slice b4 S.n5.e e4)) = X := ⟨_, rfl⟩
  rw [hZ]
  have hzz : Box5W Z (w.heap.size + 2) (.slice b0 S.n5.a e0) (.slice b1 S.n5.b e1) (.slice b2 S.n5.c e2) (.slice b3 S.n5.d e3) (.slice b4 S.n5.e e4) := by rw [← hZ]; exact (((((bR_3.out.keep hR1).set0 _).set1 _).set2 _).set3 _).set4 _
  have htz : Btn (w.heap.size + 2) (w.heap.size + 2 + 1) r1 Z := by rw [← hZ]; exact ((((btn_set _ _ _ _).trans (btn_set _ _ _ _)).trans (btn_set _ _ _ _)).trans (btn_set _ _ _ _)).trans (btn_set _ _ _ _)
  have hE1 := E_4.out.trans (hR1.mono E_4.out.size)
  have HZ : Hid (Below w.heap.size w Z) := hE1.trans (htz.below (by omega) hE1.size)
  have hsz := htz.size
  have HM : Hid (M5 Z w.heap.size Z.heap.size (.slice b0 S.n5.a e0) (.slice b1 S.n5.b e1) (.slice b2 S.n5.c e2) (.slice b3 S.n5.d e3) (.slice b4 S.n5.e e4) T.n5 T.f5) := (M2.out.btn htz (.inr (by omega))).wide (by omega) (by omega)
  clear htz hE1 M2 hZ s0 s1 s2 s3 s4 f0 f1 f2 f3 f4
  go_wp2
  obtain ⟨t0, t1, t2, t3, t4, -, -, -, -, -⟩ := hzz
  exact bodyPost_ret (v := .tuple #[.agg #[.slice b0 S.n5.a e0, .slice b1 S.n5.b e1, .slice b2 S.n5.c e2, .slice b3 S.n5.d e3, .slice b4 S.n5.e e4], .int .i64 C]) (by simp [results, Tryd.results8, go_sem, t0, t1, t2, t3, t4]) rfl ⟨_, _, _, _, _, rfl, HM, HZ.out⟩

theorem specDo_any (v0 v1 v2 v3 v4 : Value) (S : StT) (q : ReqT) (w : World) (h : Sto w v0 v1 v2 v3 v4 S) (hz : szT S) (hn : S.n5.le) (hd : q.data.length ≤ 9000000) :
    Calls Tryd.prog 8 #[.agg #[v0, v1, v2, v3, v4], .agg (rqA q)] w (ToSK w (doT S q) (doK S q)) := by
  by_cases hs : stOkB S = true
  · exact specDo_yes _ _ _ _ _ S q w h hz hn hs hd
  · exact specDo_no _ _ _ _ _ S q w h hz (by simpa using hs) hd

end Go.Proofs.YtadoihddmbbjoaaDoor
