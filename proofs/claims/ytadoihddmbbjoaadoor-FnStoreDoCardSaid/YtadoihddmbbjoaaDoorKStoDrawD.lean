/-
  A store and a request drawn: spec.DrawStoreDo.
-/
import Derived.Test.YtadoihddmbbjoaaDoorKStoBent
import Derived.Test.YtadoihddmbbjoaaDoorKStoAskN
import Derived.Test.YtadoihddmbbjoaaDoorKDraw2
namespace Go.Proofs.YtadoihddmbbjoaaDoor
open Go.RowKit

theorem btn_wideD {lo hi lo' hi' : Nat} {a b : World} (h : Btn lo hi a b) (h1 : lo' ≤ lo) (h2 : hi ≤ hi') : Btn lo' hi' a b :=
  ⟨h.os, h.tape, h.output, h.size, fun i hi0 hn => h.block i hi0 (fun q => hn ⟨by omega, by omega⟩)⟩
theorem cell_far5d {w : World} {b o R : Nat} {v u0 u1 u2 u3 u4 : Value} (h : w.cell? ⟨b, o, none⟩ = some v) (hne : b ≠ R) : (((((w.setCell ⟨R, 0, none⟩ u0).setCell ⟨R, 1, none⟩ u1).setCell ⟨R, 2, none⟩ u2).setCell ⟨R, 3, none⟩ u3).setCell ⟨R, 4, none⟩ u4).drew.cell? ⟨b, o, none⟩ = some v := by rw [World.cell?_drew]; exact cell_far5 h hne
theorem cell_far6 {w : World} {b o R : Nat} {v a0 a1 a2 a3 a4 a5 : Value} (h : w.cell? ⟨b, o, none⟩ = some v) (hne : b ≠ R) : ((((((w.setCell ⟨R, 0, none⟩ a0).setCell ⟨R, 1, none⟩ a1).setCell ⟨R, 2, none⟩ a2).setCell ⟨R, 3, none⟩ a3).setCell ⟨R, 4, none⟩ a4).setCell ⟨R, 5, none⟩ a5).cell? ⟨b, o, none⟩ = some v := by
  have ht : Btn R (R + 1) w ((((((w.setCell ⟨R, 0, none⟩ a0).setCell ⟨R, 1, none⟩ a1).setCell ⟨R, 2, none⟩ a2).setCell ⟨R, 3, none⟩ a3).setCell ⟨R, 4, none⟩ a4).setCell ⟨R, 5, none⟩ a5) := (((((btn_set _ _ _ _).trans (btn_set _ _ _ _)).trans (btn_set _ _ _ _)).trans (btn_set _ _ _ _)).trans (btn_set _ _ _ _)).trans (btn_set _ _ _ _)
  exact (World.cell?_of_block (a := ⟨b, o, none⟩) (ht.block b (World.block_lt_of_cell? w _ h) (by omega))).trans h
theorem cell_far6d {w : World} {b o R : Nat} {v a0 a1 a2 a3 a4 a5 : Value} (h : w.cell? ⟨b, o, none⟩ = some v) (hne : b ≠ R) : ((((((w.setCell ⟨R, 0, none⟩ a0).setCell ⟨R, 1, none⟩ a1).setCell ⟨R, 2, none⟩ a2).setCell ⟨R, 3, none⟩ a3).setCell ⟨R, 4, none⟩ a4).setCell ⟨R, 5, none⟩ a5).drew.cell? ⟨b, o, none⟩ = some v := by rw [World.cell?_drew]; exact cell_far6 h hne
theorem btn_undrewD {lo hi : Nat} {w w1 : World} (h : Btn lo hi w.drew w1) : Btn lo hi w w1 := ⟨h.os, h.tape, h.output, h.size, h.block⟩
/-- What a draw of a store and a request leaves. -/
def Dsq (w : World) (e : Ending) (w' : World) : Prop :=
  ∃ (S : StT) (q : ReqT) (v0 v1 v2 v3 v4 : Value), e = .returned (.tuple #[.agg #[v0, v1, v2, v3, v4], .agg (rqA q)]) ∧ szT S ∧ S.n5.le ∧ q.data.length ≤ 49 ∧ Hid (∀ w1, Btn 0 w.heap.size w' w1 → Sto w1 v0 v1 v2 v3 v4 S) ∧ Below w.heap.size w w'

set_option maxRecDepth 100000 in
set_option maxHeartbeats 8000000 in
theorem drawStoreDo_any (v : Value) (len : Nat) (w : World) (h : Byt w v len) : Calls Tryd.prog 15 #[v] w (Dsq w) := by
  obtain ⟨W, hW⟩ : ∃ W, (w.alloc (.cells #[.slice none 0 0, .slice none 0 0, .slice none 0 0, .slice none 0 0, .slice none 0 0] 30)).alloc (.cells #[.int .i64 0, .int .i64 0, .int .i64 0, .int .i64 0, .int .i64 0, .string ⟨#[]⟩] 34) = W := ⟨_, rfl⟩
  have hal : Below w.heap.size w W := by rw [← hW]; exact ((Below.refl _ _).alloc (Nat.le_refl _) _).alloc (by simp) _
  have R0 : Box5W W (w.heap.size) (.slice none 0 0) (.slice none 0 0) (.slice none 0 0) (.slice none 0 0) (.slice none 0 0) := by rw [← hW]; exact (new_box5W w _ _ _ _ _ _).keep ((Below.refl _ _).alloc (Nat.le_refl _) _)
  have P0 : Box6W W (w.heap.size + 1) ⟨0, 0, 0, 0, 0, []⟩ := by
    rw [← hW, show w.heap.size + 1 = (w.alloc (.cells #[.slice none 0 0, .slice none 0 0, .slice none 0 0, .slice none 0 0, .slice none 0 0] 30)).heap.size by simp]
    exact new_box6W _ ⟨0, 0, 0, 0, 0, []⟩ _
  have hl : w.heap.size + 1 < W.heap.size := by rw [← hW]; simp
  have HO := Lib.hid (open_any v len W (h.keep hal))
  have R0 := Lib.hid R0
  have P0 := Lib.hid P0
  have hal := Lib.hid hal
  clear h
  go_enter Tryd.func15, Tryd.ntmps15
  go_wp2_with fail
  clear hW
  refine HO.out.mono ?_; rintro e w1 ⟨rb, rfl, hrb, hr, hb⟩
  have HR1 := Lib.hid (R0.out.keep hb)
  have HP1 := Lib.hid (P0.out.keep hb)
  have HE1 := Lib.hid (hal.out.trans (hb.mono hal.out.size))
  have HRd := Lib.hid hr
  have s1 := hb.size
  clear hb hr R0 P0 HO hal
  go_wp2_with fail
  refine (l5Some_any rb 0 w1 HRd.out (by omega)).mono ?_; rintro e w2 ⟨S0, u0, u1, u2, u3, u4, lo, hi, p1, rfl, hok, hlo, hhi, M, hr, hp1, hg⟩
  have HR2 := Lib.hid (HR1.out.btn (grown_btn hg) (.inl (by omega)))
  have HP2 := Lib.hid (HP1.out.btn (grown_btn hg) (.inl (by omega)))
  have HE2 := Lib.hid (HE1.out.trans (below_grown hg (by omega) HE1.out.size))
  have hrl := HRd.out.lt'
  have HRd2 := Lib.hid hr
  have HOK := Lib.hid hok
  have s2 := hg.size
  clear hg hr hok HR1 HP1 HE1 HRd
  obtain ⟨a0, c0, rfl⟩ := M.out.a.vls.form
  obtain ⟨a1, c1, rfl⟩ := M.out.b.vls.form
  obtain ⟨a2, c2, rfl⟩ := M.out.c.vls.form
  obtain ⟨a3, c3, rfl⟩ := M.out.d.vls.form
  obtain ⟨a4, c4, rfl⟩ := M.out.e.vls.form
  go_wp2_with fail
  refine (l5Bent_any rb p1 _ _ _ _ _ S0 w2 HRd2.out (by omega) M.out.sto (szT_of HOK.out) (le_of HOK.out)).mono ?_; rintro e w3 ⟨S, y0, y1, y2, y3, y4, p2, rfl, hz, hn, HS, hr, hp2, hg⟩
  have HR3 := Lib.hid (HR2.out.btn (grown_btn hg) (.inl (by omega)))
  have HP3 := Lib.hid (HP2.out.btn (grown_btn hg) (.inl (by omega)))
  have HE3 := Lib.hid (HE2.out.trans (below_grown hg (by omega) HE2.out.size))
  have HRd3 := Lib.hid hr
  have HZ := Lib.hid hz
  have HN := Lib.hid hn
  have s3 := hg.size
  clear hg hr HR2 HP2 HE2 HRd2 hz hn M HOK
  have hq := HS.out w3 (Btn.refl _ _ _)
  obtain ⟨f0, d0, rfl⟩ := hq.now.form
  obtain ⟨f1, d1, rfl⟩ := hq.sure.form
  obtain ⟨f2, d2, rfl⟩ := hq.last.form
  obtain ⟨f3, d3, rfl⟩ := hq.slast.form
  obtain ⟨f4, d4, rfl⟩ := hq.floors.form
  clear hq
  obtain ⟨X, hX⟩ : ∃ X, w3.alloc (.cells #[.slice f0 S.now.length d0, .slice f1 S.sure.length d1, .slice f2 S.last.length d2, .slice f3 S.slast.length d3, .slice f4 S.floors.length d4] 30) = X := ⟨_, rfl⟩
  have hb : Below w3.heap.size w3 X := by rw [← hX]; exact (Below.refl _ _).alloc (Nat.le_refl _) _
  have HB4 : Hid (Box5W X w3.heap.size (.slice f0 S.now.length d0) (.slice f1 S.sure.length d1) (.slice f2 S.last.length d2) (.slice f3 S.slast.length d3) (.slice f4 S.floors.length d4)) := by rw [← hX]; exact new_box5W _ _ _ _ _ _ _
  have sX : w3.heap.size < X.heap.size := by rw [← hX]; simp
  have HR4 := Lib.hid (HR3.out.keep hb)
  have HP4 := Lib.hid (HP3.out.keep hb)
  have HE4 := Lib.hid (HE3.out.trans (hb.mono HE3.out.size))
  have HRd4 := Lib.hid (HRd3.out.keep hb)
  have HS4 : Hid (∀ w1, Btn 0 w2.heap.size X w1 → Sto w1 (.slice f0 S.now.length d0) (.slice f1 S.sure.length d1) (.slice f2 S.last.length d2) (.slice f3 S.slast.length d3) (.slice f4 S.floors.length d4) S) := fun w1 h => HS.out w1 (Btn.trans (Btn.of_below hb) h)
  clear hb HR3 HP3 HE3 HRd3 HS
  obtain ⟨x0, x1, x2, x3, x4, -, -, -, -, -⟩ := HB4.out
  go_wp2_with fail
  clear hX
  have hD : Below X.heap.size X X.drew := (Below.refl _ _).drew
  go_region_held3 (fun w' => w'.cell? ⟨w3.heap.size, 0, none⟩ = some (.slice f0 S.now.length d0) ∧ w'.cell? ⟨w3.heap.size, 1, none⟩ = some (.slice f1 S.sure.length d1) ∧ w'.cell? ⟨w3.heap.size, 2, none⟩ = some (.slice f2 S.last.length d2) ∧ w'.cell? ⟨w3.heap.size, 3, none⟩ = some (.slice f3 S.slast.length d3) ∧ w'.cell? ⟨w3.heap.size, 4, none⟩ = some (.slice f4 S.floors.length d4))
    (refine ⟨?_, ?_, ?_, ?_, ?_⟩ <;> first | (with_reducible assumption) | (with_reducible refine cell_far5d ?_ ?_ <;> first | omega | (with_reducible assumption)) | (with_reducible refine cell_far5 ?_ ?_ <;> first | omega | (with_reducible assumption)) | (with_reducible refine cell_far6d (cell_far5 ?_ ?_) ?_ <;> first | omega | (with_reducible assumption)) | (with_reducible refine cell_far6 (cell_far5 ?_ ?_) ?_ <;> first | omega | (with_reducible assumption)) | (with_reducible refine cell_far6d ?_ ?_ <;> first | omega | (with_reducible assumption)) | (with_reducible refine cell_far6 ?_ ?_ <;> first | omega | (with_reducible assumption)) | (go_keep; done))
    (first | (go_at_call 41; refine (l5Ask_any rb p2 _ _ _ _ _ S _ (HRd4.out.keep hD) (by omega) (fun w1 hg => HS4.out w1 (btn_wideD (grown_btn (grown_trans (grown_below hD (some rb)) hg)) (Nat.zero_le _) (by omega)))).mono ?_; rintro e r1 ⟨q, p5, rfl, hdq, hr, hp5, hg0⟩; have HG := Lib.hid (grown_trans (grown_below hD (some rb)) hg0); have HDQ := Lib.hid hdq; have sz := hg0.size; have ht := grown_btn HG.out; obtain ⟨y0, y1, y2, y3, y4, -, -, -, -, -⟩ := HB4.out.btn ht (.inr (by omega)); obtain ⟨t0, t1, t2, t3, t4, m0, m1, m2, m3, m4⟩ := HR4.out.btn ht (.inl (by omega)); obtain ⟨l0, l1, l2, l3, l4, l5, k0, k1, k2, k3, k4, k5⟩ := HP4.out.btn ht (.inl (by omega))))
  obtain ⟨Z1, hZ1⟩ : ∃ X, (((((r1.setCell ⟨w.heap.size, 0, none⟩ (.slice f0 S.now.length d0)).setCell ⟨w.heap.size, 1, none⟩ (.slice f1 S.sure.length d1)).setCell ⟨w.heap.size, 2, none⟩ (.slice f2 S.last.length d2)).setCell ⟨w.heap.size, 3, none⟩ (.slice f3 S.slast.length d3)).setCell ⟨w.heap.size, 4, none⟩ (.slice f4 S.floors.length d4)) = X := ⟨_, rfl⟩
  rw [hZ1]
  have ht := grown_btn HG.out
  have hzb : Box5W Z1 (w.heap.size) (.slice f0 S.now.length d0) (.slice f1 S.sure.length d1) (.slice f2 S.last.length d2) (.slice f3 S.slast.length d3) (.slice f4 S.floors.length d4) := by rw [← hZ1]; exact (((((HR4.out.btn ht (.inl (by omega))).set0 _).set1 _).set2 _).set3 _).set4 _
  have ht1 : Btn (w.heap.size) (w.heap.size + 1) r1 Z1 := by rw [← hZ1]; exact ((((btn_set _ _ _ _).trans (btn_set _ _ _ _)).trans (btn_set _ _ _ _)).trans (btn_set _ _ _ _)).trans (btn_set _ _ _ _)
  have hP := (HP4.out.btn ht (.inl (by omega))).btn ht1 (.inr (by omega))
  obtain ⟨Z, hZ⟩ : ∃ X, ((((((Z1.setCell ⟨w.heap.size + 1, 0, none⟩ (.int .i64 q.who)).setCell ⟨w.heap.size + 1, 1, none⟩ (.int .i64 q.ep)).setCell ⟨w.heap.size + 1, 2, none⟩ (.int .i64 q.num)).setCell ⟨w.heap.size + 1, 3, none⟩ (.int .i64 q.obj)).setCell ⟨w.heap.size + 1, 4, none⟩ (.int .i64 q.pos)).setCell ⟨w.heap.size + 1, 5, none⟩ (.string (mkB q.data))) = X := ⟨_, rfl⟩
  rw [hZ]
  have ht2 : Btn (w.heap.size + 1) (w.heap.size + 1 + 1) Z1 Z := by rw [← hZ]; exact (((((btn_set _ _ _ _).trans (btn_set _ _ _ _)).trans (btn_set _ _ _ _)).trans (btn_set _ _ _ _)).trans (btn_set _ _ _ _)).trans (btn_set _ _ _ _)
  have hzc := hzb.btn ht2 (.inl (by omega))
  have hzd : Box6W Z (w.heap.size + 1) q := by
    rw [← hZ]
    have h := (((((hP.set0 q.who).set1 q.ep).set2 q.num).set3 q.obj).set4 q.pos).set5 q.data
    exact h
  have hE0 := HE4.out.trans (below_grown HG.out (by omega) HE4.out.size)
  have hE1 := hE0.trans (ht1.below (Nat.le_refl _) hE0.size)
  have HBF := Lib.hid (hE1.trans (ht2.below (by omega) hE1.size))
  have HF : Hid (∀ w1, Btn 0 w.heap.size Z w1 → Sto w1 (.slice f0 S.now.length d0) (.slice f1 S.sure.length d1) (.slice f2 S.last.length d2) (.slice f3 S.slast.length d3) (.slice f4 S.floors.length d4) S) := fun w1 hb => HS4.out w1 ((btn_wideD ht (Nat.zero_le _) (by omega)).trans ((btn_wideD ht1 (Nat.zero_le _) (by omega)).trans ((btn_wideD ht2 (Nat.zero_le _) (by omega)).trans (btn_wideD hb (Nat.le_refl _) (by omega)))))
  clear ht ht1 ht2 hzb hP hE0 hE1 HR4 HP4 HE4 HS4 HG hZ1 hZ hD hr hg0
  go_wp2
  obtain ⟨t0, t1, t2, t3, t4, -, -, -, -, -⟩ := hzc
  obtain ⟨l0, l1, l2, l3, l4, l5, -, -, -, -, -, -⟩ := hzd
  exact bodyPost_ret (v := .tuple #[.agg #[.slice f0 S.now.length d0, .slice f1 S.sure.length d1, .slice f2 S.last.length d2, .slice f3 S.slast.length d3, .slice f4 S.floors.length d4], .agg (rqA q)]) (by simp [results, Tryd.results15, go_sem, t0, t1, t2, t3, t4, l0, l1, l2, l3, l4, l5, rqA]) rfl ⟨S, q, _, _, _, _, _, rfl, HZ.out, HN.out, HDQ.out, HF, HBF.out⟩

end Go.Proofs.YtadoihddmbbjoaaDoor
