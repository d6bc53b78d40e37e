/-
  Stores drawn: spec.DrawStoreOk, DrawStoreFall.
-/
import Derived.Test.YtjknmocimenagaaStoBent
import Derived.Test.YtjknmocimenagaaDraw2
namespace Go.Proofs.Ytjknmocimenagaa
open Go.RowKit

theorem btn_wide {lo hi lo' hi' : Nat} {a b : World} (h : Btn lo hi a b) (h1 : lo' ≤ lo) (h2 : hi ≤ hi') : Btn lo' hi' a b :=
  ⟨h.os, h.tape, h.output, h.size, fun i hi0 hn => h.block i hi0 (fun q => hn ⟨by omega, by omega⟩)⟩
/-- What a draw of a store leaves. -/
def Dsto (w : World) (e : Ending) (w' : World) : Prop :=
  ∃ (S : StT) (v0 v1 v2 v3 v4 : Value), e = .returned (.agg #[v0, v1, v2, v3, v4]) ∧ szT S ∧ S.n5.le ∧ Hid (∀ w1, Btn 0 w.heap.size w' w1 → Sto w1 v0 v1 v2 v3 v4 S) ∧ Below w.heap.size w w'

set_option maxRecDepth 100000 in
set_option maxHeartbeats 8000000 in
theorem drawStoreOk_any (v : Value) (len : Nat) (w : World) (h : Byt w v len) : Calls Try.prog 24 #[v] w (Dsto w) := by
  obtain ⟨W, hW⟩ : ∃ W, w.alloc (.cells #[.slice none 0 0, .slice none 0 0, .slice none 0 0, .slice none 0 0, .slice none 0 0] 26) = W := ⟨_, rfl⟩
  have hal : Below w.heap.size w W := by rw [← hW]; exact (Below.refl _ _).alloc (Nat.le_refl _) _
  have R0 : Box5W W (w.heap.size) (.slice none 0 0) (.slice none 0 0) (.slice none 0 0) (.slice none 0 0) (.slice none 0 0) := by rw [← hW]; exact new_box5W _ _ _ _ _ _ _
  have hl : w.heap.size < W.heap.size := by rw [← hW]; simp
  have HO := Lib.hid (open_any v len W (h.keep hal))
  have R0 := Lib.hid R0
  have hal := Lib.hid hal
  clear h
  go_enter Try.func24, Try.ntmps24
  go_wp2_with fail
  clear hW
  refine HO.out.mono ?_; rintro e w1 ⟨rb, rfl, hrb, hr, hb⟩
  have HR1 := Lib.hid (R0.out.keep hb)
  have HE1 := Lib.hid (hal.out.trans (hb.mono hal.out.size))
  have HRd := Lib.hid hr
  have s1 := hb.size
  clear hb hr R0 HO hal
  go_wp2_with fail
  refine (l5Some_any rb 0 w1 HRd.out (by omega)).mono ?_; rintro e w2 ⟨S0, u0, u1, u2, u3, u4, lo, hi, p1, rfl, hok, hlo, hhi, M, hr, hp1, hg⟩
  have HR2 := Lib.hid (HR1.out.btn (grown_btn hg) (.inl (by omega)))
  have HE2 := Lib.hid (HE1.out.trans (below_grown hg (by omega) HE1.out.size))
  have HRd2 := Lib.hid hr
  have HOK := Lib.hid hok
  have s2 := hg.size
  clear hg hr hok HR1 HE1 HRd
  obtain ⟨a0, c0, rfl⟩ := M.out.a.vls.form
  obtain ⟨a1, c1, rfl⟩ := M.out.b.vls.form
  obtain ⟨a2, c2, rfl⟩ := M.out.c.vls.form
  obtain ⟨a3, c3, rfl⟩ := M.out.d.vls.form
  obtain ⟨a4, c4, rfl⟩ := M.out.e.vls.form
  go_wp2_with fail
  refine (l5Bent_any rb p1 _ _ _ _ _ S0 w2 HRd2.out (by omega) M.out.sto (szT_of HOK.out) (le_of HOK.out)).mono ?_; rintro e w3 ⟨S1, y0, y1, y2, y3, y4, p2, rfl, hz1, hn1, HS1, hr, hp2, hg⟩
  have HR3 := Lib.hid (HR2.out.btn (grown_btn hg) (.inl (by omega)))
  have HE3 := Lib.hid (HE2.out.trans (below_grown hg (by omega) HE2.out.size))
  have HRd3 := Lib.hid hr
  have HZ1 := Lib.hid hz1
  have HN1 := Lib.hid hn1
  have s3 := hg.size
  clear hg hr HR2 HE2 HRd2 hz1 hn1 M
  have hq := HS1.out w3 (Btn.refl _ _ _)
  obtain ⟨b0, e0, rfl⟩ := hq.now.form
  obtain ⟨b1, e1, rfl⟩ := hq.sure.form
  obtain ⟨b2, e2, rfl⟩ := hq.last.form
  obtain ⟨b3, e3, rfl⟩ := hq.slast.form
  obtain ⟨b4, e4, rfl⟩ := hq.floors.form
  have HQ := Lib.hid hq
  clear hq
  go_wp2_with fail
  refine (l5Bent_any rb p2 _ _ _ _ _ S1 w3 HRd3.out (by omega) HQ.out HZ1.out HN1.out).mono ?_; rintro e w5 ⟨S, y0, y1, y2, y3, y4, p3, rfl, hz2, hn2, HS, -, -, hg⟩
  have HR := Lib.hid (HR3.out.btn (grown_btn hg) (.inl (by omega)))
  have HE5 := Lib.hid (HE3.out.trans (below_grown hg (by omega) HE3.out.size))
  have HZ := Lib.hid hz2
  have HN := Lib.hid hn2
  have s5 := hg.size
  clear hg HR3 HE3 HRd3 hz2 hn2 HQ HS1 HZ1 HN1
  have hq := HS.out w5 (Btn.refl _ _ _)
  obtain ⟨f0, d0, rfl⟩ := hq.now.form
  obtain ⟨f1, d1, rfl⟩ := hq.sure.form
  obtain ⟨f2, d2, rfl⟩ := hq.last.form
  obtain ⟨f3, d3, rfl⟩ := hq.slast.form
  obtain ⟨f4, d4, rfl⟩ := hq.floors.form
  clear hq
  obtain ⟨t0, t1, t2, t3, t4, q0, q1, q2, q3, q4⟩ := HR.out
  obtain ⟨Z, hZ⟩ : ∃ X, (((((w5.setCell ⟨w.heap.size, 0, none⟩ (.slice f0 S.now.length d0)).setCell ⟨w.heap.size, 1, none⟩ (.slice f1 S.sure.length d1)).setCell ⟨w.heap.size, 2, none⟩ (.slice f2 S.last.length d2)).setCell ⟨w.heap.size, 3, none⟩ (.slice f3 S.slast.length d3)).setCell ⟨w.heap.size, 4, none⟩ (.slice f4 S.floors.length d4)) = X := ⟨_, rfl⟩
  have hzb : Box5W Z (w.heap.size) (.slice f0 S.now.length d0) (.slice f1 S.sure.length d1) (.slice f2 S.last.length d2) (.slice f3 S.slast.length d3) (.slice f4 S.floors.length d4) := by rw [← hZ]; exact ((((HR.out.set0 _).set1 _).set2 _).set3 _).set4 _
  have ht : Btn (w.heap.size) (w.heap.size + 1) w5 Z := by rw [← hZ]; exact ((((btn_set _ _ _ _).trans (btn_set _ _ _ _)).trans (btn_set _ _ _ _)).trans (btn_set _ _ _ _)).trans (btn_set _ _ _ _)
  have HB := Lib.hid (HE5.out.trans (ht.below (Nat.le_refl _) HE5.out.size))
  have HF : Hid (∀ w1, Btn 0 w.heap.size Z w1 → Sto w1 (.slice f0 S.now.length d0) (.slice f1 S.sure.length d1) (.slice f2 S.last.length d2) (.slice f3 S.slast.length d3) (.slice f4 S.floors.length d4) S) := fun w1 hb => HS.out w1 ((btn_wide ht (Nat.zero_le _) (by omega)).trans (btn_wide hb (Nat.le_refl _) (by omega)))
  clear ht HS HR
  go_wp2
  obtain ⟨t0, t1, t2, t3, t4, -, -, -, -, -⟩ := hzb
  exact bodyPost_ret (v := .agg #[.slice f0 S.now.length d0, .slice f1 S.sure.length d1, .slice f2 S.last.length d2, .slice f3 S.slast.length d3, .slice f4 S.floors.length d4]) (by simp [results, Try.results24, go_sem, t0, t1, t2, t3, t4]) rfl ⟨S, _, _, _, _, _, rfl, HZ.out, HN.out, HF, HB.out⟩

set_option maxRecDepth 100000 in
set_option maxHeartbeats 8000000 in
theorem drawStoreFall_any (v : Value) (len : Nat) (w : World) (h : Byt w v len) : Calls Try.prog 6 #[v] w (Dsto w) := by
  obtain ⟨W, hW⟩ : ∃ W, w.alloc (.cells #[.slice none 0 0, .slice none 0 0, .slice none 0 0, .slice none 0 0, .slice none 0 0] 26) = W := ⟨_, rfl⟩
  have hal : Below w.heap.size w W := by rw [← hW]; exact (Below.refl _ _).alloc (Nat.le_refl _) _
  have R0 : Box5W W (w.heap.size) (.slice none 0 0) (.slice none 0 0) (.slice none 0 0) (.slice none 0 0) (.slice none 0 0) := by rw [← hW]; exact new_box5W _ _ _ _ _ _ _
  have hl : w.heap.size < W.heap.size := by rw [← hW]; simp
  have HO := Lib.hid (drawStoreOk_any v len W (h.keep hal))
  have R0 := Lib.hid R0
  have hal := Lib.hid hal
  clear h
  go_enter Try.func6, Try.ntmps6
  go_wp2_with fail
  clear hW
  refine HO.out.mono ?_; rintro e w5 ⟨S, y0, y1, y2, y3, y4, rfl, hz, hn, HS, hb⟩
  have HR := Lib.hid (R0.out.keep hb)
  have HE5 := Lib.hid (hal.out.trans (hb.mono hal.out.size))
  have HZ := Lib.hid hz
  have HN := Lib.hid hn
  have s1 := hb.size
  clear hb R0 HO hz hn hal
  have hq := HS.out w5 (Btn.refl _ _ _)
  obtain ⟨f0, d0, rfl⟩ := hq.now.form
  obtain ⟨f1, d1, rfl⟩ := hq.sure.form
  obtain ⟨f2, d2, rfl⟩ := hq.last.form
  obtain ⟨f3, d3, rfl⟩ := hq.slast.form
  obtain ⟨f4, d4, rfl⟩ := hq.floors.form
  clear hq
  obtain ⟨t0, t1, t2, t3, t4, q0, q1, q2, q3, q4⟩ := HR.out
  obtain ⟨Z, hZ⟩ : ∃ X, (((((w5.setCell ⟨w.heap.size, 0, none⟩ (.slice f0 S.now.length d0)).setCell ⟨w.heap.size, 1, none⟩ (.slice f1 S.sure.length d1)).setCell ⟨w.heap.size, 2, none⟩ (.slice f2 S.last.length d2)).setCell ⟨w.heap.size, 3, none⟩ (.slice f3 S.slast.length d3)).setCell ⟨w.heap.size, 4, none⟩ (.slice f4 S.floors.length d4)) = X := ⟨_, rfl⟩
  have hzb : Box5W Z (w.heap.size) (.slice f0 S.now.length d0) (.slice f1 S.sure.length d1) (.slice f2 S.last.length d2) (.slice f3 S.slast.length d3) (.slice f4 S.floors.length d4) := by rw [← hZ]; exact ((((HR.out.set0 _).set1 _).set2 _).set3 _).set4 _
  have ht : Btn (w.heap.size) (w.heap.size + 1) w5 Z := by rw [← hZ]; exact ((((btn_set _ _ _ _).trans (btn_set _ _ _ _)).trans (btn_set _ _ _ _)).trans (btn_set _ _ _ _)).trans (btn_set _ _ _ _)
  have HB := Lib.hid (HE5.out.trans (ht.below (Nat.le_refl _) HE5.out.size))
  have HF : Hid (∀ w1, Btn 0 w.heap.size Z w1 → Sto w1 (.slice f0 S.now.length d0) (.slice f1 S.sure.length d1) (.slice f2 S.last.length d2) (.slice f3 S.slast.length d3) (.slice f4 S.floors.length d4) S) := fun w1 hb => HS.out w1 ((btn_wide ht (Nat.zero_le _) (by omega)).trans (btn_wide hb (Nat.le_refl _) (by omega)))
  clear ht HS HR
  go_wp2
  obtain ⟨t0, t1, t2, t3, t4, -, -, -, -, -⟩ := hzb
  exact bodyPost_ret (v := .agg #[.slice f0 S.now.length d0, .slice f1 S.sure.length d1, .slice f2 S.last.length d2, .slice f3 S.slast.length d3, .slice f4 S.floors.length d4]) (by simp [results, Try.results6, go_sem, t0, t1, t2, t3, t4]) rfl ⟨S, _, _, _, _, _, rfl, HZ.out, HN.out, HF, HB.out⟩

end Go.Proofs.Ytjknmocimenagaa
