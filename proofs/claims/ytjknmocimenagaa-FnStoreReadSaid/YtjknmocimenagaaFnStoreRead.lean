/-
  laws.FnStoreRead returns true at every code: the walk of the law. No condition.
-/
import Derived.Test.YtjknmocimenagaaStoReadI
import Derived.Test.YtjknmocimenagaaStoRead
import Derived.Deep.RegionHeld3
import Derived.Test.YtjknmocimenagaaStoBent
import Derived.Test.YtjknmocimenagaaDraw2
/-! A store, an object and a range drawn: spec.DrawStoreRead. -/
/-! Stores drawn: spec.DrawStoreOk, DrawStoreFall. -/
namespace Go.Proofs.Ytjknmocimenagaa
open Go.RowKit

theorem btn_wide {lo hi lo' hi' : Nat} {a b : World} (h : Btn lo hi a b) (h1 : lo' ≤ lo) (h2 : hi ≤ hi') : Btn lo' hi' a b :=
  ⟨h.os, h.tape, h.output, h.size, fun i hi0 hn => h.block i hi0 (fun q => hn ⟨by omega, by omega⟩)⟩
/-- What a draw of a store leaves. -/
def Dsto (w : World) (e : Ending) (w' : World) : Prop :=
  ∃ (S : StT) (v0 v1 v2 v3 v4 : Value), e = .returned (.agg #[v0, v1, v2, v3, v4]) ∧ szT S ∧ S.n5.le ∧ Hid (∀ w1, Btn 0 w.heap.size w' w1 → Sto w1 v0 v1 v2 v3 v4 S) ∧ Below w.heap.size w w'

set_option maxRecDepth 100000 in
set_option maxHeartbeats 8000000 in
theorem drawStoreOk_any (v : Value) (len : Nat) (w : World) (h : Byt w v len) : Calls Try.prog 24 #[v] w (Dsto w) := by
  obtain ⟨W, hW⟩ : ∃ W, w.alloc (.cells #[.slice none 0 0, .slice none 0 0, .slice none 0 0, .slice none 0 0, .slice none 0 0] 26) = W := ⟨_, rfl⟩
  have hal : Below w.heap.size w W := by rw [← hW]; exact (Below.refl _ _).alloc (Nat.le_refl _) _
  have R0 : Box5W W (w.heap.size) (.slice none 0 0) (.slice none 0 0) (.slice none 0 0) (.slice none 0 0) (.slice none 0 0) := by rw [← hW]; exact new_box5W _ _ _ _ _ _ _
  have hl : w.heap.size < W.heap.size := by rw [← hW]; simp
  have HO := Lib.hid (open_any v len W (h.keep hal))
  have R0 := Lib.hid R0
  have hal := Lib.hid hal
  clear h
  go_enter Try.func24, Try.ntmps24
  go_wp2_with fail
  clear hW
  refine HO.out.mono ?_; rintro e w1 ⟨rb, rfl, hrb, hr, hb⟩
  have HR1 := Lib.hid (R0.out.keep hb)
  have HE1 := Lib.hid (hal.out.trans (hb.mono hal.out.size))
  have HRd := Lib.hid hr
  have s1 := hb.size
  clear hb hr R0 HO hal
  go_wp2_with fail
  refine (l5Some_any rb 0 w1 HRd.out (by omega)).mono ?_; rintro e w2 ⟨S0, u0, u1, u2, u3, u4, lo, hi, p1, rfl, hok, hlo, hhi, M, hr, hp1, hg⟩
  have HR2 := Lib.hid (HR1.out.btn (grown_btn hg) (.inl (by omega)))
  have HE2 := Lib.hid (HE1.out.trans (below_grown hg (by omega) HE1.out.size))
  have HRd2 := Lib.hid hr
  have HOK := Lib.hid hok
  have s2 := hg.size
  clear hg hr hok HR1 HE1 HRd
  obtain ⟨a0, c0, rfl⟩ := M.out.a.vls.form
  obtain ⟨a1, c1, rfl⟩ := M.out.b.vls.form
  obtain ⟨a2, c2, rfl⟩ := M.out.c.vls.form
  obtain ⟨a3, c3, rfl⟩ := M.out.d.vls.form
  obtain ⟨a4, c4, rfl⟩ := M.out.e.vls.form
  go_wp2_with fail
  refine (l5Bent_any rb p1 _ _ _ _ _ S0 w2 HRd2.out (by omega) M.out.sto (szT_of HOK.out) (le_of HOK.out)).mono ?_; rintro e w3 ⟨S1, y0, y1, y2, y3, y4, p2, rfl, hz1, hn1, HS1, hr, hp2, hg⟩
  have HR3 := Lib.hid (HR2.out.btn (grown_btn hg) (.inl (by omega)))
  have HE3 := Lib.hid (HE2.out.trans (below_grown hg (by omega) HE2.out.size))
  have HRd3 := Lib.hid hr
  have HZ1 := Lib.hid hz1
  have HN1 := Lib.hid hn1
  have s3 := hg.size
  clear hg hr HR2 HE2 HRd2 hz1 hn1 M
  have hq := HS1.out w3 (Btn.refl _ _ _)
  obtain ⟨b0, e0, rfl⟩ := hq.now.form
  obtain ⟨b1, e1, rfl⟩ := hq.sure.form
  obtain ⟨b2, e2, rfl⟩ := hq.last.form
  obtain ⟨b3, e3, rfl⟩ := hq.slast.form
  obtain ⟨b4, e4, rfl⟩ := hq.floors.form
  have HQ := Lib.hid hq
  clear hq
  go_wp2_with fail
  refine (l5Bent_any rb p2 _ _ _ _ _ S1 w3 HRd3.out (by omega) HQ.out HZ1.out HN1.out).mono ?_; rintro e w5 ⟨S, y0, y1, y2, y3, y4, p3, rfl, hz2, hn2, HS, -, -, hg⟩
  have HR := Lib.hid (HR3.out.btn (grown_btn hg) (.inl (by omega)))
  have HE5 := Lib.hid (HE3.out.trans (below_grown hg (by omega) HE3.out.size))
  have HZ := Lib.hid hz2
  have HN := Lib.hid hn2
  have s5 := hg.size
  clear hg HR3 HE3 HRd3 hz2 hn2 HQ HS1 HZ1 HN1
  have hq := HS.out w5 (Btn.refl _ _ _)
  obtain ⟨f0, d0, rfl⟩ := hq.now.form
  obtain ⟨f1, d1, rfl⟩ := hq.sure.form
  obtain ⟨f2, d2, rfl⟩ := hq.last.form
  obtain ⟨f3, d3, rfl⟩ := hq.slast.form
  obtain ⟨f4, d4, rfl⟩ := hq.floors.form
  clear hq
  obtain ⟨t0, t1, t2, t3, t4, q0, q1, q2, q3, q4⟩ := HR.out
  obtain ⟨Z, hZ⟩ : ∃ X, (((((w5.setCell ⟨w.heap.size, 0, none⟩ (.slice f0 S.now.length d0)).setCell ⟨w.heap.size, 1, none⟩ (.slice f1 S.sure.length d1)).setCell ⟨w.heap.size, 2, none⟩ (.slice f2 S.last.length d2)).setCell ⟨w.heap.size, 3, none⟩ (.slice f3 S.slast.length d3)).setCell ⟨w.heap.size, 4, none⟩ (.slice f4 S.floors.length d4)) = X := ⟨_, rfl⟩
  have hzb : Box5W Z (w.heap.size) (.slice f0 S.now.length d0) (.slice f1 S.sure.length d1) (.slice f2 S.last.length d2) (.slice f3 S.slast.length d3) (.slice f4 S.floors.length d4) := by rw [← hZ]; exact ((((HR.out.set0 _).set1 _).set2 _).set3 _).set4 _
  have ht : Btn (w.heap.size) (w.heap.size + 1) w5 Z := by rw [← hZ]; exact ((((btn_set _ _ _ _).trans (btn_set _ _ _ _)).trans (btn_set _ _ _ _)).trans (btn_set _ _ _ _)).trans (btn_set _ _ _ _)
  have HB := Lib.hid (HE5.out.trans (ht.below (Nat.le_refl _) HE5.out.size))
  have HF : Hid (∀ w1, Btn 0 w.heap.size Z w1 → Sto w1 (.slice f0 S.now.length d0) (.slice f1 S.sure.length d1) (.slice f2 S.last.length d2) (.slice f3 S.slast.length d3) (.slice f4 S.floors.length d4) S) := fun w1 hb => HS.out w1 ((btn_wide ht (Nat.zero_le _) (by omega)).trans (btn_wide hb (Nat.le_refl _) (by omega)))
  clear ht HS HR
  go_wp2
  obtain ⟨t0, t1, t2, t3, t4, -, -, -, -, -⟩ := hzb
  exact bodyPost_ret (v := .agg #[.slice f0 S.now.length d0, .slice f1 S.sure.length d1, .slice f2 S.last.length d2, .slice f3 S.slast.length d3, .slice f4 S.floors.length d4]) (by simp [results, Try.results24, go_sem, t0, t1, t2, t3, t4]) rfl ⟨S, _, _, _, _, _, rfl, HZ.out, HN.out, HF, HB.out⟩

set_option maxRecDepth 100000 in
set_option maxHeartbeats 8000000 in
theorem drawStoreFall_any (v : Value) (len : Nat) (w : World) (h : Byt w v len) : Calls Try.prog 6 #[v] w (Dsto w) := by
  obtain ⟨W, hW⟩ : ∃ W, w.alloc (.cells #[.slice none 0 0, .slice none 0 0, .slice none 0 0, .slice none 0 0, .slice none 0 0] 26) = W := ⟨_, rfl⟩
  have hal : Below w.heap.size w W := by rw [← hW]; exact (Below.refl _ _).alloc (Nat.le_refl _) _
  have R0 : Box5W W (w.heap.size) (.slice none 0 0) (.slice none 0 0) (.slice none 0 0) (.slice none 0 0) (.slice none 0 0) := by rw [← hW]; exact new_box5W _ _ _ _ _ _ _
  have hl : w.heap.size < W.heap.size := by rw [← hW]; simp
  have HO := Lib.hid (drawStoreOk_any v len W (h.keep hal))
  have R0 := Lib.hid R0
  have hal := Lib.hid hal
  clear h
  go_enter Try.func6, Try.ntmps6
  go_wp2_with fail
  clear hW
  refine HO.out.mono ?_; rintro e w5 ⟨S, y0, y1, y2, y3, y4, rfl, hz, hn, HS, hb⟩
  have HR := Lib.hid (R0.out.keep hb)
  have HE5 := Lib.hid (hal.out.trans (hb.mono hal.out.size))
  have HZ := Lib.hid hz
  have HN := Lib.hid hn
  have s1 := hb.size
  clear hb R0 HO hz hn hal
  have hq := HS.out w5 (Btn.refl _ _ _)
  obtain ⟨f0, d0, rfl⟩ := hq.now.form
  obtain ⟨f1, d1, rfl⟩ := hq.sure.form
  obtain ⟨f2, d2, rfl⟩ := hq.last.form
  obtain ⟨f3, d3, rfl⟩ := hq.slast.form
  obtain ⟨f4, d4, rfl⟩ := hq.floors.form
  clear hq
  obtain ⟨t0, t1, t2, t3, t4, q0, q1, q2, q3, q4⟩ := HR.out
  obtain ⟨Z, hZ⟩ : ∃ X, (((((w5.setCell ⟨w.heap.size, 0, none⟩ (.slice f0 S.now.length d0)).setCell ⟨w.heap.size, 1, none⟩ (.slice f1 S.sure.length d1)).setCell ⟨w.heap.size, 2, none⟩ (.slice f2 S.last.length d2)).setCell ⟨w.heap.size, 3, none⟩ (.slice f3 S.slast.length d3)).setCell ⟨w.heap.size, 4, none⟩ (.slice f4 S.floors.length d4)) = X := ⟨_, rfl⟩
  have hzb : Box5W Z (w.heap.size) (.slice f0 S.now.length d0) (.slice f1 S.sure.length d1) (.slice f2 S.last.length d2) (.slice f3 S.slast.length d3) (.slice f4 S.floors.length d4) := by rw [← hZ]; exact ((((HR.out.set0 _).set1 _).set2 _).set3 _).set4 _
  have ht : Btn (w.heap.size) (w.heap.size + 1) w5 Z := by rw [← hZ]; exact ((((btn_set _ _ _ _).trans (btn_set _ _ _ _)).trans (btn_set _ _ _ _)).trans (btn_set _ _ _ _)).trans (btn_set _ _ _ _)
  have HB := Lib.hid (HE5.out.trans (ht.below (Nat.le_refl _) HE5.out.size))
  have HF : Hid (∀ w1, Btn 0 w.heap.size Z w1 → Sto w1 (.slice f0 S.now.length d0) (.slice f1 S.sure.length d1) (.slice f2 S.last.length d2) (.slice f3 S.slast.length d3) (.slice f4 S.floors.length d4) S) := fun w1 hb => HS.out w1 ((btn_wide ht (Nat.zero_le _) (by omega)).trans (btn_wide hb (Nat.le_refl _) (by omega)))
  clear ht HS HR
  go_wp2
  obtain ⟨t0, t1, t2, t3, t4, -, -, -, -, -⟩ := hzb
  exact bodyPost_ret (v := .agg #[.slice f0 S.now.length d0, .slice f1 S.sure.length d1, .slice f2 S.last.length d2, .slice f3 S.slast.length d3, .slice f4 S.floors.length d4]) (by simp [results, Try.results6, go_sem, t0, t1, t2, t3, t4]) rfl ⟨S, _, _, _, _, _, rfl, HZ.out, HN.out, HF, HB.out⟩

end Go.Proofs.Ytjknmocimenagaa

namespace Go.Proofs.Ytjknmocimenagaa
open Go.RowKit

theorem Box2.btnD {w w1 : World} {b lo hi : Nat} {x y : Int} (h : Box2 w b x y) (hb : Btn lo hi w w1) (hd : b < lo ∨ hi ≤ b) : Box2 w1 b x y := by
  have hh := hb.block b (World.block_lt_of_cell? w _ h.1) (by omega)
  obtain ⟨h0, h1, h2, h3⟩ := h
  exact ⟨(World.cell?_of_block (a := ⟨b, 0, none⟩) hh).trans h0, (World.cell?_of_block (a := ⟨b, 1, none⟩) hh).trans h1, (World.frozen?_of_block (a := ⟨b, 0, none⟩) hh).trans h2, (World.frozen?_of_block (a := ⟨b, 1, none⟩) hh).trans h3⟩
/-- What a draw of a store, an object and a range leaves. -/
def Dsrd (w : World) (e : Ending) (w' : World) : Prop :=
  ∃ (S : StT) (v0 v1 v2 v3 v4 : Value) (obj lo hi : Int), e = .returned (.tuple #[.agg #[v0, v1, v2, v3, v4], .int .i64 obj, .agg #[.int .i64 lo, .int .i64 hi]]) ∧ szT S ∧ S.n5.le ∧ Hid (∀ w1, Btn 0 w.heap.size w' w1 → Sto w1 v0 v1 v2 v3 v4 S) ∧ Below w.heap.size w w'

theorem box2_set {w : World} {b : Nat} {x y : Int} (h : Box2 w b x y) (x' y' : Int) : Box2 ((w.setCell ⟨b, 0, none⟩ (.int .i64 x')).setCell ⟨b, 1, none⟩ (.int .i64 y')) b x' y' := by
  obtain ⟨h0, h1, h2, h3⟩ := h
  exact ⟨by go_simp, by go_simp, by go_simp, by go_simp⟩

set_option maxRecDepth 100000 in
set_option maxHeartbeats 16000000 in
theorem drawStoreRead_any (v : Value) (len : Nat) (w : World) (h : Byt w v len) : Calls Try.prog 15 #[v] w (Dsrd w) := by
  obtain ⟨W, hW⟩ : ∃ W, (w.alloc (.cells #[.slice none 0 0, .slice none 0 0, .slice none 0 0, .slice none 0 0, .slice none 0 0] 26)).alloc (.cells #[.int .i64 0, .int .i64 0] 34) = W := ⟨_, rfl⟩
  have hal : Below w.heap.size w W := by rw [← hW]; exact ((Below.refl _ _).alloc (Nat.le_refl _) _).alloc (by simp) _
  have R0 : Box5W W (w.heap.size) (.slice none 0 0) (.slice none 0 0) (.slice none 0 0) (.slice none 0 0) (.slice none 0 0) := by rw [← hW]; exact (new_box5W w _ _ _ _ _ _).keep ((Below.refl _ _).alloc (Nat.le_refl _) _)
  have P0 : Box2 W (w.heap.size + 1) 0 0 := by
    rw [← hW]
    simpa using new_box (w.alloc (.cells #[.slice none 0 0, .slice none 0 0, .slice none 0 0, .slice none 0 0, .slice none 0 0] 26)) 0 0 34
  have hl : w.heap.size + 1 < W.heap.size := by rw [← hW]; simp
  have HO := Lib.hid (open_any v len W (h.keep hal))
  have R0 := Lib.hid R0
  have P0 := Lib.hid P0
  have hal := Lib.hid hal
  clear h
  go_enter Try.func15, Try.ntmps15
  go_wp2_with fail
  clear hW
  refine HO.out.mono ?_; rintro e w1 ⟨rb, rfl, hrb, hr, hb⟩
  have HR1 := Lib.hid (R0.out.keep hb)
  have HP1 := Lib.hid (P0.out.keep hb)
  have HE1 := Lib.hid (hal.out.trans (hb.mono hal.out.size))
  have HRd := Lib.hid hr
  have s1 := hb.size
  clear hb hr R0 P0 HO hal
  go_wp2_with fail
  refine (l5Some_any rb 0 w1 HRd.out (by omega)).mono ?_; rintro e w2 ⟨S0, u0, u1, u2, u3, u4, lo, hi, p1, rfl, hok, hlo, hhi, M, hr, hp1, hg⟩
  have HR2 := Lib.hid (HR1.out.btn (grown_btn hg) (.inl (by omega)))
  have HP2 := Lib.hid (HP1.out.btnD (grown_btn hg) (.inl (by omega)))
  have HE2 := Lib.hid (HE1.out.trans (below_grown hg (by omega) HE1.out.size))
  have hrl := HRd.out.lt'
  have HRd2 := Lib.hid hr
  have HOK := Lib.hid hok
  have s2 := hg.size
  clear hg hr hok HR1 HP1 HE1 HRd
  obtain ⟨a0, c0, rfl⟩ := M.out.a.vls.form
  obtain ⟨a1, c1, rfl⟩ := M.out.b.vls.form
  obtain ⟨a2, c2, rfl⟩ := M.out.c.vls.form
  obtain ⟨a3, c3, rfl⟩ := M.out.d.vls.form
  obtain ⟨a4, c4, rfl⟩ := M.out.e.vls.form
  go_wp2_with fail
  refine (l5Bent_any rb p1 _ _ _ _ _ S0 w2 HRd2.out (by omega) M.out.sto (szT_of HOK.out) (le_of HOK.out)).mono ?_; rintro e w3 ⟨S, y0, y1, y2, y3, y4, p2, rfl, hz1, hn1, HS, hr, hp2, hg⟩
  have HR3 := Lib.hid (HR2.out.btn (grown_btn hg) (.inl (by omega)))
  have HP3 := Lib.hid (HP2.out.btnD (grown_btn hg) (.inl (by omega)))
  have HE3 := Lib.hid (HE2.out.trans (below_grown hg (by omega) HE2.out.size))
  have HRd3 := Lib.hid hr
  have HZ := Lib.hid hz1
  have HN := Lib.hid hn1
  have s3 := hg.size
  clear hg hr HR2 HP2 HE2 HRd2 hz1 hn1 M
  have hq := HS.out w3 (Btn.refl _ _ _)
  obtain ⟨f0, d0, rfl⟩ := hq.now.form
  obtain ⟨f1, d1, rfl⟩ := hq.sure.form
  obtain ⟨f2, d2, rfl⟩ := hq.last.form
  obtain ⟨f3, d3, rfl⟩ := hq.slast.form
  obtain ⟨f4, d4, rfl⟩ := hq.floors.form
  clear hq
  obtain ⟨X, hX⟩ : ∃ X, w3.alloc (.cells #[.slice f0 S.now.length d0, .slice f1 S.sure.length d1, .slice f2 S.last.length d2, .slice f3 S.slast.length d3, .slice f4 S.floors.length d4] 26) = X := ⟨_, rfl⟩
  have hb : Below w3.heap.size w3 X := by rw [← hX]; exact (Below.refl _ _).alloc (Nat.le_refl _) _
  have HB4 : Hid (Box5W X w3.heap.size (.slice f0 S.now.length d0) (.slice f1 S.sure.length d1) (.slice f2 S.last.length d2) (.slice f3 S.slast.length d3) (.slice f4 S.floors.length d4)) := by rw [← hX]; exact new_box5W _ _ _ _ _ _ _
  have sX : w3.heap.size < X.heap.size := by rw [← hX]; simp
  have HR4 := Lib.hid (HR3.out.keep hb)
  have HP4 := Lib.hid (HP3.out.keep hb)
  have HE4 := Lib.hid (HE3.out.trans (hb.mono HE3.out.size))
  have HRd4 := Lib.hid (HRd3.out.keep hb)
  have HT4 : Hid (Btn 0 w2.heap.size w3 X) := Btn.of_below hb
  clear hb HR3 HP3 HE3 HRd3
  go_wp2_with fail
  clear hX
  refine (numLA_any rb p2 [0, 1, 2, 0, 1, 2, -1, 3] 8 (fun _ => True) X X.heap.size _ _ rfl rfl rfl HRd4.out (by omega) (by omega) (by omega) (by simp)).mono ?_; rintro e w4 ⟨obj, p3, rfl, -, hr, hp3, hg⟩
  have ht := grown_btn hg
  have HR5 := Lib.hid (HR4.out.btn ht (.inl (by omega)))
  have HP5 := Lib.hid (HP4.out.btnD ht (.inl (by omega)))
  have HB5 := Lib.hid (HB4.out.btn ht (.inr (by omega)))
  have HE5 := Lib.hid (HE4.out.trans (below_grown hg (by omega) HE4.out.size))
  have HRd5 := Lib.hid hr
  have HT5 := Lib.hid (HT4.out.trans (btn_wide ht (Nat.zero_le _) (by omega)))
  have s50 := hg.size
  clear ht hg hr HR4 HP4 HB4 HE4 HRd4 HT4
  go_wp2_with fail
  refine (pick_any rb p3 2 _ HRd5.out (by omega) (by omega) (by omega)).mono ?_; rintro e w5 ⟨c, rfl, c0', -, hr, hg⟩
  have ht := grown_btn hg
  have HR6 := Lib.hid (HR5.out.btn ht (.inl (by omega)))
  have HP6 := Lib.hid (HP5.out.btnD ht (.inl (by omega)))
  have HB6 := Lib.hid (HB5.out.btn ht (.inr (by omega)))
  have HE6 := Lib.hid (HE5.out.trans (below_grown hg (by omega) HE5.out.size))
  have HRd6 := Lib.hid hr
  have HT6 := Lib.hid (HT5.out.trans (btn_wide ht (Nat.zero_le _) (by omega)))
  have s60 := hg.size
  clear ht hg hr HR5 HP5 HB5 HE5 HRd5 HT5
  by_cases k0 : c = 0
  · subst k0
    obtain ⟨x0, x1, x2, x3, x4, -, -, -, -, -⟩ := HB6.out
    go_wp2_with fail
    clear c0'
    have hD : Below w5.heap.size w5 w5.drew := (Below.refl _ _).drew
    go_region_held3 (fun w' => w'.cell? ⟨w3.heap.size, 0, none⟩ = some (.slice f0 S.now.length d0) ∧ w'.cell? ⟨w3.heap.size, 1, none⟩ = some (.slice f1 S.sure.length d1) ∧ w'.cell? ⟨w3.heap.size, 2, none⟩ = some (.slice f2 S.last.length d2) ∧ w'.cell? ⟨w3.heap.size, 3, none⟩ = some (.slice f3 S.slast.length d3) ∧ w'.cell? ⟨w3.heap.size, 4, none⟩ = some (.slice f4 S.floors.length d4))
      (refine ⟨?_, ?_, ?_, ?_, ?_⟩ <;> first | (with_reducible assumption) | (with_reducible refine cell_far5 ?_ ?_ <;> first | omega | (with_reducible assumption)) | (with_reducible refine cell_far1 (cell_far1 (cell_far5 ?_ ?_) ?_) ?_ <;> first | omega | (with_reducible assumption)) | (go_keep; done))
      (first
        | (go_at_call 37; refine (pick_any rb (p3 + 1 + 1) 9 _ HRa.out (by omega) (by omega) (by omega)).mono ?_; rintro e r1 ⟨hh, rfl, hh0, hh1, hr, hg⟩; have HGb := grown_trans HGa.out hg; have ht := grown_btn HGb; obtain ⟨y0, y1, y2, y3, y4, -, -, -, -, -⟩ := HB6.out.btn ht (.inr (by omega)); obtain ⟨t0, t1, t2, t3, t4, q0, q1, q2, q3, q4⟩ := HR6.out.btn ht (.inl (by omega)); obtain ⟨l0, l1, l2, l3⟩ := HP6.out.btnD ht (.inl (by omega)); obtain ⟨mh, hmh⟩ : ∃ m, IntKind.i64.wrap (7 + hh) = m := ⟨_, rfl⟩)
        | (go_at_call 37; refine (pick_any rb (p3 + 1) 6 _ (HRd6.out.keep hD) (by omega) (by omega) (by omega)).mono ?_; rintro e r0 ⟨ll, rfl, ll0, ll1, hr, hg⟩; have HGa := Lib.hid (grown_trans (grown_below hD (some rb)) hg); have HRa := Lib.hid hr; obtain ⟨y0, y1, y2, y3, y4, -, -, -, -, -⟩ := HB6.out.btn (grown_btn HGa.out) (.inr (by omega))))
    have hg := HGb
    have hr' := hr
    clear ht hr y0 y1 y2 y3 y4 t0 t1 t2 t3 t4 q0 q1 q2 q3 q4 l0 l1 l2 l3
    have hr := hr'
    clear hr'
    have ht := grown_btn hg
    have HR7 := Lib.hid (HR6.out.btn ht (.inl (by omega)))
    have HP7 := Lib.hid (HP6.out.btnD ht (.inl (by omega)))
    have HB7 := Lib.hid (HB6.out.btn ht (.inr (by omega)))
    have HE7 := Lib.hid (HE6.out.trans (below_grown hg (by omega) HE6.out.size))
    have HRd7 := Lib.hid hr
    have HT7 := Lib.hid (HT6.out.trans (btn_wide ht (Nat.zero_le _) (by omega)))
    have s70 := hg.size
    clear ht hg hr HR6 HP6 HB6 HE6 HRd6 HT6
    obtain ⟨Z1, hZ1⟩ : ∃ X, (((((r1.setCell ⟨w.heap.size, 0, none⟩ (.slice f0 S.now.length d0)).setCell ⟨w.heap.size, 1, none⟩ (.slice f1 S.sure.length d1)).setCell ⟨w.heap.size, 2, none⟩ (.slice f2 S.last.length d2)).setCell ⟨w.heap.size, 3, none⟩ (.slice f3 S.slast.length d3)).setCell ⟨w.heap.size, 4, none⟩ (.slice f4 S.floors.length d4)) = X := ⟨_, rfl⟩
    rw [hZ1]
    have hzb : Box5W Z1 (w.heap.size) (.slice f0 S.now.length d0) (.slice f1 S.sure.length d1) (.slice f2 S.last.length d2) (.slice f3 S.slast.length d3) (.slice f4 S.floors.length d4) := by rw [← hZ1]; exact ((((HR7.out.set0 _).set1 _).set2 _).set3 _).set4 _
    have ht : Btn (w.heap.size) (w.heap.size + 1) r1 Z1 := by rw [← hZ1]; exact ((((btn_set _ _ _ _).trans (btn_set _ _ _ _)).trans (btn_set _ _ _ _)).trans (btn_set _ _ _ _)).trans (btn_set _ _ _ _)
    have hP := HP7.out.btnD ht (.inr (by omega))
    obtain ⟨Z, hZ⟩ : ∃ X, (Z1.setCell ⟨w.heap.size + 1, 0, none⟩ (.int .i64 ll)).setCell ⟨w.heap.size + 1, 1, none⟩ (.int .i64 mh) = X := ⟨_, rfl⟩
    rw [hZ]
    have ht2 : Btn (w.heap.size + 1) (w.heap.size + 1 + 1) Z1 Z := by rw [← hZ]; exact (btn_set _ _ _ _).trans (btn_set _ _ _ _)
    have hzc := hzb.btn ht2 (.inl (by omega))
    have hp2' : Box2 Z (w.heap.size + 1) ll mh := by rw [← hZ]; exact box2_set hP ll mh
    have hE1 := HE7.out.trans (ht.below (Nat.le_refl _) HE7.out.size)
    have HBF := Lib.hid (hE1.trans (ht2.below (by omega) hE1.size))
    have HF : Hid (∀ w1, Btn 0 w.heap.size Z w1 → Sto w1 (.slice f0 S.now.length d0) (.slice f1 S.sure.length d1) (.slice f2 S.last.length d2) (.slice f3 S.slast.length d3) (.slice f4 S.floors.length d4) S) := fun w1 hb => HS.out w1 (HT7.out.trans ((btn_wide ht (Nat.zero_le _) (by omega)).trans ((btn_wide ht2 (Nat.zero_le _) (by omega)).trans (btn_wide hb (Nat.le_refl _) (by omega)))))
    clear ht ht2 hzb hP hE1 HS HR7 HP7 HE7 HT7 hZ1 hZ
    go_wp2
    obtain ⟨t0, t1, t2, t3, t4, -, -, -, -, -⟩ := hzc
    obtain ⟨l0, l1, -, -⟩ := hp2'
    exact bodyPost_ret (v := .tuple #[.agg #[.slice f0 S.now.length d0, .slice f1 S.sure.length d1, .slice f2 S.last.length d2, .slice f3 S.slast.length d3, .slice f4 S.floors.length d4], .int .i64 obj, .agg #[.int .i64 ll, .int .i64 mh]]) (by simp [results, Try.results15, go_sem, t0, t1, t2, t3, t4, l0, l1]) rfl ⟨S, _, _, _, _, _, obj, ll, mh, rfl, HZ.out, HN.out, HF, HBF.out⟩
  · have kd : (c == 0) = false := by simpa using k0
    obtain ⟨x0, x1, x2, x3, x4, -, -, -, -, -⟩ := HB6.out
    go_wp2_with fail
    clear c0'
    have hD : Below w5.heap.size w5 w5.drew := (Below.refl _ _).drew
    go_region_held3 (fun w' => w'.cell? ⟨w3.heap.size, 0, none⟩ = some (.slice f0 S.now.length d0) ∧ w'.cell? ⟨w3.heap.size, 1, none⟩ = some (.slice f1 S.sure.length d1) ∧ w'.cell? ⟨w3.heap.size, 2, none⟩ = some (.slice f2 S.last.length d2) ∧ w'.cell? ⟨w3.heap.size, 3, none⟩ = some (.slice f3 S.slast.length d3) ∧ w'.cell? ⟨w3.heap.size, 4, none⟩ = some (.slice f4 S.floors.length d4))
      (refine ⟨?_, ?_, ?_, ?_, ?_⟩ <;> first | (with_reducible assumption) | (with_reducible refine cell_far5 ?_ ?_ <;> first | omega | (with_reducible assumption)) | (with_reducible refine cell_far1 (cell_far1 (cell_far5 ?_ ?_) ?_) ?_ <;> first | omega | (with_reducible assumption)) | (go_keep; done))
      (first
        | (go_at_call 38; refine (l1Some_any rb (p3 + 1) _ (HRd6.out.keep hD) (by omega)).mono ?_; rintro e r1 ⟨ll, mh, rfl, -, hr, hg0⟩; have HGb := grown_trans (grown_below hD (some rb)) hg0; have ht := grown_btn HGb; obtain ⟨y0, y1, y2, y3, y4, -, -, -, -, -⟩ := HB6.out.btn ht (.inr (by omega)); obtain ⟨t0, t1, t2, t3, t4, q0, q1, q2, q3, q4⟩ := HR6.out.btn ht (.inl (by omega)); obtain ⟨l0, l1, l2, l3⟩ := HP6.out.btnD ht (.inl (by omega))))
    have hg := HGb
    have hr' := hr
    clear ht hr y0 y1 y2 y3 y4 t0 t1 t2 t3 t4 q0 q1 q2 q3 q4 l0 l1 l2 l3
    have hr := hr'
    clear hr'
    have ht := grown_btn hg
    have HR7 := Lib.hid (HR6.out.btn ht (.inl (by omega)))
    have HP7 := Lib.hid (HP6.out.btnD ht (.inl (by omega)))
    have HB7 := Lib.hid (HB6.out.btn ht (.inr (by omega)))
    have HE7 := Lib.hid (HE6.out.trans (below_grown hg (by omega) HE6.out.size))
    have HRd7 := Lib.hid hr
    have HT7 := Lib.hid (HT6.out.trans (btn_wide ht (Nat.zero_le _) (by omega)))
    have s70 := hg.size
    clear ht hg hr HR6 HP6 HB6 HE6 HRd6 HT6
    obtain ⟨Z1, hZ1⟩ : ∃ X, (((((r1.setCell ⟨w.heap.size, 0, none⟩ (.slice f0 S.now.length d0)).setCell ⟨w.heap.size, 1, none⟩ (.slice f1 S.sure.length d1)).setCell ⟨w.heap.size, 2, none⟩ (.slice f2 S.last.length d2)).setCell ⟨w.heap.size, 3, none⟩ (.slice f3 S.slast.length d3)).setCell ⟨w.heap.size, 4, none⟩ (.slice f4 S.floors.length d4)) = X := ⟨_, rfl⟩
    rw [hZ1]
    have hzb : Box5W Z1 (w.heap.size) (.slice f0 S.now.length d0) (.slice f1 S.sure.length d1) (.slice f2 S.last.length d2) (.slice f3 S.slast.length d3) (.slice f4 S.floors.length d4) := by rw [← hZ1]; exact ((((HR7.out.set0 _).set1 _).set2 _).set3 _).set4 _
    have ht : Btn (w.heap.size) (w.heap.size + 1) r1 Z1 := by rw [← hZ1]; exact ((((btn_set _ _ _ _).trans (btn_set _ _ _ _)).trans (btn_set _ _ _ _)).trans (btn_set _ _ _ _)).trans (btn_set _ _ _ _)
    have hP := HP7.out.btnD ht (.inr (by omega))
    obtain ⟨Z, hZ⟩ : ∃ X, (Z1.setCell ⟨w.heap.size + 1, 0, none⟩ (.int .i64 ll)).setCell ⟨w.heap.size + 1, 1, none⟩ (.int .i64 mh) = X := ⟨_, rfl⟩
    rw [hZ]
    have ht2 : Btn (w.heap.size + 1) (w.heap.size + 1 + 1) Z1 Z := by rw [← hZ]; exact (btn_set _ _ _ _).trans (btn_set _ _ _ _)
    have hzc := hzb.btn ht2 (.inl (by omega))
    have hp2' : Box2 Z (w.heap.size + 1) ll mh := by rw [← hZ]; exact box2_set hP ll mh
    have hE1 := HE7.out.trans (ht.below (Nat.le_refl _) HE7.out.size)
    have HBF := Lib.hid (hE1.trans (ht2.below (by omega) hE1.size))
    have HF : Hid (∀ w1, Btn 0 w.heap.size Z w1 → Sto w1 (.slice f0 S.now.length d0) (.slice f1 S.sure.length d1) (.slice f2 S.last.length d2) (.slice f3 S.slast.length d3) (.slice f4 S.floors.length d4) S) := fun w1 hb => HS.out w1 (HT7.out.trans ((btn_wide ht (Nat.zero_le _) (by omega)).trans ((btn_wide ht2 (Nat.zero_le _) (by omega)).trans (btn_wide hb (Nat.le_refl _) (by omega)))))
    clear ht ht2 hzb hP hE1 HS HR7 HP7 HE7 HT7 hZ1 hZ
    go_wp2
    obtain ⟨t0, t1, t2, t3, t4, -, -, -, -, -⟩ := hzc
    obtain ⟨l0, l1, -, -⟩ := hp2'
    exact bodyPost_ret (v := .tuple #[.agg #[.slice f0 S.now.length d0, .slice f1 S.sure.length d1, .slice f2 S.last.length d2, .slice f3 S.slast.length d3, .slice f4 S.floors.length d4], .int .i64 obj, .agg #[.int .i64 ll, .int .i64 mh]]) (by simp [results, Try.results15, go_sem, t0, t1, t2, t3, t4, l0, l1]) rfl ⟨S, _, _, _, _, _, obj, ll, mh, rfl, HZ.out, HN.out, HF, HBF.out⟩


end Go.Proofs.Ytjknmocimenagaa

namespace Go.Proofs.Ytjknmocimenagaa.fnStoreRead
open Go.RowKit

theorem rd_no {S : StT} {obj lo hi : Int} (h : rdB S obj lo hi = false) : rdT S obj lo hi = [] := by unfold rdT; rw [if_neg (by rw [h]; simp)]
theorem rd_yes {S : StT} {obj lo hi : Int} (h : rdB S obj lo hi = true) : stOkB S = true ∧ (0 ≤ obj ∧ obj < 3) ∧ (0 ≤ lo ∧ lo < hi ∧ hi ≤ 48) ∧ rdT S obj lo hi = trS (S.now.getD obj.toNat []) lo hi := by
  have h0 := h
  unfold rdB at h
  rw [Bool.and_eq_true, Bool.and_eq_true] at h
  obtain ⟨h1, h2, h3⟩ := h
  have h4 : 0 ≤ obj ∧ obj < 3 := of_decide_eq_true h2
  have h5 := spanOkB_iff.1 h3
  refine ⟨h1, h4, h5, ?_⟩
  unfold rdT trS
  rw [if_pos h0, if_pos ⟨txB_at (stOk_iff.1 h1).1 (by omega), h5⟩]

set_option maxRecDepth 100000 in
set_option maxHeartbeats 16000000 in
theorem walk (v : Value) (len : Nat) (w : World) (h : Byt w v len) :
    Calls Try.prog 4 #[v] w fun e w' => e = .returned (.bool true) ∧ Below w.heap.size w w' := by
  have HB := Lib.hid h
  have hlen : len ≤ 9223372036854775807 := by obtain ⟨z, a, cap, -, h1, h2, -⟩ := h; unfold maxLen at h2; omega
  obtain ⟨z, a, cap, rfl, -, -, -⟩ := h
  by_cases hL : len ≤ 1048576
  · go_enter Try.func4, Try.ntmps4
    go_wp2_with fail
    refine (drawStoreRead_any _ len _ HB.out).mono ?_; rintro e w1 ⟨S, y0, y1, y2, y3, y4, obj, lo, hi, rfl, hz, hn, HS, hb⟩
    have hq := HS.out w1 (Btn.refl _ _ _)
    obtain ⟨f0, d0, rfl⟩ := hq.now.form
    obtain ⟨f1, d1, rfl⟩ := hq.sure.form
    obtain ⟨f2, d2, rfl⟩ := hq.last.form
    obtain ⟨f3, d3, rfl⟩ := hq.slast.form
    obtain ⟨f4, d4, rfl⟩ := hq.floors.form
    have s_0 := Lib.hid hq
    have HZ := Lib.hid hz
    have E_0 := Lib.hid hb
    clear hq hz hn HS HB
    obtain ⟨W, hW⟩ : ∃ W, (w1.alloc (.cells #[.slice f0 S.now.length d0, .slice f1 S.sure.length d1, .slice f2 S.last.length d2, .slice f3 S.slast.length d3, .slice f4 S.floors.length d4] 26)).alloc (.cells #[.int .i64 lo, .int .i64 hi] 34) = W := ⟨_, rfl⟩
    have hal : Below w1.heap.size w1 W := by rw [← hW]; exact ((Below.refl _ _).alloc (Nat.le_refl _) _).alloc (by simp) _
    have A0 : Box5 W w1.heap.size (.slice f0 S.now.length d0) (.slice f1 S.sure.length d1) (.slice f2 S.last.length d2) (.slice f3 S.slast.length d3) (.slice f4 S.floors.length d4) := by rw [← hW]; exact (new_box5 w1 _ _ _ _ _ _).keep ((Below.refl _ _).alloc (Nat.le_refl _) _)
    have B0 : Box2 W (w1.heap.size + 1) lo hi := by
      rw [← hW]
      simpa using new_box (w1.alloc (.cells #[.slice f0 S.now.length d0, .slice f1 S.sure.length d1, .slice f2 S.last.length d2, .slice f3 S.slast.length d3, .slice f4 S.floors.length d4] 26)) lo hi 34
    clear hb
    have s_1 := Lib.hid (s_0.out.keep hal)
    have E_2 := Lib.hid (E_0.out.trans (hal.mono E_0.out.size))
    have S_2 := Lib.hid hal.size
    clear s_0 E_0 hal
    have bs_0 := Lib.hid A0
    have bp_0 := Lib.hid B0
    clear A0 B0
    obtain ⟨T, hT⟩ : ∃ T, rdT S obj lo hi = T := ⟨_, rfl⟩
    obtain ⟨q, hq⟩ : ∃ q, rdB S obj lo hi = q := ⟨_, rfl⟩
    have KI : Hid (∀ w, Sto w (.slice f0 S.now.length d0) (.slice f1 S.sure.length d1) (.slice f2 S.last.length d2) (.slice f3 S.slast.length d3) (.slice f4 S.floors.length d4) S → Calls Try.prog 16 #[.agg #[.slice f0 S.now.length d0, .slice f1 S.sure.length d1, .slice f2 S.last.length d2, .slice f3 S.slast.length d3, .slice f4 S.floors.length d4], .int .i64 obj, .agg #[.int .i64 lo, .int .i64 hi]] w fun e w' => e = .returned (.tuple #[.string (mkB T), .bool q]) ∧ Below w.heap.size w w') := fun w h => by rw [← hT, ← hq]; exact implRead_any _ _ _ _ _ S obj lo hi w h HZ.out
    have KS : Hid (∀ w, Sto w (.slice f0 S.now.length d0) (.slice f1 S.sure.length d1) (.slice f2 S.last.length d2) (.slice f3 S.slast.length d3) (.slice f4 S.floors.length d4) S → Calls Try.prog 17 #[.agg #[.slice f0 S.now.length d0, .slice f1 S.sure.length d1, .slice f2 S.last.length d2, .slice f3 S.slast.length d3, .slice f4 S.floors.length d4], .int .i64 obj, .agg #[.int .i64 lo, .int .i64 hi]] w fun e w' => e = .returned (.tuple #[.string (mkB T), .bool q]) ∧ Below w.heap.size w w') := fun w h => by rw [← hT, ← hq]; exact specRead_any _ _ _ _ _ S obj lo hi w h HZ.out
    have HT := Lib.hid hT
    have HQ := Lib.hid hq
    clear hT hq
    obtain ⟨x00, x01, x02, x03, x04⟩ := bs_0.out
    obtain ⟨x10, x11, x12, x13⟩ := bp_0.out
    go_wp2_with fail
    clear hW
    refine (KI.out _ s_1.out).mono ?_; rintro e w3 ⟨rfl, hb⟩
    have s_4 := Lib.hid (s_1.out.keep hb)
    have bs_5 := Lib.hid (bs_0.out.keep hb)
    have bp_6 := Lib.hid (bp_0.out.keep hb)
    have E_7 := Lib.hid (E_2.out.trans (hb.mono E_2.out.size))
    have S_7 := Lib.hid hb.size
    clear x00 x01 x02 x03 x04 x10 x11 x12 x13
    clear s_1 bs_0 bp_0 E_2 hb
    obtain ⟨x00, x01, x02, x03, x04⟩ := bs_5.out
    obtain ⟨x10, x11, x12, x13⟩ := bp_6.out
    go_wp2_with fail
    refine (KS.out _ s_4.out).mono ?_; rintro e w8 ⟨rfl, hb⟩
    have s_9 := Lib.hid (s_4.out.keep hb)
    have bs_10 := Lib.hid (bs_5.out.keep hb)
    have bp_11 := Lib.hid (bp_6.out.keep hb)
    have E_12 := Lib.hid (E_7.out.trans (hb.mono E_7.out.size))
    have S_12 := Lib.hid hb.size
    clear x00 x01 x02 x03 x04 x10 x11 x12 x13
    clear s_4 bs_5 bp_6 E_7 hb
    have q1 : ((mkB T).toList == (mkB T).toList) = true := by simp
    have q2 : ((mkB T).toList != (mkB T).toList) = false := by simp
    clear KI KS
    by_cases hqq : q = true
    · subst hqq
      obtain ⟨hok, ⟨ob0, ob1⟩, hsp, hTr⟩ := rd_yes HQ.out
      obtain ⟨k, rfl⟩ : ∃ k : Nat, obj = k := ⟨obj.toNat, by omega⟩
      rw [HT.out, Int.toNat_natCast] at hTr
      have hln := (stOk_lens hok).1
      have hv := s_9.out.now
      obtain ⟨b0, o0, c0, e0⟩ := vls_some hv (by omega)
      injection e0 with e1 e2 e3
      subst e1
      have y := vls_at hv (i := k) (by omega)
      clear e2 e3 hv
      obtain ⟨L, hL0⟩ : ∃ L, S.now.getD k [] = L := ⟨_, rfl⟩
      have hLt : tokB L = true := by rw [← hL0]; exact txB_at (stOk_iff.1 hok).1 (by omega)
      rw [hL0] at hTr
      have y' : w8.cell? ⟨b0, o0 + k, none⟩ = some (.string (mkB L)) := by rw [y]; show some (Value.string (mkB (S.now.getD k []))) = _; rw [hL0]
      clear y
      have KT : Hid (∀ w, Calls Try.prog 19 #[.string (mkB L), .agg #[.int .i64 lo, .int .i64 hi]] w fun e w' => e = .returned (.string (mkB T)) ∧ Below w.heap.size w w') := fun w => by rw [hTr]; exact implTextRead_any L lo hi (by have := tokB_len hLt; omega) w
      have i1 : (k : Int) < (S.now.length : Int) := by omega
      have i0 : (0 : Int) ≤ (k : Int) := by omega
      clear hTr hLt hL0 hok hsp hln ob0 ob1
      obtain ⟨x00, x01, x02, x03, x04⟩ := bs_10.out
      obtain ⟨x10, x11, x12, x13⟩ := bp_11.out
      go_wp2_with fail
      have hD : Below w8.heap.size w8 w8.drew := (Below.refl _ _).drew
      go_region_held3 (fun w' => w'.cell? ⟨w1.heap.size, 0, none⟩ = some (.slice (some ⟨b0, o0, none⟩) S.now.length d0) ∧ w'.cell? ⟨b0, o0 + k, none⟩ = some (.string (mkB L)) ∧ w'.cell? ⟨w1.heap.size + 1, 0, none⟩ = some (.int .i64 lo) ∧ w'.cell? ⟨w1.heap.size + 1, 1, none⟩ = some (.int .i64 hi))
        (refine ⟨?_, ?_, ?_, ?_⟩ <;> first | (go_keep; done) | (refine cell_keep hb ?_; first | (go_keep; done) | (go_simp; done)))
        (first | (go_at_call 19; refine (KT.out _).mono ?_; rintro e r0 ⟨rfl, hb⟩; have hR0 := hD.trans (hb.mono hD.size)))
      have hbb : Below w8.heap.size w8 r0 := hR0
      clear hb hD hR0 y'
      have s_13 := Lib.hid (s_9.out.keep hbb)
      have bs_14 := Lib.hid (bs_10.out.keep hbb)
      have bp_15 := Lib.hid (bp_11.out.keep hbb)
      have E_16 := Lib.hid (E_12.out.trans (hbb.mono E_12.out.size))
      have S_16 := Lib.hid hbb.size
      clear x00 x01 x02 x03 x04 x10 x11 x12 x13
      clear s_9 bs_10 bp_11 E_12 hbb
      go_wp2
      go_ret
      exact ⟨rfl, E_16.out⟩
    · have hqf : q = false := by simpa using hqq
      subst hqf
      have hTn : T = [] := by rw [← HT.out]; exact rd_no HQ.out
      subst hTn
      have q3 : ((mkB []).toList == []) = true := by rw [mkB_toList']; rfl
      clear hqq
      obtain ⟨x00, x01, x02, x03, x04⟩ := bs_10.out
      go_wp2_with fail
      refine (specStoreOk_any _ _ _ _ _ S _ s_9.out HZ.out).mono ?_; rintro e w13 ⟨rfl, hb⟩
      have s_14 := Lib.hid (s_9.out.keep hb)
      have bs_15 := Lib.hid (bs_10.out.keep hb)
      have bp_16 := Lib.hid (bp_11.out.keep hb)
      have E_17 := Lib.hid (E_12.out.trans (hb.mono E_12.out.size))
      have S_17 := Lib.hid hb.size
      clear x00 x01 x02 x03 x04
      clear s_9 bs_10 bp_11 E_12 hb
      by_cases hok : stOkB S = true
      · rw [hok]
        have hrb : (cliB obj && spanOkB lo hi) = false := by have := HQ.out; unfold rdB at this; rwa [hok, Bool.true_and] at this
        by_cases h1 : obj < 0
        · have g1 : decide (obj < 0) = true := by simpa using h1
          clear hrb hok
          go_wp2
          go_ret
          exact ⟨rfl, E_17.out⟩
        · have g1 : decide (obj < 0) = false := by simpa using h1
          by_cases h2 : 3 ≤ obj
          · have g2 : decide (3 ≤ obj) = true := by simpa using h2
            clear hrb hok
            go_wp2
            go_ret
            exact ⟨rfl, E_17.out⟩
          · have g2 : decide (3 ≤ obj) = false := by simpa using h2
            have hsp : spanOkB lo hi = false := by have hc : cliB obj = true := decide_eq_true ⟨by omega, by omega⟩; rwa [hc, Bool.true_and] at hrb
            clear hrb hok
            have KP := Lib.hid (fun w => specSpanOk_any lo hi w)
            rw [hsp] at KP
            clear hsp
            obtain ⟨x00, x01, x02, x03⟩ := bp_16.out
            go_wp2_with fail
            refine (KP.out _).mono ?_; rintro e w18 ⟨rfl, hb⟩
            have s_19 := Lib.hid (s_14.out.keep hb)
            have bs_20 := Lib.hid (bs_15.out.keep hb)
            have bp_21 := Lib.hid (bp_16.out.keep hb)
            have E_22 := Lib.hid (E_17.out.trans (hb.mono E_17.out.size))
            have S_22 := Lib.hid hb.size
            clear x00 x01 x02 x03
            clear s_14 bs_15 bp_16 E_17 hb
            go_wp2
            go_ret
            exact ⟨rfl, E_22.out⟩
      · have hno : stOkB S = false := by simpa using hok
        rw [hno]
        clear hok hno
        go_wp2
        go_ret
        exact ⟨rfl, E_17.out⟩
  · go_enter Try.func4, Try.ntmps4
    go_wp2
    go_ret
    exact ⟨rfl, Below.refl _ _⟩

end Go.Proofs.Ytjknmocimenagaa.fnStoreRead
