/-
  Stores in boxes: contracts of toStore, eqStore, markStore, heldStore, szStore.
-/
import Derived.Test.YtadoihddmbbjoaaDoorKStoTo
import Derived.Test.YtadoihddmbbjoaaDoorKEqList
import Derived.Test.YtadoihddmbbjoaaDoorKStoMark
import Derived.Deep.LoopGhost
namespace Go.Proofs.YtadoihddmbbjoaaDoor
open Go.RowKit

/-- A box of five values that may be written. -/
structure Box5W (w : World) (b : Nat) (v0 v1 v2 v3 v4 : Value) : Prop where
  c0 : w.cell? ⟨b, 0, none⟩ = some v0
  c1 : w.cell? ⟨b, 1, none⟩ = some v1
  c2 : w.cell? ⟨b, 2, none⟩ = some v2
  c3 : w.cell? ⟨b, 3, none⟩ = some v3
  c4 : w.cell? ⟨b, 4, none⟩ = some v4
  f0 : w.frozen? ⟨b, 0, none⟩ = false
  f1 : w.frozen? ⟨b, 1, none⟩ = false
  f2 : w.frozen? ⟨b, 2, none⟩ = false
  f3 : w.frozen? ⟨b, 3, none⟩ = false
  f4 : w.frozen? ⟨b, 4, none⟩ = false
theorem Box5W.same {w w1 : World} {b : Nat} {v0 v1 v2 v3 v4 : Value} (h : Box5W w b v0 v1 v2 v3 v4) (hh : w1.heap[b]? = w.heap[b]?) : Box5W w1 b v0 v1 v2 v3 v4 :=
  ⟨(World.cell?_of_block (a := ⟨b, 0, none⟩) hh).trans h.c0, (World.cell?_of_block (a := ⟨b, 1, none⟩) hh).trans h.c1, (World.cell?_of_block (a := ⟨b, 2, none⟩) hh).trans h.c2, (World.cell?_of_block (a := ⟨b, 3, none⟩) hh).trans h.c3, (World.cell?_of_block (a := ⟨b, 4, none⟩) hh).trans h.c4,
   (World.frozen?_of_block (a := ⟨b, 0, none⟩) hh).trans h.f0, (World.frozen?_of_block (a := ⟨b, 1, none⟩) hh).trans h.f1, (World.frozen?_of_block (a := ⟨b, 2, none⟩) hh).trans h.f2, (World.frozen?_of_block (a := ⟨b, 3, none⟩) hh).trans h.f3, (World.frozen?_of_block (a := ⟨b, 4, none⟩) hh).trans h.f4⟩
theorem Box5W.keep {w w1 : World} {b : Nat} {v0 v1 v2 v3 v4 : Value} (h : Box5W w b v0 v1 v2 v3 v4) (hb : Below w.heap.size w w1) : Box5W w1 b v0 v1 v2 v3 v4 :=
  h.same (hb.block b (World.block_lt_of_cell? w _ h.c0))
theorem Box5W.btn {w w1 : World} {b lo hi : Nat} {v0 v1 v2 v3 v4 : Value} (h : Box5W w b v0 v1 v2 v3 v4) (hb : Btn lo hi w w1) (hd : b < lo ∨ hi ≤ b) : Box5W w1 b v0 v1 v2 v3 v4 :=
  h.same (hb.block b (World.block_lt_of_cell? w _ h.c0) (by omega))
theorem Box5W.box {w : World} {b : Nat} {v0 v1 v2 v3 v4 : Value} (h : Box5W w b v0 v1 v2 v3 v4) : Box5 w b v0 v1 v2 v3 v4 := ⟨h.c0, h.c1, h.c2, h.c3, h.c4⟩
theorem new_box5W (w : World) (v0 v1 v2 v3 v4 : Value) (T : TypeId) : Box5W (w.alloc (.cells #[v0, v1, v2, v3, v4] T)) w.heap.size v0 v1 v2 v3 v4 := ⟨by go_simp, by go_simp, by go_simp, by go_simp, by go_simp, by go_simp, by go_simp, by go_simp, by go_simp, by go_simp⟩
theorem Box5W.set0 {w : World} {b : Nat} {v0 v1 v2 v3 v4 : Value} (h : Box5W w b v0 v1 v2 v3 v4) (x : Value) : Box5W (w.setCell ⟨b, 0, none⟩ x) b x v1 v2 v3 v4 := by
  obtain ⟨c0, c1, c2, c3, c4, f0, f1, f2, f3, f4⟩ := h
  exact ⟨by go_simp, by go_simp, by go_simp, by go_simp, by go_simp, by go_simp, by go_simp, by go_simp, by go_simp, by go_simp⟩
theorem Box5W.set1 {w : World} {b : Nat} {v0 v1 v2 v3 v4 : Value} (h : Box5W w b v0 v1 v2 v3 v4) (x : Value) : Box5W (w.setCell ⟨b, 1, none⟩ x) b v0 x v2 v3 v4 := by
  obtain ⟨c0, c1, c2, c3, c4, f0, f1, f2, f3, f4⟩ := h
  exact ⟨by go_simp, by go_simp, by go_simp, by go_simp, by go_simp, by go_simp, by go_simp, by go_simp, by go_simp, by go_simp⟩
theorem Box5W.set2 {w : World} {b : Nat} {v0 v1 v2 v3 v4 : Value} (h : Box5W w b v0 v1 v2 v3 v4) (x : Value) : Box5W (w.setCell ⟨b, 2, none⟩ x) b v0 v1 x v3 v4 := by
  obtain ⟨c0, c1, c2, c3, c4, f0, f1, f2, f3, f4⟩ := h
  exact ⟨by go_simp, by go_simp, by go_simp, by go_simp, by go_simp, by go_simp, by go_simp, by go_simp, by go_simp, by go_simp⟩
theorem Box5W.set3 {w : World} {b : Nat} {v0 v1 v2 v3 v4 : Value} (h : Box5W w b v0 v1 v2 v3 v4) (x : Value) : Box5W (w.setCell ⟨b, 3, none⟩ x) b v0 v1 v2 x v4 := by
  obtain ⟨c0, c1, c2, c3, c4, f0, f1, f2, f3, f4⟩ := h
  exact ⟨by go_simp, by go_simp, by go_simp, by go_simp, by go_simp, by go_simp, by go_simp, by go_simp, by go_simp, by go_simp⟩
theorem Box5W.set4 {w : World} {b : Nat} {v0 v1 v2 v3 v4 : Value} (h : Box5W w b v0 v1 v2 v3 v4) (x : Value) : Box5W (w.setCell ⟨b, 4, none⟩ x) b v0 v1 v2 v3 x := by
  obtain ⟨c0, c1, c2, c3, c4, f0, f1, f2, f3, f4⟩ := h
  exact ⟨by go_simp, by go_simp, by go_simp, by go_simp, by go_simp, by go_simp, by go_simp, by go_simp, by go_simp, by go_simp⟩

/-- How many values a store has, at most. -/
def N5.le (N : N5) : Prop := N.a ≤ 1048576 ∧ N.b ≤ 1048576 ∧ N.c ≤ 1048576 ∧ N.d ≤ 1048576 ∧ N.e ≤ 1048576

set_option maxRecDepth 100000 in
set_option maxHeartbeats 4000000 in
theorem toStore_any (v0 v1 v2 v3 v4 : Value) (S : StT) (w : World) (h : Sto w v0 v1 v2 v3 v4 S) (hn : S.n5.le) :
    Calls Tryd.prog 9 #[.agg #[v0, v1, v2, v3, v4]] w (ToSt w S) := by
  obtain ⟨a0, c0, rfl⟩ := h.now.form
  obtain ⟨a1, c1, rfl⟩ := h.sure.form
  obtain ⟨a2, c2, rfl⟩ := h.last.form
  obtain ⟨a3, c3, rfl⟩ := h.slast.form
  obtain ⟨a4, c4, rfl⟩ := h.floors.form
  obtain ⟨n0, n1, n2, n3, n4⟩ := hn
  obtain ⟨W, hW⟩ : ∃ W, ((w.alloc (.cells #[.slice a0 S.now.length c0, .slice a1 S.sure.length c1, .slice a2 S.last.length c2, .slice a3 S.slast.length c3, .slice a4 S.floors.length c4] 25)).alloc (.cells #[.slice none 0 0, .slice none 0 0, .slice none 0 0, .slice none 0 0, .slice none 0 0] 30)).alloc (.cells #[.slice none 0 0, .slice none 0 0, .slice none 0 0, .slice none 0 0, .slice none 0 0] 30) = W := ⟨_, rfl⟩
  have hal : Below w.heap.size w W := by rw [← hW]; exact (((Below.refl _ _).alloc (Nat.le_refl _) _).alloc (by simp) _).alloc (by simp; omega) _
  have A0 : Box5 W w.heap.size (.slice a0 S.now.length c0) (.slice a1 S.sure.length c1) (.slice a2 S.last.length c2) (.slice a3 S.slast.length c3) (.slice a4 S.floors.length c4) := by rw [← hW]; exact ((new_box5 w _ _ _ _ _ _).keep ((Below.refl _ _).alloc (Nat.le_refl _) _)).keep ((Below.refl _ _).alloc (Nat.le_refl _) _)
  have R0 : Box5W W (w.heap.size + 1) (.slice none 0 0) (.slice none 0 0) (.slice none 0 0) (.slice none 0 0) (.slice none 0 0) := by
    rw [← hW]
    have := (new_box5W (w.alloc (.cells #[.slice a0 S.now.length c0, .slice a1 S.sure.length c1, .slice a2 S.last.length c2, .slice a3 S.slast.length c3, .slice a4 S.floors.length c4] 25)) (.slice none 0 0) (.slice none 0 0) (.slice none 0 0) (.slice none 0 0) (.slice none 0 0) 30).keep ((Below.refl _ _).alloc (Nat.le_refl _) (.cells #[.slice none 0 0, .slice none 0 0, .slice none 0 0, .slice none 0 0, .slice none 0 0] 30))
    simpa using this
  have O0 : Box5W W (w.heap.size + 1 + 1) (.slice none 0 0) (.slice none 0 0) (.slice none 0 0) (.slice none 0 0) (.slice none 0 0) := by
    rw [← hW]
    have := new_box5W ((w.alloc (.cells #[.slice a0 S.now.length c0, .slice a1 S.sure.length c1, .slice a2 S.last.length c2, .slice a3 S.slast.length c3, .slice a4 S.floors.length c4] 25)).alloc (.cells #[.slice none 0 0, .slice none 0 0, .slice none 0 0, .slice none 0 0, .slice none 0 0] 30)) (.slice none 0 0) (.slice none 0 0) (.slice none 0 0) (.slice none 0 0) (.slice none 0 0) 30
    simpa using this
  have z0 : w.heap.size + 1 + 1 < W.heap.size := by rw [← hW]; simp
  have HH := Lib.hid h
  have HE0 := Lib.hid hal
  have HA0 := Lib.hid A0
  have HR0 := Lib.hid R0
  have HO0 := Lib.hid O0
  have HN0 := Lib.hid n0
  have HN1 := Lib.hid n1
  have HN2 := Lib.hid n2
  have HN3 := Lib.hid n3
  have HN4 := Lib.hid n4
  obtain ⟨x0, x1, x2, x3, x4⟩ := id A0
  obtain ⟨y0, y1, y2, y3, y4, f0, f1, f2, f3, f4⟩ := id O0
  clear h hal A0 R0 O0 n0 n1 n2 n3 n4
  go_enter Tryd.func9, Tryd.ntmps9
  go_wp2_with fail
  clear hW
  refine (toStringV _ S.now.length (fun i => S.now.getD i []) W (HH.out.now.keep HE0.out) HN0.out).mono ?_; rintro e w0 ⟨g0, rfl, M0_0, hb⟩
  have hs := hb.size
  have ha := HA0.out.keep hb
  have hr := HR0.out.keep hb
  have ho := HO0.out.keep hb
  have he := HE0.out.trans (hb.mono HE0.out.size)
  obtain ⟨X0, hX0⟩ : ∃ X, w0.setCell ⟨w.heap.size + 1 + 1, 0, none⟩ (.slice (some ⟨g0, 0, none⟩) S.now.length S.now.length) = X := ⟨_, rfl⟩
  have ht : Btn (w.heap.size + 1 + 1) (w.heap.size + 1 + 1 + 1) w0 X0 := by rw [← hX0]; exact btn_set _ _ _ _
  have HA1 := Lib.hid (ha.btn ht (.inl (by omega)))
  have HR1 := Lib.hid (hr.btn ht (.inl (by omega)))
  have HO1 : Hid (Box5W X0 (w.heap.size + 1 + 1) (.slice (some ⟨g0, 0, none⟩) S.now.length S.now.length) (.slice none 0 0) (.slice none 0 0) (.slice none 0 0) (.slice none 0 0)) := by rw [← hX0]; exact ho.set0 _
  have HE1 : Hid (Below w.heap.size w X0) := he.trans (ht.below (by omega) he.size)
  replace M0_0 := Lib.hid (M0_0.out.btn ht (.inr (by omega)))
  have z1 : w.heap.size + 1 + 1 < X0.heap.size := by have := ht.size; omega
  have l0 : W.heap.size ≤ w0.heap.size := hs
  have k0 : w0.heap.size ≤ X0.heap.size := ht.size
  clear x0 x1 x2 x3 x4 y0 y1 y2 y3 y4 f0 f1 f2 f3 f4
  obtain ⟨-, -, -, -, -, f0, f1, f2, f3, f4⟩ := id ho
  obtain ⟨y0, y1, y2, y3, y4, -, -, -, -, -⟩ := id ho
  obtain ⟨x0, x1, x2, x3, x4⟩ := id ha
  clear HA0 HR0 HO0 HE0 hs ha hr ho he ht hb
  obtain ⟨q0, q1, q2, q3, q4⟩ := HA1.out
  obtain ⟨r0, r1, r2, r3, r4, s0, s1, s2, s3, s4⟩ := HO1.out
  clear x0 x1 x2 x3 x4
  obtain ⟨x0, x1, x2, x3, x4⟩ := HA1.out
  clear q0 q1 q2 q3 q4
  clear r0 r1 r2 r3 r4 s0 s1 s2 s3 s4
  go_wp2_with fail
  clear hX0
  refine (toStringV _ S.sure.length (fun i => S.sure.getD i []) X0 (HH.out.sure.keep HE1.out) HN1.out).mono ?_; rintro e w1 ⟨g1, rfl, M1_1, hb⟩
  have hs := hb.size
  have ha := HA1.out.keep hb
  have hr := HR1.out.keep hb
  have ho := HO1.out.keep hb
  have he := HE1.out.trans (hb.mono HE1.out.size)
  obtain ⟨X1, hX1⟩ : ∃ X, w1.setCell ⟨w.heap.size + 1 + 1, 1, none⟩ (.slice (some ⟨g1, 0, none⟩) S.sure.length S.sure.length) = X := ⟨_, rfl⟩
  have ht : Btn (w.heap.size + 1 + 1) (w.heap.size + 1 + 1 + 1) w1 X1 := by rw [← hX1]; exact btn_set _ _ _ _
  have HA2 := Lib.hid (ha.btn ht (.inl (by omega)))
  have HR2 := Lib.hid (hr.btn ht (.inl (by omega)))
  have HO2 : Hid (Box5W X1 (w.heap.size + 1 + 1) (.slice (some ⟨g0, 0, none⟩) S.now.length S.now.length) (.slice (some ⟨g1, 0, none⟩) S.sure.length S.sure.length) (.slice none 0 0) (.slice none 0 0) (.slice none 0 0)) := by rw [← hX1]; exact ho.set1 _
  have HE2 : Hid (Below w.heap.size w X1) := he.trans (ht.below (by omega) he.size)
  have M0_1 := Lib.hid ((M0_0.out.keep hb).btn ht (.inr (by omega)))
  replace M1_1 := Lib.hid (M1_1.out.btn ht (.inr (by omega)))
  have z2 : w.heap.size + 1 + 1 < X1.heap.size := by have := ht.size; omega
  have l1 : X0.heap.size ≤ w1.heap.size := hs
  have k1 : w1.heap.size ≤ X1.heap.size := ht.size
  clear x0 x1 x2 x3 x4 y0 y1 y2 y3 y4 f0 f1 f2 f3 f4
  obtain ⟨-, -, -, -, -, f0, f1, f2, f3, f4⟩ := id ho
  obtain ⟨y0, y1, y2, y3, y4, -, -, -, -, -⟩ := id ho
  obtain ⟨x0, x1, x2, x3, x4⟩ := id ha
  clear HA1 HR1 HO1 HE1 hs ha hr ho he ht hb M0_0
  obtain ⟨q0, q1, q2, q3, q4⟩ := HA2.out
  obtain ⟨r0, r1, r2, r3, r4, s0, s1, s2, s3, s4⟩ := HO2.out
  clear x0 x1 x2 x3 x4
  obtain ⟨x0, x1, x2, x3, x4⟩ := HA2.out
  clear q0 q1 q2 q3 q4
  clear r0 r1 r2 r3 r4 s0 s1 s2 s3 s4
  go_wp2_with fail
  clear hX1
  refine (toIntV _ S.last.length (fun i => S.last.getD i 0) X1 (HH.out.last.keep HE2.out) HN2.out).mono ?_; rintro e w2 ⟨g2, rfl, M2_2, hb⟩
  have hs := hb.size
  have ha := HA2.out.keep hb
  have hr := HR2.out.keep hb
  have ho := HO2.out.keep hb
  have he := HE2.out.trans (hb.mono HE2.out.size)
  obtain ⟨X2, hX2⟩ : ∃ X, w2.setCell ⟨w.heap.size + 1 + 1, 2, none⟩ (.slice (some ⟨g2, 0, none⟩) S.last.length S.last.length) = X := ⟨_, rfl⟩
  have ht : Btn (w.heap.size + 1 + 1) (w.heap.size + 1 + 1 + 1) w2 X2 := by rw [← hX2]; exact btn_set _ _ _ _
  have HA3 := Lib.hid (ha.btn ht (.inl (by omega)))
  have HR3 := Lib.hid (hr.btn ht (.inl (by omega)))
  have HO3 : Hid (Box5W X2 (w.heap.size + 1 + 1) (.slice (some ⟨g0, 0, none⟩) S.now.length S.now.length) (.slice (some ⟨g1, 0, none⟩) S.sure.length S.sure.length) (.slice (some ⟨g2, 0, none⟩) S.last.length S.last.length) (.slice none 0 0) (.slice none 0 0)) := by rw [← hX2]; exact ho.set2 _
  have HE3 : Hid (Below w.heap.size w X2) := he.trans (ht.below (by omega) he.size)
  have M0_2 := Lib.hid ((M0_1.out.keep hb).btn ht (.inr (by omega)))
  have M1_2 := Lib.hid ((M1_1.out.keep hb).btn ht (.inr (by omega)))
  replace M2_2 := Lib.hid (M2_2.out.btn ht (.inr (by omega)))
  have z3 : w.heap.size + 1 + 1 < X2.heap.size := by have := ht.size; omega
  have l2 : X1.heap.size ≤ w2.heap.size := hs
  have k2 : w2.heap.size ≤ X2.heap.size := ht.size
  clear x0 x1 x2 x3 x4 y0 y1 y2 y3 y4 f0 f1 f2 f3 f4
  obtain ⟨-, -, -, -, -, f0, f1, f2, f3, f4⟩ := id ho
  obtain ⟨y0, y1, y2, y3, y4, -, -, -, -, -⟩ := id ho
  obtain ⟨x0, x1, x2, x3, x4⟩ := id ha
  clear HA2 HR2 HO2 HE2 hs ha hr ho he ht hb M0_1 M1_1
  obtain ⟨q0, q1, q2, q3, q4⟩ := HA3.out
  obtain ⟨r0, r1, r2, r3, r4, s0, s1, s2, s3, s4⟩ := HO3.out
  clear x0 x1 x2 x3 x4
  obtain ⟨x0, x1, x2, x3, x4⟩ := HA3.out
  clear q0 q1 q2 q3 q4
  clear r0 r1 r2 r3 r4 s0 s1 s2 s3 s4
  go_wp2_with fail
  clear hX2
  refine (toIntV _ S.slast.length (fun i => S.slast.getD i 0) X2 (HH.out.slast.keep HE3.out) HN3.out).mono ?_; rintro e w3 ⟨g3, rfl, M3_3, hb⟩
  have hs := hb.size
  have ha := HA3.out.keep hb
  have hr := HR3.out.keep hb
  have ho := HO3.out.keep hb
  have he := HE3.out.trans (hb.mono HE3.out.size)
  obtain ⟨X3, hX3⟩ : ∃ X, w3.setCell ⟨w.heap.size + 1 + 1, 3, none⟩ (.slice (some ⟨g3, 0, none⟩) S.slast.length S.slast.length) = X := ⟨_, rfl⟩
  have ht : Btn (w.heap.size + 1 + 1) (w.heap.size + 1 + 1 + 1) w3 X3 := by rw [← hX3]; exact btn_set _ _ _ _
  have HA4 := Lib.hid (ha.btn ht (.inl (by omega)))
  have HR4 := Lib.hid (hr.btn ht (.inl (by omega)))
  have HO4 : Hid (Box5W X3 (w.heap.size + 1 + 1) (.slice (some ⟨g0, 0, none⟩) S.now.length S.now.length) (.slice (some ⟨g1, 0, none⟩) S.sure.length S.sure.length) (.slice (some ⟨g2, 0, none⟩) S.last.length S.last.length) (.slice (some ⟨g3, 0, none⟩) S.slast.length S.slast.length) (.slice none 0 0)) := by rw [← hX3]; exact ho.set3 _
  have HE4 : Hid (Below w.heap.size w X3) := he.trans (ht.below (by omega) he.size)
  have M0_3 := Lib.hid ((M0_2.out.keep hb).btn ht (.inr (by omega)))
  have M1_3 := Lib.hid ((M1_2.out.keep hb).btn ht (.inr (by omega)))
  have M2_3 := Lib.hid ((M2_2.out.keep hb).btn ht (.inr (by omega)))
  replace M3_3 := Lib.hid (M3_3.out.btn ht (.inr (by omega)))
  have z4 : w.heap.size + 1 + 1 < X3.heap.size := by have := ht.size; omega
  have l3 : X2.heap.size ≤ w3.heap.size := hs
  have k3 : w3.heap.size ≤ X3.heap.size := ht.size
  clear x0 x1 x2 x3 x4 y0 y1 y2 y3 y4 f0 f1 f2 f3 f4
  obtain ⟨-, -, -, -, -, f0, f1, f2, f3, f4⟩ := id ho
  obtain ⟨y0, y1, y2, y3, y4, -, -, -, -, -⟩ := id ho
  obtain ⟨x0, x1, x2, x3, x4⟩ := id ha
  clear HA3 HR3 HO3 HE3 hs ha hr ho he ht hb M0_2 M1_2 M2_2
  obtain ⟨q0, q1, q2, q3, q4⟩ := HA4.out
  obtain ⟨r0, r1, r2, r3, r4, s0, s1, s2, s3, s4⟩ := HO4.out
  clear x0 x1 x2 x3 x4
  obtain ⟨x0, x1, x2, x3, x4⟩ := HA4.out
  clear q0 q1 q2 q3 q4
  clear r0 r1 r2 r3 r4 s0 s1 s2 s3 s4
  go_wp2_with fail
  clear hX3
  refine (toIntV _ S.floors.length (fun i => S.floors.getD i 0) X3 (HH.out.floors.keep HE4.out) HN4.out).mono ?_; rintro e w4 ⟨g4, rfl, M4_4, hb⟩
  have hs := hb.size
  have ha := HA4.out.keep hb
  have hr := HR4.out.keep hb
  have ho := HO4.out.keep hb
  have he := HE4.out.trans (hb.mono HE4.out.size)
  obtain ⟨X4, hX4⟩ : ∃ X, w4.setCell ⟨w.heap.size + 1 + 1, 4, none⟩ (.slice (some ⟨g4, 0, none⟩) S.floors.length S.floors.length) = X := ⟨_, rfl⟩
  have ht : Btn (w.heap.size + 1 + 1) (w.heap.size + 1 + 1 + 1) w4 X4 := by rw [← hX4]; exact btn_set _ _ _ _
  have HA5 := Lib.hid (ha.btn ht (.inl (by omega)))
  have HR5 := Lib.hid (hr.btn ht (.inl (by omega)))
  have HO5 : Hid (Box5W X4 (w.heap.size + 1 + 1) (.slice (some ⟨g0, 0, none⟩) S.now.length S.now.length) (.slice (some ⟨g1, 0, none⟩) S.sure.length S.sure.length) (.slice (some ⟨g2, 0, none⟩) S.last.length S.last.length) (.slice (some ⟨g3, 0, none⟩) S.slast.length S.slast.length) (.slice (some ⟨g4, 0, none⟩) S.floors.length S.floors.length)) := by rw [← hX4]; exact ho.set4 _
  have HE5 : Hid (Below w.heap.size w X4) := he.trans (ht.below (by omega) he.size)
  have M0_4 := Lib.hid ((M0_3.out.keep hb).btn ht (.inr (by omega)))
  have M1_4 := Lib.hid ((M1_3.out.keep hb).btn ht (.inr (by omega)))
  have M2_4 := Lib.hid ((M2_3.out.keep hb).btn ht (.inr (by omega)))
  have M3_4 := Lib.hid ((M3_3.out.keep hb).btn ht (.inr (by omega)))
  replace M4_4 := Lib.hid (M4_4.out.btn ht (.inr (by omega)))
  have z5 : w.heap.size + 1 + 1 < X4.heap.size := by have := ht.size; omega
  have l4 : X3.heap.size ≤ w4.heap.size := hs
  have k4 : w4.heap.size ≤ X4.heap.size := ht.size
  clear x0 x1 x2 x3 x4 y0 y1 y2 y3 y4 f0 f1 f2 f3 f4
  obtain ⟨-, -, -, -, -, f0, f1, f2, f3, f4⟩ := id ho
  obtain ⟨y0, y1, y2, y3, y4, -, -, -, -, -⟩ := id ho
  obtain ⟨x0, x1, x2, x3, x4⟩ := id ha
  clear HA4 HR4 HO4 HE4 hs ha hr ho he ht hb M0_3 M1_3 M2_3 M3_3
  obtain ⟨r0, r1, r2, r3, r4, -, -, -, -, -⟩ := HO5.out
  obtain ⟨t0, t1, t2, t3, t4, s0, s1, s2, s3, s4⟩ := HR5.out
  obtain ⟨Z, hZ⟩ : ∃ Z, ((((X4.setCell ⟨w.heap.size + 1, 0, none⟩ (.slice (some ⟨g0, 0, none⟩) S.now.length S.now.length)).setCell ⟨w.heap.size + 1, 1, none⟩ (.slice (some ⟨g1, 0, none⟩) S.sure.length S.sure.length)).setCell ⟨w.heap.size + 1, 2, none⟩ (.slice (some ⟨g2, 0, none⟩) S.last.length S.last.length)).setCell ⟨w.heap.size + 1, 3, none⟩ (.slice (some ⟨g3, 0, none⟩) S.slast.length S.slast.length)).setCell ⟨w.heap.size + 1, 4, none⟩ (.slice (some ⟨g4, 0, none⟩) S.floors.length S.floors.length) = Z := ⟨_, rfl⟩
  have hz : Box5W Z (w.heap.size + 1) (.slice (some ⟨g0, 0, none⟩) S.now.length S.now.length) (.slice (some ⟨g1, 0, none⟩) S.sure.length S.sure.length) (.slice (some ⟨g2, 0, none⟩) S.last.length S.last.length) (.slice (some ⟨g3, 0, none⟩) S.slast.length S.slast.length) (.slice (some ⟨g4, 0, none⟩) S.floors.length S.floors.length) := by rw [← hZ]; exact ((((HR5.out.set0 _).set1 _).set2 _).set3 _).set4 _
  have ht : Btn (w.heap.size + 1) (w.heap.size + 1 + 1) X4 Z := by rw [← hZ]; exact ((((btn_set _ _ _ _).trans (btn_set _ _ _ _)).trans (btn_set _ _ _ _)).trans (btn_set _ _ _ _)).trans (btn_set _ _ _ _)
  have HZ : Hid (Below w.heap.size w Z) := HE5.out.trans (ht.below (by omega) HE5.out.size)
  have hs := ht.size
  have HM : Hid (M5 Z w.heap.size Z.heap.size (.slice (some ⟨g0, 0, none⟩) S.now.length S.now.length) (.slice (some ⟨g1, 0, none⟩) S.sure.length S.sure.length) (.slice (some ⟨g2, 0, none⟩) S.last.length S.last.length) (.slice (some ⟨g3, 0, none⟩) S.slast.length S.slast.length) (.slice (some ⟨g4, 0, none⟩) S.floors.length S.floors.length) S.n5 S.f5) := by
    have m0 := M0_4.out.btn ht (.inr (by omega))
    have m1 := M1_4.out.btn ht (.inr (by omega))
    have m2 := M2_4.out.btn ht (.inr (by omega))
    have m3 := M3_4.out.btn ht (.inr (by omega))
    have m4 := M4_4.out.btn ht (.inr (by omega))
    exact ⟨m0.wide (by omega) (by omega), m1.wide (by omega) (by omega), m2.wide (by omega) (by omega), m3.wide (by omega) (by omega), m4.wide (by omega) (by omega), m0.dis m1 (.inl (by omega)), m0.dis m2 (.inl (by omega)), m0.dis m3 (.inl (by omega)), m0.dis m4 (.inl (by omega)), m1.dis m2 (.inl (by omega)), m1.dis m3 (.inl (by omega)), m1.dis m4 (.inl (by omega)), m2.dis m3 (.inl (by omega)), m2.dis m4 (.inl (by omega)), m3.dis m4 (.inl (by omega))⟩
  clear ht hs x0 x1 x2 x3 x4 M0_4 M1_4 M2_4 M3_4 M4_4
  go_wp2
  obtain ⟨t0, t1, t2, t3, t4, -, -, -, -, -⟩ := hz
  exact bodyPost_ret (v := .agg #[.slice (some ⟨g0, 0, none⟩) S.now.length S.now.length, .slice (some ⟨g1, 0, none⟩) S.sure.length S.sure.length, .slice (some ⟨g2, 0, none⟩) S.last.length S.last.length, .slice (some ⟨g3, 0, none⟩) S.slast.length S.slast.length, .slice (some ⟨g4, 0, none⟩) S.floors.length S.floors.length]) (by simp [results, Tryd.results9, go_sem, t0, t1, t2, t3, t4]) rfl ⟨_, _, _, _, _, rfl, HM, HZ.out⟩

set_option maxRecDepth 100000 in
set_option maxHeartbeats 4000000 in
theorem eqStore_same (v0 v1 v2 v3 v4 u0 u1 u2 u3 u4 : Value) (S : StT) (w : World) (h : Sto w v0 v1 v2 v3 v4 S) (h' : Sto w u0 u1 u2 u3 u4 S) :
    Calls Tryd.prog 12 #[.agg #[v0, v1, v2, v3, v4], .agg #[u0, u1, u2, u3, u4]] w fun e w' => e = .returned (.bool true) ∧ Below w.heap.size w w' := by
  obtain ⟨a0, c0, rfl⟩ := h.now.form
  obtain ⟨a1, c1, rfl⟩ := h.sure.form
  obtain ⟨a2, c2, rfl⟩ := h.last.form
  obtain ⟨a3, c3, rfl⟩ := h.slast.form
  obtain ⟨a4, c4, rfl⟩ := h.floors.form
  obtain ⟨b0, d0, rfl⟩ := h'.now.form
  obtain ⟨b1, d1, rfl⟩ := h'.sure.form
  obtain ⟨b2, d2, rfl⟩ := h'.last.form
  obtain ⟨b3, d3, rfl⟩ := h'.slast.form
  obtain ⟨b4, d4, rfl⟩ := h'.floors.form
  obtain ⟨W, hW⟩ : ∃ W, (w.alloc (.cells #[.slice a0 S.now.length c0, .slice a1 S.sure.length c1, .slice a2 S.last.length c2, .slice a3 S.slast.length c3, .slice a4 S.floors.length c4] 30)).alloc (.cells #[.slice b0 S.now.length d0, .slice b1 S.sure.length d1, .slice b2 S.last.length d2, .slice b3 S.slast.length d3, .slice b4 S.floors.length d4] 30) = W := ⟨_, rfl⟩
  have hal : Below w.heap.size w W := by rw [← hW]; exact ((Below.refl _ _).alloc (Nat.le_refl _) _).alloc (by simp) _
  have A0 : Box5 W w.heap.size (.slice a0 S.now.length c0) (.slice a1 S.sure.length c1) (.slice a2 S.last.length c2) (.slice a3 S.slast.length c3) (.slice a4 S.floors.length c4) := by rw [← hW]; exact (new_box5 w _ _ _ _ _ _).keep ((Below.refl _ _).alloc (Nat.le_refl _) _)
  have R0 : Box5 W (w.heap.size + 1) (.slice b0 S.now.length d0) (.slice b1 S.sure.length d1) (.slice b2 S.last.length d2) (.slice b3 S.slast.length d3) (.slice b4 S.floors.length d4) := by
    rw [← hW]
    have := new_box5 (w.alloc (.cells #[.slice a0 S.now.length c0, .slice a1 S.sure.length c1, .slice a2 S.last.length c2, .slice a3 S.slast.length c3, .slice a4 S.floors.length c4] 30)) (.slice b0 S.now.length d0) (.slice b1 S.sure.length d1) (.slice b2 S.last.length d2) (.slice b3 S.slast.length d3) (.slice b4 S.floors.length d4) 30
    simpa using this
  have HH := Lib.hid h
  have HK := Lib.hid h'
  have HE0 := Lib.hid hal
  have HA := Lib.hid A0
  have HR := Lib.hid R0
  obtain ⟨x0, x1, x2, x3, x4⟩ := id A0
  obtain ⟨y0, y1, y2, y3, y4⟩ := id R0
  clear h h' hal A0 R0
  go_enter Tryd.func12, Tryd.ntmps12
  go_wp2_with fail
  clear hW
  refine (eqStringV _ _ S.now.length (fun i => S.now.getD i []) W (HH.out.now.keep HE0.out) (HK.out.now.keep HE0.out)).mono ?_; rintro e w0 ⟨rfl, hb⟩
  clear x0 x1 x2 x3 x4 y0 y1 y2 y3 y4
  replace HA := Lib.hid (HA.out.keep hb)
  replace HR := Lib.hid (HR.out.keep hb)
  have HE1 := Lib.hid (HE0.out.trans (hb.mono HE0.out.size))
  clear hb HE0
  obtain ⟨x0, x1, x2, x3, x4⟩ := HA.out
  obtain ⟨y0, y1, y2, y3, y4⟩ := HR.out
  go_wp2_with fail
  skip
  refine (eqStringV _ _ S.sure.length (fun i => S.sure.getD i []) w0 (HH.out.sure.keep HE1.out) (HK.out.sure.keep HE1.out)).mono ?_; rintro e w1 ⟨rfl, hb⟩
  clear x0 x1 x2 x3 x4 y0 y1 y2 y3 y4
  replace HA := Lib.hid (HA.out.keep hb)
  replace HR := Lib.hid (HR.out.keep hb)
  have HE2 := Lib.hid (HE1.out.trans (hb.mono HE1.out.size))
  clear hb HE1
  obtain ⟨x0, x1, x2, x3, x4⟩ := HA.out
  obtain ⟨y0, y1, y2, y3, y4⟩ := HR.out
  go_wp2_with fail
  skip
  refine (eqIntV _ _ S.last.length (fun i => S.last.getD i 0) w1 (HH.out.last.keep HE2.out) (HK.out.last.keep HE2.out)).mono ?_; rintro e w2 ⟨rfl, hb⟩
  clear x0 x1 x2 x3 x4 y0 y1 y2 y3 y4
  replace HA := Lib.hid (HA.out.keep hb)
  replace HR := Lib.hid (HR.out.keep hb)
  have HE3 := Lib.hid (HE2.out.trans (hb.mono HE2.out.size))
  clear hb HE2
  obtain ⟨x0, x1, x2, x3, x4⟩ := HA.out
  obtain ⟨y0, y1, y2, y3, y4⟩ := HR.out
  go_wp2_with fail
  skip
  refine (eqIntV _ _ S.slast.length (fun i => S.slast.getD i 0) w2 (HH.out.slast.keep HE3.out) (HK.out.slast.keep HE3.out)).mono ?_; rintro e w3 ⟨rfl, hb⟩
  clear x0 x1 x2 x3 x4 y0 y1 y2 y3 y4
  replace HA := Lib.hid (HA.out.keep hb)
  replace HR := Lib.hid (HR.out.keep hb)
  have HE4 := Lib.hid (HE3.out.trans (hb.mono HE3.out.size))
  clear hb HE3
  obtain ⟨x0, x1, x2, x3, x4⟩ := HA.out
  obtain ⟨y0, y1, y2, y3, y4⟩ := HR.out
  go_wp2_with fail
  skip
  refine (eqIntV _ _ S.floors.length (fun i => S.floors.getD i 0) w3 (HH.out.floors.keep HE4.out) (HK.out.floors.keep HE4.out)).mono ?_; rintro e w4 ⟨rfl, hb⟩
  clear x0 x1 x2 x3 x4 y0 y1 y2 y3 y4
  replace HA := Lib.hid (HA.out.keep hb)
  replace HR := Lib.hid (HR.out.keep hb)
  have HE5 := Lib.hid (HE4.out.trans (hb.mono HE4.out.size))
  clear hb HE4
  obtain ⟨x0, x1, x2, x3, x4⟩ := HA.out
  obtain ⟨y0, y1, y2, y3, y4⟩ := HR.out
  go_wp2
  go_ret
  exact ⟨rfl, HE5.out⟩


/-- What is left when sizes are counted: if anything is, P holds. -/
def SzR (w : World) (left : Int) (P : Prop) (e : Ending) (w' : World) : Prop := ∃ z : Int, e = .returned (.int .i64 z) ∧ -1 ≤ z ∧ z ≤ left ∧ (0 ≤ z → P) ∧ w = w'

set_option maxHeartbeats 1000000 in
theorem szStr_any (v : Value) (L : List (List UInt8)) (left : Int) (w : World) (h : Vls w v L.length (strF L)) (hs : ∀ i, (L.getD i []).length ≤ 9223372036854775807) (l0 : 0 ≤ left) (l1 : left ≤ 1048576) :
    Calls Tryd.prog 22 #[v, .int .i64 left] w (SzR w left (L.length ≤ 1048576 ∧ ∀ i, i < L.length → (L.getD i []).length ≤ 1048576)) := by
  obtain ⟨a, cap, rfl, hl, hm, hc⟩ := h
  unfold maxLen at hm
  have HC := Lib.hid hc
  have HS := Lib.hid hs
  clear hc hs
  by_cases hq : left - L.length < 0
  · go_enter Tryd.func22, Tryd.ntmps22
    go_wp2
    go_ret
    exact ⟨-1, rfl, by omega, by omega, fun h => absurd h (by omega), rfl⟩
  · go_enter Tryd.func22, Tryd.ntmps22
    go_wp2
    go_loop [1, 5] (fun s1 s5 => ∃ (k : Nat) (z : Int), k ≤ L.length ∧ s5 = .int .i64 k ∧ s1 = .int .i64 z ∧ 0 ≤ z ∧ z ≤ left ∧ Hid (∀ i, i < k → (L.getD i []).length ≤ 1048576)) (fun _ s5 => L.length - (intOf s5).toNat)
    case atStart => exact ⟨0, _, Nat.zero_le _, rfl, rfl, by omega, by omega, Lib.hid (fun i h => absurd h (by omega))⟩
    case round =>
      obtain ⟨k, z, hk, rfl, rfl, z0, z1, HA⟩ := hrel
      by_cases hlt : k < L.length
      · obtain ⟨b, off, rfl, hcc⟩ := HC.out (by omega)
        have x1 : w.cell? ⟨b, off + k, none⟩ = some (.string (mkB (L.getD k []))) := hcc k hlt
        have i0 : (0 : Int) ≤ (k : Int) := by omega
        have i1 : (k : Int) < (L.length : Int) := by omega
        have zz : (mkB (L.getD k [])).size ≤ 9223372036854775807 := by rw [mkB_size]; exact HS.out k
        have HN : Hid ((mkB (L.getD k [])).size ≤ 1048576 → Hid (∀ i, i < k + 1 → (L.getD i []).length ≤ 1048576)) := fun hq i hi => by
          by_cases e : i = k
          · rw [e]; rw [mkB_size] at hq; exact hq
          · exact HA.out i (by omega)
        clear hcc HA
        generalize mkB (L.getD k []) = y at *
        by_cases hy : z - y.size < 0
        · go_wp2
          go_ret
          exact ⟨-1, rfl, by omega, by omega, fun h => absurd h (by omega), rfl⟩
        · go_wp2
          go_round
          case rel => exact ⟨k + 1, _, by omega, by go_num, rfl, by omega, by omega, HN.out (by omega)⟩
          case measure => simp [intOf]; omega
      · obtain rfl : k = L.length := by omega
        go_wp2
        go_ret
        exact ⟨z, rfl, by omega, by omega, fun _ => ⟨by omega, HA.out⟩, rfl⟩

set_option maxHeartbeats 1000000 in
theorem szInt_any (v : Value) (n : Nat) (f : Nat → Value) (left : Int) (w : World) (h : Vls w v n f) (l0 : 0 ≤ left) (l1 : left ≤ 1048576) :
    Calls Tryd.prog 23 #[v, .int .i64 left] w (SzR w left (n ≤ 1048576)) := by
  obtain ⟨a, cap, rfl, hl, hm, hc⟩ := h
  unfold maxLen at hm
  clear hc
  by_cases hq : left - n < 0
  · go_enter Tryd.func23, Tryd.ntmps23
    go_wp2
    go_ret
    exact ⟨-1, rfl, by omega, by omega, fun h => absurd h (by omega), rfl⟩
  · go_enter Tryd.func23, Tryd.ntmps23
    go_wp2
    go_ret
    exact ⟨left - n, rfl, by omega, by omega, fun _ => by omega, rfl⟩

/-- A store of bounded size. -/
structure StBd (S : StT) : Prop where
  le : S.n5.le
  now : ∀ i, (S.now.getD i []).length ≤ 1048576
  sure : ∀ i, (S.sure.getD i []).length ≤ 1048576
theorem getD_all {α : Type} {L : List α} {d : α} {P : α → Prop} (h : ∀ i, i < L.length → P (L.getD i d)) (hd : P d) (i : Nat) : P (L.getD i d) := by
  by_cases e : i < L.length
  · exact h i e
  · rw [List.getD_eq_getElem?_getD, List.getElem?_eq_none (by omega)]; exact hd

set_option maxRecDepth 100000 in
set_option maxHeartbeats 4000000 in
theorem szStore_any (v0 v1 v2 v3 v4 : Value) (S : StT) (left : Int) (w : World) (h : Sto w v0 v1 v2 v3 v4 S) (h0 : ∀ i, (S.now.getD i []).length ≤ 9223372036854775807) (h1 : ∀ i, (S.sure.getD i []).length ≤ 9223372036854775807) (l0 : 0 ≤ left) (l1 : left ≤ 1048576) :
    Calls Tryd.prog 6 #[.agg #[v0, v1, v2, v3, v4], .int .i64 left] w fun e w' => ∃ z : Int, e = .returned (.int .i64 z) ∧ -1 ≤ z ∧ z ≤ left ∧ (0 ≤ z → StBd S) ∧ Below w.heap.size w w' := by
  obtain ⟨a0, c0, rfl⟩ := h.now.form
  obtain ⟨a1, c1, rfl⟩ := h.sure.form
  obtain ⟨a2, c2, rfl⟩ := h.last.form
  obtain ⟨a3, c3, rfl⟩ := h.slast.form
  obtain ⟨a4, c4, rfl⟩ := h.floors.form
  obtain ⟨W, hW⟩ : ∃ W, w.alloc (.cells #[.slice a0 S.now.length c0, .slice a1 S.sure.length c1, .slice a2 S.last.length c2, .slice a3 S.slast.length c3, .slice a4 S.floors.length c4] 25) = W := ⟨_, rfl⟩
  have hal : Below w.heap.size w W := by rw [← hW]; exact (Below.refl _ _).alloc (Nat.le_refl _) _
  have A0 : Box5 W w.heap.size (.slice a0 S.now.length c0) (.slice a1 S.sure.length c1) (.slice a2 S.last.length c2) (.slice a3 S.slast.length c3) (.slice a4 S.floors.length c4) := by rw [← hW]; exact new_box5 w _ _ _ _ _ _
  have HE := Lib.hid hal
  have HK := Lib.hid (h.keep hal)
  have H0 := Lib.hid h0
  have H1 := Lib.hid h1
  obtain ⟨x0, x1, x2, x3, x4⟩ := id A0
  clear h hal A0 h0 h1
  go_enter Tryd.func6, Tryd.ntmps6
  go_wp2_with fail
  refine (szStr_any _ S.now left W HK.out.now H0.out (by omega) (by omega)).mono ?_; rintro e w0 ⟨z0, rfl, p0, q0, P0, rfl⟩
  clear hW
  have P0 := Lib.hid P0
  by_cases hz0 : z0 < 0
  · go_wp2
    go_ret
    exact ⟨-1, rfl, by omega, by omega, fun h => absurd h (by omega), HE.out⟩
  go_wp2_with fail
  refine (szStr_any _ S.sure z0 W HK.out.sure H1.out (by omega) (by omega)).mono ?_; rintro e w1 ⟨z1, rfl, p1, q1, P1, rfl⟩
  skip
  have P1 := Lib.hid P1
  by_cases hz1 : z1 < 0
  · go_wp2
    go_ret
    exact ⟨-1, rfl, by omega, by omega, fun h => absurd h (by omega), HE.out⟩
  go_wp2_with fail
  refine (szInt_any _ S.last.length _ z1 W HK.out.last (by omega) (by omega)).mono ?_; rintro e w2 ⟨z2, rfl, p2, q2, P2, rfl⟩
  skip
  have P2 := Lib.hid P2
  by_cases hz2 : z2 < 0
  · go_wp2
    go_ret
    exact ⟨-1, rfl, by omega, by omega, fun h => absurd h (by omega), HE.out⟩
  go_wp2_with fail
  refine (szInt_any _ S.slast.length _ z2 W HK.out.slast (by omega) (by omega)).mono ?_; rintro e w3 ⟨z3, rfl, p3, q3, P3, rfl⟩
  skip
  have P3 := Lib.hid P3
  by_cases hz3 : z3 < 0
  · go_wp2
    go_ret
    exact ⟨-1, rfl, by omega, by omega, fun h => absurd h (by omega), HE.out⟩
  go_wp2_with fail
  refine (szInt_any _ S.floors.length _ z3 W HK.out.floors (by omega) (by omega)).mono ?_; rintro e w4 ⟨z4, rfl, p4, q4, P4, rfl⟩
  skip
  have P4 := Lib.hid P4
  by_cases hz4 : z4 < 0
  · go_wp2
    go_ret
    exact ⟨-1, rfl, by omega, by omega, fun h => absurd h (by omega), HE.out⟩
  go_wp2
  go_ret
  exact ⟨z4, rfl, by omega, by omega, fun h => ⟨⟨(P0.out (by omega)).1, (P1.out (by omega)).1, P2.out (by omega), P3.out (by omega), P4.out (by omega)⟩, getD_all (P := fun (l : List UInt8) => l.length ≤ 1048576) (P0.out (by omega)).2 (Nat.zero_le _), getD_all (P := fun (l : List UInt8) => l.length ≤ 1048576) (P1.out (by omega)).2 (Nat.zero_le _)⟩, HE.out⟩


/-- What is marked. -/
def mk5 (k : Nat) (N : N5) : F5 := ⟨mkS k, mkS (k + N.a), mkI ((k + N.a + N.b : Nat) : Int), mkI ((k + N.a + N.b + N.c : Nat) : Int), mkI ((k + N.a + N.b + N.c + N.d : Nat) : Int)⟩
theorem dis_same {w w1 : World} {v u : Value} (hg : w.grownBy w1 v.ownBlock) (hd : Dis u v) : ∀ b, u.ownBlock = some b → b < w.heap.size → w1.heap[b]? = w.heap[b]? := fun b hb hlt => hg.block b hlt (fun e => hd b hb e.symm)
theorem M5.marka {w w1 : World} {lo hi : Nat} {v0 v1 v2 v3 v4 : Value} {N : N5} {F : F5} {f : Nat → Value} (h : M5 w lo hi v0 v1 v2 v3 v4 N F) (hm : Mk1 w1 lo hi v0 N.a f) (hg : w.grownBy w1 v0.ownBlock) : M5 w1 lo hi v0 v1 v2 v3 v4 N { F with a := f } :=
  { h with a := hm, b := h.b.same (dis_same hg h.ab.symm), c := h.c.same (dis_same hg h.ac.symm), d := h.d.same (dis_same hg h.ad.symm), e := h.e.same (dis_same hg h.ae.symm) }
theorem M5.markb {w w1 : World} {lo hi : Nat} {v0 v1 v2 v3 v4 : Value} {N : N5} {F : F5} {f : Nat → Value} (h : M5 w lo hi v0 v1 v2 v3 v4 N F) (hm : Mk1 w1 lo hi v1 N.b f) (hg : w.grownBy w1 v1.ownBlock) : M5 w1 lo hi v0 v1 v2 v3 v4 N { F with b := f } :=
  { h with a := h.a.same (dis_same hg h.ab), b := hm, c := h.c.same (dis_same hg h.bc.symm), d := h.d.same (dis_same hg h.bd.symm), e := h.e.same (dis_same hg h.be.symm) }
theorem M5.markc {w w1 : World} {lo hi : Nat} {v0 v1 v2 v3 v4 : Value} {N : N5} {F : F5} {f : Nat → Value} (h : M5 w lo hi v0 v1 v2 v3 v4 N F) (hm : Mk1 w1 lo hi v2 N.c f) (hg : w.grownBy w1 v2.ownBlock) : M5 w1 lo hi v0 v1 v2 v3 v4 N { F with c := f } :=
  { h with a := h.a.same (dis_same hg h.ac), b := h.b.same (dis_same hg h.bc), c := hm, d := h.d.same (dis_same hg h.cd.symm), e := h.e.same (dis_same hg h.ce.symm) }
theorem M5.markd {w w1 : World} {lo hi : Nat} {v0 v1 v2 v3 v4 : Value} {N : N5} {F : F5} {f : Nat → Value} (h : M5 w lo hi v0 v1 v2 v3 v4 N F) (hm : Mk1 w1 lo hi v3 N.d f) (hg : w.grownBy w1 v3.ownBlock) : M5 w1 lo hi v0 v1 v2 v3 v4 N { F with d := f } :=
  { h with a := h.a.same (dis_same hg h.ad), b := h.b.same (dis_same hg h.bd), c := h.c.same (dis_same hg h.cd), d := hm, e := h.e.same (dis_same hg h.de.symm) }
theorem M5.marke {w w1 : World} {lo hi : Nat} {v0 v1 v2 v3 v4 : Value} {N : N5} {F : F5} {f : Nat → Value} (h : M5 w lo hi v0 v1 v2 v3 v4 N F) (hm : Mk1 w1 lo hi v4 N.e f) (hg : w.grownBy w1 v4.ownBlock) : M5 w1 lo hi v0 v1 v2 v3 v4 N { F with e := f } :=
  { h with a := h.a.same (dis_same hg h.ae), b := h.b.same (dis_same hg h.be), c := h.c.same (dis_same hg h.ce), d := h.d.same (dis_same hg h.de), e := hm }

set_option maxRecDepth 100000 in
set_option maxHeartbeats 4000000 in
theorem markStore_any (v0 v1 v2 v3 v4 : Value) (lo hi k : Nat) (N : N5) (F : F5) (w : World) (h : M5 w lo hi v0 v1 v2 v3 v4 N F) (hhi : hi ≤ w.heap.size) (hn : N.le) (h0 : 1 ≤ k) (h1 : k ≤ 1000000) :
    Calls Tryd.prog 13 #[.agg #[v0, v1, v2, v3, v4], .int .i64 k] w fun e w' => e = .returned (.int .i64 ((k : Int) + N.a + N.b + N.c + N.d + N.e)) ∧ M5 w' lo hi v0 v1 v2 v3 v4 N (mk5 k N) ∧ Btn lo hi w w' := by
  obtain ⟨n0, n1, n2, n3, n4⟩ := hn
  obtain ⟨a0, c0, rfl⟩ := h.a.vls.form
  obtain ⟨a1, c1, rfl⟩ := h.b.vls.form
  obtain ⟨a2, c2, rfl⟩ := h.c.vls.form
  obtain ⟨a3, c3, rfl⟩ := h.d.vls.form
  obtain ⟨a4, c4, rfl⟩ := h.e.vls.form
  obtain ⟨W, hW⟩ : ∃ W, w.alloc (.cells #[.slice a0 N.a c0, .slice a1 N.b c1, .slice a2 N.c c2, .slice a3 N.d c3, .slice a4 N.e c4] 30) = W := ⟨_, rfl⟩
  have hal : Below w.heap.size w W := by rw [← hW]; exact (Below.refl _ _).alloc (Nat.le_refl _) _
  have A0 : Box5 W w.heap.size (.slice a0 N.a c0) (.slice a1 N.b c1) (.slice a2 N.c c2) (.slice a3 N.d c3) (.slice a4 N.e c4) := by rw [← hW]; exact new_box5 w _ _ _ _ _ _
  have HM0 := Lib.hid (h.keep hal)
  have HE0 : Hid (Btn lo hi w W) := Btn.of_below hal
  have HA := Lib.hid A0
  obtain ⟨x0, x1, x2, x3, x4⟩ := id A0
  have HN0 := Lib.hid n0
  have HN1 := Lib.hid n1
  have HN2 := Lib.hid n2
  have HN3 := Lib.hid n3
  have HN4 := Lib.hid n4
  clear h hal A0
  go_enter Tryd.func13, Tryd.ntmps13
  have K : Hid (Calls Tryd.prog 34 #[.slice a0 N.a c0, .int .i64 ((k : Int))] W fun e w' => e = .returned (.int .i64 ((k : Int) + N.a)) ∧ Mk1 w' lo hi (.slice a0 N.a c0) N.a (mkS (k)) ∧ W.grownBy w' (Value.slice a0 N.a c0).ownBlock) := by
    have := mkStr_any (k) HM0.out.a HN0.out (by omega) (by omega)
    try simp only [Int.natCast_add] at this
    exact this
  go_wp2_with fail
  clear hW
  refine K.out.mono ?_; rintro e w0 ⟨rfl, hm, hg⟩
  clear x0 x1 x2 x3 x4 K
  have ht : Btn lo hi W w0 := Btn.of_grown hg HM0.out.a.bnd
  have HM1 := Lib.hid (HM0.out.marka hm hg)
  have HE1 := Lib.hid (HE0.out.trans ht)
  replace HA := Lib.hid (HA.out.btn ht (.inr hhi))
  clear hm hg ht HM0 HE0
  obtain ⟨x0, x1, x2, x3, x4⟩ := HA.out
  have K : Hid (Calls Tryd.prog 34 #[.slice a1 N.b c1, .int .i64 ((k : Int) + N.a)] w0 fun e w' => e = .returned (.int .i64 ((k : Int) + N.a + N.b)) ∧ Mk1 w' lo hi (.slice a1 N.b c1) N.b (mkS (k + N.a)) ∧ w0.grownBy w' (Value.slice a1 N.b c1).ownBlock) := by
    have := mkStr_any (k + N.a) HM1.out.b HN1.out (by omega) (by omega)
    try simp only [Int.natCast_add] at this
    exact this
  go_wp2_with fail
  skip
  refine K.out.mono ?_; rintro e w1 ⟨rfl, hm, hg⟩
  clear x0 x1 x2 x3 x4 K
  have ht : Btn lo hi w0 w1 := Btn.of_grown hg HM1.out.b.bnd
  have HM2 := Lib.hid (HM1.out.markb hm hg)
  have HE2 := Lib.hid (HE1.out.trans ht)
  replace HA := Lib.hid (HA.out.btn ht (.inr hhi))
  clear hm hg ht HM1 HE1
  obtain ⟨x0, x1, x2, x3, x4⟩ := HA.out
  have K : Hid (Calls Tryd.prog 35 #[.slice a2 N.c c2, .int .i64 ((k : Int) + N.a + N.b)] w1 fun e w' => e = .returned (.int .i64 ((k : Int) + N.a + N.b + N.c)) ∧ Mk1 w' lo hi (.slice a2 N.c c2) N.c (mkI ((k + N.a + N.b : Nat) : Int)) ∧ w1.grownBy w' (Value.slice a2 N.c c2).ownBlock) := by
    have := mkInt_any (k + N.a + N.b) HM2.out.c HN2.out (by omega)
    try simp only [Int.natCast_add] at this
    exact this
  go_wp2_with fail
  skip
  refine K.out.mono ?_; rintro e w2 ⟨rfl, hm, hg⟩
  clear x0 x1 x2 x3 x4 K
  have ht : Btn lo hi w1 w2 := Btn.of_grown hg HM2.out.c.bnd
  have HM3 := Lib.hid (HM2.out.markc hm hg)
  have HE3 := Lib.hid (HE2.out.trans ht)
  replace HA := Lib.hid (HA.out.btn ht (.inr hhi))
  clear hm hg ht HM2 HE2
  obtain ⟨x0, x1, x2, x3, x4⟩ := HA.out
  have K : Hid (Calls Tryd.prog 35 #[.slice a3 N.d c3, .int .i64 ((k : Int) + N.a + N.b + N.c)] w2 fun e w' => e = .returned (.int .i64 ((k : Int) + N.a + N.b + N.c + N.d)) ∧ Mk1 w' lo hi (.slice a3 N.d c3) N.d (mkI ((k + N.a + N.b + N.c : Nat) : Int)) ∧ w2.grownBy w' (Value.slice a3 N.d c3).ownBlock) := by
    have := mkInt_any (k + N.a + N.b + N.c) HM3.out.d HN3.out (by omega)
    try simp only [Int.natCast_add] at this
    exact this
  go_wp2_with fail
  skip
  refine K.out.mono ?_; rintro e w3 ⟨rfl, hm, hg⟩
  clear x0 x1 x2 x3 x4 K
  have ht : Btn lo hi w2 w3 := Btn.of_grown hg HM3.out.d.bnd
  have HM4 := Lib.hid (HM3.out.markd hm hg)
  have HE4 := Lib.hid (HE3.out.trans ht)
  replace HA := Lib.hid (HA.out.btn ht (.inr hhi))
  clear hm hg ht HM3 HE3
  obtain ⟨x0, x1, x2, x3, x4⟩ := HA.out
  have K : Hid (Calls Tryd.prog 35 #[.slice a4 N.e c4, .int .i64 ((k : Int) + N.a + N.b + N.c + N.d)] w3 fun e w' => e = .returned (.int .i64 ((k : Int) + N.a + N.b + N.c + N.d + N.e)) ∧ Mk1 w' lo hi (.slice a4 N.e c4) N.e (mkI ((k + N.a + N.b + N.c + N.d : Nat) : Int)) ∧ w3.grownBy w' (Value.slice a4 N.e c4).ownBlock) := by
    have := mkInt_any (k + N.a + N.b + N.c + N.d) HM4.out.e HN4.out (by omega)
    try simp only [Int.natCast_add] at this
    exact this
  go_wp2_with fail
  skip
  refine K.out.mono ?_; rintro e w4 ⟨rfl, hm, hg⟩
  clear x0 x1 x2 x3 x4 K
  have ht : Btn lo hi w3 w4 := Btn.of_grown hg HM4.out.e.bnd
  have HM5 := Lib.hid (HM4.out.marke hm hg)
  have HE5 := Lib.hid (HE4.out.trans ht)
  replace HA := Lib.hid (HA.out.btn ht (.inr hhi))
  clear hm hg ht HM4 HE4
  obtain ⟨x0, x1, x2, x3, x4⟩ := HA.out
  go_wp2
  go_ret
  exact ⟨rfl, HM5.out, HE5.out⟩


set_option maxRecDepth 100000 in
set_option maxHeartbeats 4000000 in
theorem heldStore_any (v0 v1 v2 v3 v4 : Value) (lo hi k : Nat) (N : N5) (w : World) (h : M5 w lo hi v0 v1 v2 v3 v4 N (mk5 k N)) (hn : N.le) (h0 : 1 ≤ k) (h1 : k ≤ 1000000) :
    Calls Tryd.prog 14 #[.agg #[v0, v1, v2, v3, v4], .int .i64 k] w fun e w' => e = .returned (.int .i64 ((k : Int) + N.a + N.b + N.c + N.d + N.e)) ∧ Below w.heap.size w w' := by
  obtain ⟨n0, n1, n2, n3, n4⟩ := hn
  obtain ⟨a0, c0, rfl⟩ := h.a.vls.form
  obtain ⟨a1, c1, rfl⟩ := h.b.vls.form
  obtain ⟨a2, c2, rfl⟩ := h.c.vls.form
  obtain ⟨a3, c3, rfl⟩ := h.d.vls.form
  obtain ⟨a4, c4, rfl⟩ := h.e.vls.form
  obtain ⟨W, hW⟩ : ∃ W, w.alloc (.cells #[.slice a0 N.a c0, .slice a1 N.b c1, .slice a2 N.c c2, .slice a3 N.d c3, .slice a4 N.e c4] 30) = W := ⟨_, rfl⟩
  have hal : Below w.heap.size w W := by rw [← hW]; exact (Below.refl _ _).alloc (Nat.le_refl _) _
  have A0 : Box5 W w.heap.size (.slice a0 N.a c0) (.slice a1 N.b c1) (.slice a2 N.c c2) (.slice a3 N.d c3) (.slice a4 N.e c4) := by rw [← hW]; exact new_box5 w _ _ _ _ _ _
  have HM0 := Lib.hid (h.keep hal)
  have HE0 : Hid (Below w.heap.size w W) := hal
  have HA := Lib.hid A0
  obtain ⟨x0, x1, x2, x3, x4⟩ := id A0
  have HN0 := Lib.hid n0
  have HN1 := Lib.hid n1
  have HN2 := Lib.hid n2
  have HN3 := Lib.hid n3
  have HN4 := Lib.hid n4
  clear h hal A0
  go_enter Tryd.func14, Tryd.ntmps14
  have K : Hid (Calls Tryd.prog 36 #[.slice a0 N.a c0, .int .i64 ((k : Int))] W fun e w' => e = .returned (.int .i64 ((k : Int) + N.a)) ∧ Below W.heap.size W w') := by
    have := hdStr_any (k) HM0.out.a HN0.out (by omega) (by omega)
    try simp only [Int.natCast_add] at this
    exact this
  go_wp2_with fail
  clear hW
  refine K.out.mono ?_; rintro e w0 ⟨rfl, hb⟩
  clear x0 x1 x2 x3 x4 K
  have HM1 := Lib.hid (HM0.out.keep hb)
  have HE1 := Lib.hid (HE0.out.trans (hb.mono HE0.out.size))
  replace HA := Lib.hid (HA.out.keep hb)
  clear hb HM0 HE0
  obtain ⟨x0, x1, x2, x3, x4⟩ := HA.out
  have m0 : ¬ ((k : Int) + N.a < 0) := by omega
  have K : Hid (Calls Tryd.prog 36 #[.slice a1 N.b c1, .int .i64 ((k : Int) + N.a)] w0 fun e w' => e = .returned (.int .i64 ((k : Int) + N.a + N.b)) ∧ Below w0.heap.size w0 w') := by
    have := hdStr_any (k + N.a) HM1.out.b HN1.out (by omega) (by omega)
    try simp only [Int.natCast_add] at this
    exact this
  go_wp2_with fail
  skip
  refine K.out.mono ?_; rintro e w1 ⟨rfl, hb⟩
  clear x0 x1 x2 x3 x4 K
  have HM2 := Lib.hid (HM1.out.keep hb)
  have HE2 := Lib.hid (HE1.out.trans (hb.mono HE1.out.size))
  replace HA := Lib.hid (HA.out.keep hb)
  clear hb HM1 HE1
  obtain ⟨x0, x1, x2, x3, x4⟩ := HA.out
  have m1 : ¬ ((k : Int) + N.a + N.b < 0) := by omega
  have K : Hid (Calls Tryd.prog 37 #[.slice a2 N.c c2, .int .i64 ((k : Int) + N.a + N.b)] w1 fun e w' => e = .returned (.int .i64 ((k : Int) + N.a + N.b + N.c)) ∧ Below w1.heap.size w1 w') := by
    have := hdInt_any (k + N.a + N.b) HM2.out.c HN2.out (by omega)
    try simp only [Int.natCast_add] at this
    exact this
  go_wp2_with fail
  skip
  refine K.out.mono ?_; rintro e w2 ⟨rfl, hb⟩
  clear x0 x1 x2 x3 x4 K
  have HM3 := Lib.hid (HM2.out.keep hb)
  have HE3 := Lib.hid (HE2.out.trans (hb.mono HE2.out.size))
  replace HA := Lib.hid (HA.out.keep hb)
  clear hb HM2 HE2
  obtain ⟨x0, x1, x2, x3, x4⟩ := HA.out
  have m2 : ¬ ((k : Int) + N.a + N.b + N.c < 0) := by omega
  have K : Hid (Calls Tryd.prog 37 #[.slice a3 N.d c3, .int .i64 ((k : Int) + N.a + N.b + N.c)] w2 fun e w' => e = .returned (.int .i64 ((k : Int) + N.a + N.b + N.c + N.d)) ∧ Below w2.heap.size w2 w') := by
    have := hdInt_any (k + N.a + N.b + N.c) HM3.out.d HN3.out (by omega)
    try simp only [Int.natCast_add] at this
    exact this
  go_wp2_with fail
  skip
  refine K.out.mono ?_; rintro e w3 ⟨rfl, hb⟩
  clear x0 x1 x2 x3 x4 K
  have HM4 := Lib.hid (HM3.out.keep hb)
  have HE4 := Lib.hid (HE3.out.trans (hb.mono HE3.out.size))
  replace HA := Lib.hid (HA.out.keep hb)
  clear hb HM3 HE3
  obtain ⟨x0, x1, x2, x3, x4⟩ := HA.out
  have m3 : ¬ ((k : Int) + N.a + N.b + N.c + N.d < 0) := by omega
  have K : Hid (Calls Tryd.prog 37 #[.slice a4 N.e c4, .int .i64 ((k : Int) + N.a + N.b + N.c + N.d)] w3 fun e w' => e = .returned (.int .i64 ((k : Int) + N.a + N.b + N.c + N.d + N.e)) ∧ Below w3.heap.size w3 w') := by
    have := hdInt_any (k + N.a + N.b + N.c + N.d) HM4.out.e HN4.out (by omega)
    try simp only [Int.natCast_add] at this
    exact this
  go_wp2_with fail
  skip
  refine K.out.mono ?_; rintro e w4 ⟨rfl, hb⟩
  clear x0 x1 x2 x3 x4 K
  have HM5 := Lib.hid (HM4.out.keep hb)
  have HE5 := Lib.hid (HE4.out.trans (hb.mono HE4.out.size))
  replace HA := Lib.hid (HA.out.keep hb)
  clear hb HM4 HE4
  obtain ⟨x0, x1, x2, x3, x4⟩ := HA.out
  have m4 : ¬ ((k : Int) + N.a + N.b + N.c + N.d + N.e < 0) := by omega
  go_wp2
  go_ret
  exact ⟨rfl, HE5.out⟩


end Go.Proofs.YtadoihddmbbjoaaDoor
