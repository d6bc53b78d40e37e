/-
  A request drawn for a store: spec.l5Ask.
-/
import Derived.Test.YtadoihddmbbjoaaDoorKStoDo
import Derived.Test.YtadoihddmbbjoaaDoorKDrawText
import Derived.Test.YtadoihddmbbjoaaDoorKDrawSpan
import Derived.Test.YtadoihddmbbjoaaDoorKWhoDraw
namespace Go.Proofs.YtadoihddmbbjoaaDoor
open Go.RowKit

theorem grown_btn {a b : World} {rb : Nat} (h : a.grownBy b (some rb)) : Btn rb (rb + 1) a b := Btn.of_grown h (fun b e => by cases e; omega)
/-- A box that holds a request, which may be written. -/
structure Box6W (w : World) (b : Nat) (q : ReqT) : Prop where
  c0 : w.cell? ⟨b, 0, none⟩ = some (.int .i64 q.who)
  c1 : w.cell? ⟨b, 1, none⟩ = some (.int .i64 q.ep)
  c2 : w.cell? ⟨b, 2, none⟩ = some (.int .i64 q.num)
  c3 : w.cell? ⟨b, 3, none⟩ = some (.int .i64 q.obj)
  c4 : w.cell? ⟨b, 4, none⟩ = some (.int .i64 q.pos)
  c5 : w.cell? ⟨b, 5, none⟩ = some (.string (mkB q.data))
  f0 : w.frozen? ⟨b, 0, none⟩ = false
  f1 : w.frozen? ⟨b, 1, none⟩ = false
  f2 : w.frozen? ⟨b, 2, none⟩ = false
  f3 : w.frozen? ⟨b, 3, none⟩ = false
  f4 : w.frozen? ⟨b, 4, none⟩ = false
  f5 : w.frozen? ⟨b, 5, none⟩ = false
theorem Box6W.same {w w1 : World} {b : Nat} {q : ReqT} (h : Box6W w b q) (hh : w1.heap[b]? = w.heap[b]?) : Box6W w1 b q :=
  ⟨(World.cell?_of_block (a := ⟨b, 0, none⟩) hh).trans h.c0, (World.cell?_of_block (a := ⟨b, 1, none⟩) hh).trans h.c1, (World.cell?_of_block (a := ⟨b, 2, none⟩) hh).trans h.c2, (World.cell?_of_block (a := ⟨b, 3, none⟩) hh).trans h.c3, (World.cell?_of_block (a := ⟨b, 4, none⟩) hh).trans h.c4, (World.cell?_of_block (a := ⟨b, 5, none⟩) hh).trans h.c5, (World.frozen?_of_block (a := ⟨b, 0, none⟩) hh).trans h.f0, (World.frozen?_of_block (a := ⟨b, 1, none⟩) hh).trans h.f1, (World.frozen?_of_block (a := ⟨b, 2, none⟩) hh).trans h.f2, (World.frozen?_of_block (a := ⟨b, 3, none⟩) hh).trans h.f3, (World.frozen?_of_block (a := ⟨b, 4, none⟩) hh).trans h.f4, (World.frozen?_of_block (a := ⟨b, 5, none⟩) hh).trans h.f5⟩
theorem Box6W.keep {w w1 : World} {b : Nat} {q : ReqT} (h : Box6W w b q) (hb : Below w.heap.size w w1) : Box6W w1 b q := h.same (hb.block b (World.block_lt_of_cell? w _ h.c0))
theorem Box6W.btn {w w1 : World} {b lo hi : Nat} {q : ReqT} (h : Box6W w b q) (hb : Btn lo hi w w1) (hd : b < lo ∨ hi ≤ b) : Box6W w1 b q := h.same (hb.block b (World.block_lt_of_cell? w _ h.c0) (by omega))
theorem new_box6W (w : World) (q : ReqT) (T : TypeId) : Box6W (w.alloc (.cells (rqA q) T)) w.heap.size q := ⟨by go_simp, by go_simp, by go_simp, by go_simp, by go_simp, by go_simp, by go_simp, by go_simp, by go_simp, by go_simp, by go_simp, by go_simp⟩
theorem Box6W.set0 {w : World} {b : Nat} {q : ReqT} (h : Box6W w b q) (u : Int) : Box6W (w.setCell ⟨b, 0, none⟩ (.int .i64 u)) b { q with who := u } := by
  obtain ⟨c0, c1, c2, c3, c4, c5, f0, f1, f2, f3, f4, f5⟩ := h
  exact ⟨by go_simp, by go_simp, by go_simp, by go_simp, by go_simp, by go_simp, by go_simp, by go_simp, by go_simp, by go_simp, by go_simp, by go_simp⟩
theorem Box6W.set1 {w : World} {b : Nat} {q : ReqT} (h : Box6W w b q) (u : Int) : Box6W (w.setCell ⟨b, 1, none⟩ (.int .i64 u)) b { q with ep := u } := by
  obtain ⟨c0, c1, c2, c3, c4, c5, f0, f1, f2, f3, f4, f5⟩ := h
  exact ⟨by go_simp, by go_simp, by go_simp, by go_simp, by go_simp, by go_simp, by go_simp, by go_simp, by go_simp, by go_simp, by go_simp, by go_simp⟩
theorem Box6W.set2 {w : World} {b : Nat} {q : ReqT} (h : Box6W w b q) (u : Int) : Box6W (w.setCell ⟨b, 2, none⟩ (.int .i64 u)) b { q with num := u } := by
  obtain ⟨c0, c1, c2, c3, c4, c5, f0, f1, f2, f3, f4, f5⟩ := h
  exact ⟨by go_simp, by go_simp, by go_simp, by go_simp, by go_simp, by go_simp, by go_simp, by go_simp, by go_simp, by go_simp, by go_simp, by go_simp⟩
theorem Box6W.set3 {w : World} {b : Nat} {q : ReqT} (h : Box6W w b q) (u : Int) : Box6W (w.setCell ⟨b, 3, none⟩ (.int .i64 u)) b { q with obj := u } := by
  obtain ⟨c0, c1, c2, c3, c4, c5, f0, f1, f2, f3, f4, f5⟩ := h
  exact ⟨by go_simp, by go_simp, by go_simp, by go_simp, by go_simp, by go_simp, by go_simp, by go_simp, by go_simp, by go_simp, by go_simp, by go_simp⟩
theorem Box6W.set4 {w : World} {b : Nat} {q : ReqT} (h : Box6W w b q) (u : Int) : Box6W (w.setCell ⟨b, 4, none⟩ (.int .i64 u)) b { q with pos := u } := by
  obtain ⟨c0, c1, c2, c3, c4, c5, f0, f1, f2, f3, f4, f5⟩ := h
  exact ⟨by go_simp, by go_simp, by go_simp, by go_simp, by go_simp, by go_simp, by go_simp, by go_simp, by go_simp, by go_simp, by go_simp, by go_simp⟩
theorem Box6W.set5 {w : World} {b : Nat} {q : ReqT} (h : Box6W w b q) (u : List UInt8) : Box6W (w.setCell ⟨b, 5, none⟩ (.string (mkB u))) b { q with data := u } := by
  obtain ⟨c0, c1, c2, c3, c4, c5, f0, f1, f2, f3, f4, f5⟩ := h
  exact ⟨by go_simp, by go_simp, by go_simp, by go_simp, by go_simp, by go_simp, by go_simp, by go_simp, by go_simp, by go_simp, by go_simp, by go_simp⟩
theorem cell_far1 {w : World} {b o R i : Nat} {v u : Value} (h : w.cell? ⟨b, o, none⟩ = some v) (hne : b ≠ R) : (w.setCell ⟨R, i, none⟩ u).cell? ⟨b, o, none⟩ = some v :=
  (World.cell?_of_block (a := ⟨b, o, none⟩) ((btn_set w R i u).block b (World.block_lt_of_cell? w _ h) (by omega))).trans h
/-- What a draw of a request leaves. -/
def Rqd (w : World) (rb p k : Nat) (e : Ending) (w' : World) : Prop :=
  ∃ (q : ReqT) (p' : Nat), e = .returned (.agg (rqA q)) ∧ q.data.length ≤ 49 ∧ Rd w' rb p' ∧ p' ≤ p + k ∧ w.grownBy w' (some rb)

theorem vls_some {w : World} {v : Value} {n : Nat} {f : Nat → Value} (h : Vls w v n f) (hn : 0 < n) : ∃ b o c, v = .slice (some ⟨b, o, none⟩) n c := by
  obtain ⟨a, c, rfl, -, -, hc⟩ := h
  obtain ⟨b, o, rfl, -⟩ := hc hn
  exact ⟨b, o, c, rfl⟩
theorem vls_at {w : World} {b o n m c : Nat} {f : Nat → Value} (h : Vls w (.slice (some ⟨b, o, none⟩) m c) n f) {i : Nat} (hi : i < n) : w.cell? ⟨b, o + i, none⟩ = some (f i) := by
  obtain ⟨a, c, e, -, -, hc⟩ := h
  obtain ⟨b', o', ha, hcc⟩ := hc (by omega)
  injection e with e1 _ _
  rw [ha] at e1
  injection e1 with e2
  injection e2 with e3 e4
  subst e3 e4
  exact hcc i hi
set_option maxRecDepth 100000 in
set_option maxHeartbeats 8000000 in
theorem l5Ask_3 (rb p : Nat) (v0 v1 v2 v3 v4 : Value) (S : StT) (w : World) (h : Rd w rb p) (hp : p ≤ 600000000) (hst : ∀ w1, w.grownBy w1 (some rb) → Sto w1 v0 v1 v2 v3 v4 S) (hl3 : S.last.length = 3) (hf3 : S.floors.length = 3) :
    Calls Tryd.prog 41 #[.pointer (some ⟨rb, 0, none⟩), .agg #[v0, v1, v2, v3, v4]] w (Rqd w rb p 20) := by
  have hst0 := hst w ⟨rfl, rfl, rfl, Nat.le_refl _, fun _ _ _ => rfl⟩
  obtain ⟨a0, c0, rfl⟩ := hst0.now.form
  obtain ⟨a1, c1, rfl⟩ := hst0.sure.form
  obtain ⟨a3, c3, rfl⟩ := hst0.slast.form
  obtain ⟨b2, o2, c2, rfl⟩ := vls_some hst0.last (by omega)
  have hb2 : b2 < w.heap.size := World.block_lt_of_cell? w _ (vls_at hst0.last (i := 0) (by omega))
  rw [hl3] at hst ⊢
  obtain ⟨b4, o4, c4, rfl⟩ := vls_some hst0.floors (by omega)
  have hb4 : b4 < w.heap.size := World.block_lt_of_cell? w _ (vls_at hst0.floors (i := 0) (by omega))
  rw [hf3] at hst ⊢
  clear hst0
  have hrb := h.lt'
  obtain ⟨W, hW⟩ : ∃ W, (w.alloc (.cells #[.slice a0 S.now.length c0, .slice a1 S.sure.length c1, .slice (some ⟨b2, o2, none⟩) 3 c2, .slice a3 S.slast.length c3, .slice (some ⟨b4, o4, none⟩) 3 c4] 30)).alloc (.cells #[.int .i64 0, .int .i64 0, .int .i64 0, .int .i64 0, .int .i64 0, .string ⟨#[]⟩] 34) = W := ⟨_, rfl⟩
  have hal : Below w.heap.size w W := by rw [← hW]; exact ((Below.refl _ _).alloc (Nat.le_refl _) _).alloc (by simp) _
  have A0 : Box5 W w.heap.size (.slice a0 S.now.length c0) (.slice a1 S.sure.length c1) (.slice (some ⟨b2, o2, none⟩) 3 c2) (.slice a3 S.slast.length c3) (.slice (some ⟨b4, o4, none⟩) 3 c4) := by rw [← hW]; exact (new_box5 w _ _ _ _ _ _).keep ((Below.refl _ _).alloc (Nat.le_refl _) _)
  have R0 : Box6W W (w.heap.size + 1) ⟨0, 0, 0, 0, 0, []⟩ := by
    rw [← hW, show w.heap.size + 1 = (w.alloc (.cells #[.slice a0 S.now.length c0, .slice a1 S.sure.length c1, .slice (some ⟨b2, o2, none⟩) 3 c2, .slice a3 S.slast.length c3, .slice (some ⟨b4, o4, none⟩) 3 c4] 30)).heap.size by simp]
    exact new_box6W _ ⟨0, 0, 0, 0, 0, []⟩ _
  have hl : w.heap.size + 1 < W.heap.size := by rw [← hW]; simp
  have E_0 := Lib.hid (grown_below hal (some rb))
  have R_0 := Lib.hid (h.keep hal)
  have S_0 := Lib.hid hl
  have bA_0 := Lib.hid A0
  have bR_0 := Lib.hid R0
  have HST := Lib.hid hst
  have HL3 := Lib.hid hl3
  have HF3 := Lib.hid hf3
  clear hal A0 R0 hl h hst hl3 hf3
  go_enter Tryd.func41, Tryd.ntmps41
  go_wp2_with fail
  refine (pick_any rb (p) 3 _ R_0.out (by omega) (by omega) (by omega)).mono ?_; rintro e w1 ⟨k, rfl, k0, k1, hr, hg⟩
  clear hW
  have q0_ := S_0.out
  have ht := grown_btn hg
  have bA_1 := Lib.hid (bA_0.out.btn ht (by omega))
  have bR_1 := Lib.hid (bR_0.out.btn ht (by omega))
  have E_1 := Lib.hid (grown_trans E_0.out hg)
  have R_1 := Lib.hid (hr)
  have S_1 := Lib.hid ht.size
  clear bA_0 bR_0 E_0 R_0 hg hr ht q0_
  replace k1 := k1 (by omega)
  obtain ⟨k, rfl⟩ : ∃ m : Nat, k = m := ⟨k.toNat, by omega⟩
  have k3 : k < 3 := by omega
  go_wp2_with fail
  refine (pick_any rb (p + 1) 4 _ R_1.out (by omega) (by omega) (by omega)).mono ?_; rintro e w2 ⟨ep, rfl, ep0, ep1, hr, hg⟩
  have q0_ := S_0.out
  have q1_ := S_1.out
  have ht := grown_btn hg
  have bA_2 := Lib.hid (bA_1.out.btn ht (by omega))
  have bR_2 := Lib.hid (bR_1.out.btn ht (by omega))
  have E_2 := Lib.hid (grown_trans E_1.out hg)
  have R_2 := Lib.hid (hr)
  have S_2 := Lib.hid ht.size
  clear bA_1 bR_1 E_1 R_1 hg hr ht q0_ q1_
  replace ep1 := ep1 (by omega)
  go_wp2_with fail
  refine (pick_any rb (p + 1 + 1) 3 _ R_2.out (by omega) (by omega) (by omega)).mono ?_; rintro e w3 ⟨ob, rfl, ob0, ob1, hr, hg⟩
  have q0_ := S_0.out
  have q1_ := S_1.out
  have q2_ := S_2.out
  have ht := grown_btn hg
  have bA_3 := Lib.hid (bA_2.out.btn ht (by omega))
  have bR_3 := Lib.hid (bR_2.out.btn ht (by omega))
  have E_3 := Lib.hid (grown_trans E_2.out hg)
  have R_3 := Lib.hid (hr)
  have S_3 := Lib.hid ht.size
  clear bA_2 bR_2 E_2 R_2 hg hr ht q0_ q1_ q2_
  replace ob1 := ob1 (by omega)
  go_wp2_with fail
  refine (pick_any rb (p + 1 + 1 + 1) 16 _ R_3.out (by omega) (by omega) (by omega)).mono ?_; rintro e w4 ⟨at_, rfl, at_0, at_1, hr, hg⟩
  have q0_ := S_0.out
  have q1_ := S_1.out
  have q2_ := S_2.out
  have q3_ := S_3.out
  have ht := grown_btn hg
  have bA_4 := Lib.hid (bA_3.out.btn ht (by omega))
  have bR_4 := Lib.hid (bR_3.out.btn ht (by omega))
  have E_4 := Lib.hid (grown_trans E_3.out hg)
  have R_4 := Lib.hid (hr)
  have S_4 := Lib.hid ht.size
  clear bA_3 bR_3 E_3 R_3 hg hr ht q0_ q1_ q2_ q3_
  replace at_1 := at_1 (by omega)
  go_wp2_with fail
  refine (ofL_any rb (p + 1 + 1 + 1 + 1) [[120], [97, 98], [113, 55, 46], [109, 110, 111, 112]] 4 (fun l => l.length ≤ 49) w4 _ _ rfl rfl R_4.out (by omega) (by omega) (by omega) (by simp)).mono ?_; rintro e w5 ⟨dt, p1, rfl, hdt, hr, hp1, hg⟩
  have q0_ := S_0.out
  have q1_ := S_1.out
  have q2_ := S_2.out
  have q3_ := S_3.out
  have q4_ := S_4.out
  have ht := grown_btn hg
  have bA_5 := Lib.hid (bA_4.out.btn ht (by omega))
  have bR_5 := Lib.hid (bR_4.out.btn ht (by omega))
  have E_5 := Lib.hid (grown_trans E_4.out hg)
  have R_5 := Lib.hid (hr)
  have S_5 := Lib.hid ht.size
  clear bA_4 bR_4 E_4 R_4 hg hr ht q0_ q1_ q2_ q3_ q4_
  obtain ⟨X6, hX6⟩ : ∃ X, w5.alloc (.cells #[.int .i64 k, .int .i64 ep, .int .i64 1, .int .i64 ob, .int .i64 at_, .string (mkB dt)] 34) = X := ⟨_, rfl⟩
  have hb : Below w5.heap.size w5 X6 := by rw [← hX6]; exact (Below.refl _ _).alloc (Nat.le_refl _) _
  have hB : Box6W X6 w5.heap.size ⟨k, ep, 1, ob, at_, dt⟩ := by rw [← hX6]; exact new_box6W w5 ⟨k, ep, 1, ob, at_, dt⟩ _
  have hl : w5.heap.size < X6.heap.size := by rw [← hX6]; simp
  have bA_6 := Lib.hid (bA_5.out.keep hb)
  have bR_6 := Lib.hid (bR_5.out.keep hb)
  have E_6 := Lib.hid (grown_trans E_5.out (grown_below hb _))
  have R_6 := Lib.hid (R_5.out.keep hb)
  have S_6 := Lib.hid hb.size
  clear bA_5 bR_5 E_5 R_5 hb
  have bQ_7 := Lib.hid hB
  have S_7b := Lib.hid hl
  clear hB hl
  obtain ⟨Llast, hLlast⟩ : ∃ m, S.last.getD k 0 = m := ⟨_, rfl⟩
  have HVlast := Lib.hid hLlast
  clear hLlast
  have y := (vls_at (HST.out _ E_6.out).last (show k < S.last.length by rw [HL3.out]; omega)).trans (by show some (Value.int .i64 (S.last.getD k 0)) = some (Value.int .i64 Llast); rw [HVlast.out])
  obtain ⟨x0_0, x0_1, x0_2, x0_3, x0_4⟩ := bA_6.out
  have yh := x0_2
  go_wp2_with fail
  clear hX6
  have hD : Below X6.heap.size X6 X6.drew := (Below.refl _ _).drew
  have q0_ := S_0.out
  have q1_ := S_1.out
  have q2_ := S_2.out
  have q3_ := S_3.out
  have q4_ := S_4.out
  have q5_ := S_5.out
  have q6_ := S_6.out
  have q7_ := S_7b.out
  go_region_held3 (fun w' => w'.cell? ⟨w.heap.size, 2, none⟩ = some (.slice (some ⟨b2, o2, none⟩) 3 c2) ∧ w'.cell? ⟨b2, o2 + k, none⟩ = some (.int .i64 Llast))
    (refine ⟨?_, ?_⟩ <;> first | assumption | (with_reducible refine cell_far1 ?_ ?_ <;> first | omega | assumption) | (go_keep; done))
    (first | (go_at_call 63; refine (numLA_any rb (p1) [1, 1, 1, 1, 1, 0, 2, -1] 8 (fun _ => True) _ _ _ _ rfl rfl rfl (R_6.out.keep hD) (by omega) (by omega) (by omega) (by simp)).mono ?_; rintro e r0 ⟨i, p2, rfl, -, hr, hp2, hg0⟩; have hg := grown_trans (grown_below hD (some rb)) hg0; have ht := grown_btn hg; have yh := (bA_6.out.btn ht (by omega)).2.2.1; have y := (vls_at (HST.out _ (grown_trans E_6.out hg)).last (show k < S.last.length by rw [HL3.out]; omega)).trans (by show some (Value.int .i64 (S.last.getD k 0)) = some (Value.int .i64 Llast); rw [HVlast.out]); obtain ⟨g0, g1, g2, g3, g4, g5, f0, f1, f2, f3, f4, f5⟩ := bQ_7.out.btn ht (by omega); obtain ⟨m1, hm⟩ : ∃ m, IntKind.i64.wrap (Llast + i) = m := ⟨_, rfl⟩; have hne : ¬ b2 = w5.heap.size := by omega))
  clear q0_ q1_ q2_ q3_ q4_ q5_ q6_ q7_
  clear x0_0 x0_1 x0_2 x0_3 x0_4
  clear yh y hD ht g0 g1 g2 g3 g4 g5 f0 f1 f2 f3 f4 f5 hg0 hne
  have q0_ := S_0.out
  have q1_ := S_1.out
  have q2_ := S_2.out
  have q3_ := S_3.out
  have q4_ := S_4.out
  have q5_ := S_5.out
  have q6_ := S_6.out
  have q7_ := S_7b.out
  have ht := grown_btn hg
  have bA_8 := Lib.hid (bA_6.out.btn ht (by omega))
  have bR_8 := Lib.hid (bR_6.out.btn ht (by omega))
  have bQ_8 := Lib.hid (bQ_7.out.btn ht (by omega))
  have E_8 := Lib.hid (grown_trans E_6.out hg)
  have R_8 := Lib.hid (hr)
  have S_8 := Lib.hid ht.size
  clear bA_6 bR_6 bQ_7 E_6 R_6 hg hr ht q0_ q1_ q2_ q3_ q4_ q5_ q6_ q7_
  have q0_ := S_0.out
  have q1_ := S_1.out
  have q2_ := S_2.out
  have q3_ := S_3.out
  have q4_ := S_4.out
  have q5_ := S_5.out
  have q6_ := S_6.out
  have q7_ := S_7b.out
  have q8_ := S_8.out
  obtain ⟨X7, hX7⟩ : ∃ X, r0.setCell ⟨w5.heap.size, 2, none⟩ (.int .i64 m1) = X := ⟨_, rfl⟩
  have ht : Btn (w5.heap.size) (w5.heap.size + 1) r0 X7 := by rw [← hX7]; exact btn_set _ _ _ _
  have hB := bQ_8.out.set2 m1
  rw [hX7] at hB
  have hE := grown_new E_8.out (show w.heap.size ≤ w5.heap.size by omega) (o := 2) (v := .int .i64 m1)
  have hRd := R_8.out.set (show rb < w5.heap.size by omega) (o := 2) (u := .int .i64 m1)
  rw [hX7] at hE hRd
  rw [hX7]
  have bA_9 := Lib.hid (bA_8.out.btn ht (by omega))
  have bR_9 := Lib.hid (bR_8.out.btn ht (by omega))
  have E_9 := Lib.hid (hE)
  have R_9 := Lib.hid (hRd)
  have S_9 := Lib.hid ht.size
  clear bA_8 bR_8 E_8 R_8 ht hE hRd bQ_8 q0_ q1_ q2_ q3_ q4_ q5_ q6_ q7_ q8_
  have bQ_10 := Lib.hid hB
  clear hB
  clear hX7
  have j3 : ((3 : Int) == 3) = true := rfl
  obtain ⟨x0_0, x0_1, x0_2, x0_3, x0_4⟩ := bA_9.out
  go_wp2_with fail
  refine (pick_any rb (p2) 3 _ R_9.out (by omega) (by omega) (by omega)).mono ?_; rintro e w8 ⟨fl, rfl, fl0, fl1, hr, hg⟩
  have q0_ := S_0.out
  have q1_ := S_1.out
  have q2_ := S_2.out
  have q3_ := S_3.out
  have q4_ := S_4.out
  have q5_ := S_5.out
  have q6_ := S_6.out
  have q7_ := S_7b.out
  have q8_ := S_8.out
  have q9_ := S_9.out
  have ht := grown_btn hg
  have bA_11 := Lib.hid (bA_9.out.btn ht (by omega))
  have bR_11 := Lib.hid (bR_9.out.btn ht (by omega))
  have bQ_11 := Lib.hid (bQ_10.out.btn ht (by omega))
  have E_11 := Lib.hid (grown_trans E_9.out hg)
  have R_11 := Lib.hid (hr)
  have S_11 := Lib.hid ht.size
  clear x0_0 x0_1 x0_2 x0_3 x0_4
  clear bA_9 bR_9 bQ_10 E_9 R_9 hg hr ht q0_ q1_ q2_ q3_ q4_ q5_ q6_ q7_ q8_ q9_
  replace fl1 := fl1 (by omega)
  by_cases ef : 0 < fl
  · have df : decide (0 < fl) = true := by simpa using ef
    obtain ⟨Lfloors, hLfloors⟩ : ∃ m, S.floors.getD k 0 = m := ⟨_, rfl⟩
    have HVfloors := Lib.hid hLfloors
    clear hLfloors
    have y := (vls_at (HST.out _ E_11.out).floors (show k < S.floors.length by rw [HF3.out]; omega)).trans (by show some (Value.int .i64 (S.floors.getD k 0)) = some (Value.int .i64 Lfloors); rw [HVfloors.out])
    obtain ⟨x0_0, x0_1, x0_2, x0_3, x0_4⟩ := bA_11.out
    have yh := x0_4
    go_wp2_with fail
    have hD : Below w8.heap.size w8 w8.drew := (Below.refl _ _).drew
    have q0_ := S_0.out
    have q1_ := S_1.out
    have q2_ := S_2.out
    have q3_ := S_3.out
    have q4_ := S_4.out
    have q5_ := S_5.out
    have q6_ := S_6.out
    have q7_ := S_7b.out
    have q8_ := S_8.out
    have q9_ := S_9.out
    have q10_ := S_11.out
    go_region_held3 (fun w' => w'.cell? ⟨w.heap.size, 4, none⟩ = some (.slice (some ⟨b4, o4, none⟩) 3 c4) ∧ w'.cell? ⟨b4, o4 + k, none⟩ = some (.int .i64 Lfloors))
      (refine ⟨?_, ?_⟩ <;> first | assumption | (with_reducible refine cell_far1 ?_ ?_ <;> first | omega | assumption) | (go_keep; done))
      (first | (go_at_call 62; refine (pick_any rb (p2 + 1) 2 _ (R_11.out.keep hD) (by omega) (by omega) (by omega)).mono ?_; rintro e r0 ⟨ii, rfl, ii0, -, hr, hg0⟩; have hg := grown_trans (grown_below hD (some rb)) hg0; have ht := grown_btn hg; have yh := (bA_11.out.btn ht (by omega)).2.2.2.2; have y := (vls_at (HST.out _ (grown_trans E_11.out hg)).floors (show k < S.floors.length by rw [HF3.out]; omega)).trans (by show some (Value.int .i64 (S.floors.getD k 0)) = some (Value.int .i64 Lfloors); rw [HVfloors.out]); obtain ⟨g0, g1, g2, g3, g4, g5, f0, f1, f2, f3, f4, f5⟩ := bQ_11.out.btn ht (by omega); obtain ⟨m2, hm⟩ : ∃ m, IntKind.i64.wrap (Lfloors + ii) = m := ⟨_, rfl⟩; have hne : ¬ b4 = w5.heap.size := by omega))
    clear q0_ q1_ q2_ q3_ q4_ q5_ q6_ q7_ q8_ q9_ q10_
    clear x0_0 x0_1 x0_2 x0_3 x0_4
    clear yh y hD ht g0 g1 g2 g3 g4 g5 f0 f1 f2 f3 f4 f5 hg0 hne
    have q0_ := S_0.out
    have q1_ := S_1.out
    have q2_ := S_2.out
    have q3_ := S_3.out
    have q4_ := S_4.out
    have q5_ := S_5.out
    have q6_ := S_6.out
    have q7_ := S_7b.out
    have q8_ := S_8.out
    have q9_ := S_9.out
    have q10_ := S_11.out
    have ht := grown_btn hg
    have bA_12 := Lib.hid (bA_11.out.btn ht (by omega))
    have bR_12 := Lib.hid (bR_11.out.btn ht (by omega))
    have bQ_12 := Lib.hid (bQ_11.out.btn ht (by omega))
    have E_12 := Lib.hid (grown_trans E_11.out hg)
    have R_12 := Lib.hid (hr)
    have S_12 := Lib.hid ht.size
    clear bA_11 bR_11 bQ_11 E_11 R_11 hg hr ht q0_ q1_ q2_ q3_ q4_ q5_ q6_ q7_ q8_ q9_ q10_
    have q0_ := S_0.out
    have q1_ := S_1.out
    have q2_ := S_2.out
    have q3_ := S_3.out
    have q4_ := S_4.out
    have q5_ := S_5.out
    have q6_ := S_6.out
    have q7_ := S_7b.out
    have q8_ := S_8.out
    have q9_ := S_9.out
    have q10_ := S_11.out
    have q11_ := S_12.out
    obtain ⟨X9, hX9⟩ : ∃ X, r0.setCell ⟨w5.heap.size, 1, none⟩ (.int .i64 m2) = X := ⟨_, rfl⟩
    have ht : Btn (w5.heap.size) (w5.heap.size + 1) r0 X9 := by rw [← hX9]; exact btn_set _ _ _ _
    have hB := bQ_12.out.set1 m2
    rw [hX9] at hB
    have hE := grown_new E_12.out (show w.heap.size ≤ w5.heap.size by omega) (o := 1) (v := .int .i64 m2)
    have hRd := R_12.out.set (show rb < w5.heap.size by omega) (o := 1) (u := .int .i64 m2)
    rw [hX9] at hE hRd
    rw [hX9]
    have bA_13 := Lib.hid (bA_12.out.btn ht (by omega))
    have bR_13 := Lib.hid (bR_12.out.btn ht (by omega))
    have E_13 := Lib.hid (hE)
    have R_13 := Lib.hid (hRd)
    have S_13 := Lib.hid ht.size
    clear bA_12 bR_12 E_12 R_12 ht hE hRd bQ_12 q0_ q1_ q2_ q3_ q4_ q5_ q6_ q7_ q8_ q9_ q10_ q11_
    have bQ_14 := Lib.hid hB
    clear hB
    clear hX9
    go_wp2_with fail
    refine (pick_any rb (p2 + 1 + 1) 50 _ R_13.out (by omega) (by omega) (by omega)).mono ?_; rintro e w10 ⟨cc, rfl, cc0, cc1, hr, hg⟩
    have q0_ := S_0.out
    have q1_ := S_1.out
    have q2_ := S_2.out
    have q3_ := S_3.out
    have q4_ := S_4.out
    have q5_ := S_5.out
    have q6_ := S_6.out
    have q7_ := S_7b.out
    have q8_ := S_8.out
    have q9_ := S_9.out
    have q10_ := S_11.out
    have q11_ := S_12.out
    have q12_ := S_13.out
    have ht := grown_btn hg
    have bA_15 := Lib.hid (bA_13.out.btn ht (by omega))
    have bR_15 := Lib.hid (bR_13.out.btn ht (by omega))
    have bQ_15 := Lib.hid (bQ_14.out.btn ht (by omega))
    have E_15 := Lib.hid (grown_trans E_13.out hg)
    have R_15 := Lib.hid (hr)
    have S_15 := Lib.hid ht.size
    clear bA_13 bR_13 bQ_14 E_13 R_13 hg hr ht q0_ q1_ q2_ q3_ q4_ q5_ q6_ q7_ q8_ q9_ q10_ q11_ q12_
    replace cc1 := cc1 (by omega)
    by_cases e0 : cc = 0
    · subst e0
      go_wp2_with fail
      refine (l4WhoDraw_any rb (p2 + 1 + 1 + 1) _ R_15.out (by omega)).mono ?_; rintro e w11 ⟨u, p5, rfl, -, hr, hp5, hg⟩
      have q0_ := S_0.out
      have q1_ := S_1.out
      have q2_ := S_2.out
      have q3_ := S_3.out
      have q4_ := S_4.out
      have q5_ := S_5.out
      have q6_ := S_6.out
      have q7_ := S_7b.out
      have q8_ := S_8.out
      have q9_ := S_9.out
      have q10_ := S_11.out
      have q11_ := S_12.out
      have q12_ := S_13.out
      have q13_ := S_15.out
      have ht := grown_btn hg
      have bA_16 := Lib.hid (bA_15.out.btn ht (by omega))
      have bR_16 := Lib.hid (bR_15.out.btn ht (by omega))
      have bQ_16 := Lib.hid (bQ_15.out.btn ht (by omega))
      have E_16 := Lib.hid (grown_trans E_15.out hg)
      have R_16 := Lib.hid (hr)
      have S_16 := Lib.hid ht.size
      clear bA_15 bR_15 bQ_15 E_15 R_15 hg hr ht q0_ q1_ q2_ q3_ q4_ q5_ q6_ q7_ q8_ q9_ q10_ q11_ q12_ q13_
      have hq6 := bQ_16.out
      obtain ⟨v0', v1', v2', v3', v4', v5', w0', w1', w2', w3', w4', w5'⟩ := hq6
      have q0_ := S_0.out
      have q1_ := S_1.out
      have q2_ := S_2.out
      have q3_ := S_3.out
      have q4_ := S_4.out
      have q5_ := S_5.out
      have q6_ := S_6.out
      have q7_ := S_7b.out
      have q8_ := S_8.out
      have q9_ := S_9.out
      have q10_ := S_11.out
      have q11_ := S_12.out
      have q12_ := S_13.out
      have q13_ := S_15.out
      have q14_ := S_16.out
      obtain ⟨X12, hX12⟩ : ∃ X, w11.setCell ⟨w5.heap.size, 0, none⟩ (.int .i64 u) = X := ⟨_, rfl⟩
      have ht : Btn (w5.heap.size) (w5.heap.size + 1) w11 X12 := by rw [← hX12]; exact btn_set _ _ _ _
      have hB := bQ_16.out.set0 u
      rw [hX12] at hB
      have hE := grown_new E_16.out (show w.heap.size ≤ w5.heap.size by omega) (o := 0) (v := .int .i64 u)
      have hRd := R_16.out.set (show rb < w5.heap.size by omega) (o := 0) (u := .int .i64 u)
      rw [hX12] at hE hRd
      have bA_17 := Lib.hid (bA_16.out.btn ht (by omega))
      have bR_17 := Lib.hid (bR_16.out.btn ht (by omega))
      have E_17 := Lib.hid (hE)
      have R_17 := Lib.hid (hRd)
      have S_17 := Lib.hid ht.size
      clear bA_16 bR_16 E_16 R_16 ht hE hRd bQ_16 q0_ q1_ q2_ q3_ q4_ q5_ q6_ q7_ q8_ q9_ q10_ q11_ q12_ q13_ q14_
      have bQ_18 := Lib.hid hB
      clear hB
      have q0_ := S_0.out
      have q1_ := S_1.out
      have q2_ := S_2.out
      have q3_ := S_3.out
      have q4_ := S_4.out
      have q5_ := S_5.out
      have q6_ := S_6.out
      have q7_ := S_7b.out
      have q8_ := S_8.out
      have q9_ := S_9.out
      have q10_ := S_11.out
      have q11_ := S_12.out
      have q12_ := S_13.out
      have q13_ := S_15.out
      have q14_ := S_16.out
      have q15_ := S_17.out
      obtain ⟨Q, HQ, hdq⟩ : ∃ Q : ReqT, Box6W X12 (w5.heap.size) Q ∧ Q.data.length ≤ 49 := ⟨_, bQ_18.out, by first | exact hdt | exact hdu⟩
      obtain ⟨x0, x1, x2, x3, x4, x5, -, -, -, -, -, -⟩ := HQ
      obtain ⟨s0, s1, s2, s3, s4, s5, f0, f1, f2, f3, f4, f5⟩ := bR_17.out
      have hz : Box6W ((((((X12.setCell ⟨w.heap.size + 1, 0, none⟩ (.int .i64 Q.who)).setCell ⟨w.heap.size + 1, 1, none⟩ (.int .i64 Q.ep)).setCell ⟨w.heap.size + 1, 2, none⟩ (.int .i64 Q.num)).setCell ⟨w.heap.size + 1, 3, none⟩ (.int .i64 Q.obj)).setCell ⟨w.heap.size + 1, 4, none⟩ (.int .i64 Q.pos)).setCell ⟨w.heap.size + 1, 5, none⟩ (.string (mkB Q.data))) (w.heap.size + 1) Q := by
        have h := (((((bR_17.out.set0 Q.who).set1 Q.ep).set2 Q.num).set3 Q.obj).set4 Q.pos).set5 Q.data
        exact h
      have hE := grown_new (grown_new (grown_new (grown_new (grown_new (grown_new E_17.out (show w.heap.size ≤ w.heap.size + 1 by omega) (o := 0) (v := .int .i64 Q.who)) (show w.heap.size ≤ w.heap.size + 1 by omega) (o := 1) (v := .int .i64 Q.ep)) (show w.heap.size ≤ w.heap.size + 1 by omega) (o := 2) (v := .int .i64 Q.num)) (show w.heap.size ≤ w.heap.size + 1 by omega) (o := 3) (v := .int .i64 Q.obj)) (show w.heap.size ≤ w.heap.size + 1 by omega) (o := 4) (v := .int .i64 Q.pos)) (show w.heap.size ≤ w.heap.size + 1 by omega) (o := 5) (v := .string (mkB Q.data))
      have hRd := (((((R_17.out.set (show rb < w.heap.size + 1 by omega) (o := 0) (u := .int .i64 Q.who)).set (show rb < w.heap.size + 1 by omega) (o := 1) (u := .int .i64 Q.ep)).set (show rb < w.heap.size + 1 by omega) (o := 2) (u := .int .i64 Q.num)).set (show rb < w.heap.size + 1 by omega) (o := 3) (u := .int .i64 Q.obj)).set (show rb < w.heap.size + 1 by omega) (o := 4) (u := .int .i64 Q.pos)).set (show rb < w.heap.size + 1 by omega) (o := 5) (u := .string (mkB Q.data))
      obtain ⟨Z, hZ⟩ : ∃ X, ((((((X12.setCell ⟨w.heap.size + 1, 0, none⟩ (.int .i64 Q.who)).setCell ⟨w.heap.size + 1, 1, none⟩ (.int .i64 Q.ep)).setCell ⟨w.heap.size + 1, 2, none⟩ (.int .i64 Q.num)).setCell ⟨w.heap.size + 1, 3, none⟩ (.int .i64 Q.obj)).setCell ⟨w.heap.size + 1, 4, none⟩ (.int .i64 Q.pos)).setCell ⟨w.heap.size + 1, 5, none⟩ (.string (mkB Q.data))) = X := ⟨_, rfl⟩
      rw [hZ] at hz hE hRd
      have HE := Lib.hid hE
      have HRd := Lib.hid hRd
      have hpf : p5 ≤ p + 20 := by omega
      have HPF := Lib.hid hpf
      have HDQ := Lib.hid hdq
      clear hE hRd hpf hdq q0_ q1_ q2_ q3_ q4_ q5_ q6_ q7_ q8_ q9_ q10_ q11_ q12_ q13_ q14_ q15_
      go_wp2
      obtain ⟨t0, t1, t2, t3, t4, t5, -, -, -, -, -, -⟩ := hz
      exact bodyPost_ret (v := .agg (rqA Q)) (by simp [results, Tryd.results41, go_sem, t0, t1, t2, t3, t4, t5, rqA]) rfl ⟨Q, _, rfl, HDQ.out, HRd.out, HPF.out, HE.out⟩
    · have d0 : (cc == 0) = false := by simpa using e0
      by_cases e1 : cc = 1
      · subst e1
        go_wp2_with fail
        refine (numLA_any rb (p2 + 1 + 1 + 1) [-1, 3] 2 (fun _ => True) w10 w10.heap.size _ _ rfl rfl rfl R_15.out (by omega) (by omega) (by omega) (by simp)).mono ?_; rintro e w13 ⟨u, p5, rfl, -, hr, hp5, hg⟩
        have q0_ := S_0.out
        have q1_ := S_1.out
        have q2_ := S_2.out
        have q3_ := S_3.out
        have q4_ := S_4.out
        have q5_ := S_5.out
        have q6_ := S_6.out
        have q7_ := S_7b.out
        have q8_ := S_8.out
        have q9_ := S_9.out
        have q10_ := S_11.out
        have q11_ := S_12.out
        have q12_ := S_13.out
        have q13_ := S_15.out
        have ht := grown_btn hg
        have bA_16 := Lib.hid (bA_15.out.btn ht (by omega))
        have bR_16 := Lib.hid (bR_15.out.btn ht (by omega))
        have bQ_16 := Lib.hid (bQ_15.out.btn ht (by omega))
        have E_16 := Lib.hid (grown_trans E_15.out hg)
        have R_16 := Lib.hid (hr)
        have S_16 := Lib.hid ht.size
        clear bA_15 bR_15 bQ_15 E_15 R_15 hg hr ht q0_ q1_ q2_ q3_ q4_ q5_ q6_ q7_ q8_ q9_ q10_ q11_ q12_ q13_
        have hq6 := bQ_16.out
        obtain ⟨v0', v1', v2', v3', v4', v5', w0', w1', w2', w3', w4', w5'⟩ := hq6
        have q0_ := S_0.out
        have q1_ := S_1.out
        have q2_ := S_2.out
        have q3_ := S_3.out
        have q4_ := S_4.out
        have q5_ := S_5.out
        have q6_ := S_6.out
        have q7_ := S_7b.out
        have q8_ := S_8.out
        have q9_ := S_9.out
        have q10_ := S_11.out
        have q11_ := S_12.out
        have q12_ := S_13.out
        have q13_ := S_15.out
        have q14_ := S_16.out
        obtain ⟨X14, hX14⟩ : ∃ X, w13.setCell ⟨w5.heap.size, 3, none⟩ (.int .i64 u) = X := ⟨_, rfl⟩
        have ht : Btn (w5.heap.size) (w5.heap.size + 1) w13 X14 := by rw [← hX14]; exact btn_set _ _ _ _
        have hB := bQ_16.out.set3 u
        rw [hX14] at hB
        have hE := grown_new E_16.out (show w.heap.size ≤ w5.heap.size by omega) (o := 3) (v := .int .i64 u)
        have hRd := R_16.out.set (show rb < w5.heap.size by omega) (o := 3) (u := .int .i64 u)
        rw [hX14] at hE hRd
        have bA_17 := Lib.hid (bA_16.out.btn ht (by omega))
        have bR_17 := Lib.hid (bR_16.out.btn ht (by omega))
        have E_17 := Lib.hid (hE)
        have R_17 := Lib.hid (hRd)
        have S_17 := Lib.hid ht.size
        clear bA_16 bR_16 E_16 R_16 ht hE hRd bQ_16 q0_ q1_ q2_ q3_ q4_ q5_ q6_ q7_ q8_ q9_ q10_ q11_ q12_ q13_ q14_
        have bQ_18 := Lib.hid hB
        clear hB
        have q0_ := S_0.out
        have q1_ := S_1.out
        have q2_ := S_2.out
        have q3_ := S_3.out
        have q4_ := S_4.out
        have q5_ := S_5.out
        have q6_ := S_6.out
        have q7_ := S_7b.out
        have q8_ := S_8.out
        have q9_ := S_9.out
        have q10_ := S_11.out
        have q11_ := S_12.out
        have q12_ := S_13.out
        have q13_ := S_15.out
        have q14_ := S_16.out
        have q15_ := S_17.out
        obtain ⟨Q, HQ, hdq⟩ : ∃ Q : ReqT, Box6W X14 (w5.heap.size) Q ∧ Q.data.length ≤ 49 := ⟨_, bQ_18.out, by first | exact hdt | exact hdu⟩
        obtain ⟨x0, x1, x2, x3, x4, x5, -, -, -, -, -, -⟩ := HQ
        obtain ⟨s0, s1, s2, s3, s4, s5, f0, f1, f2, f3, f4, f5⟩ := bR_17.out
        have hz : Box6W ((((((X14.setCell ⟨w.heap.size + 1, 0, none⟩ (.int .i64 Q.who)).setCell ⟨w.heap.size + 1, 1, none⟩ (.int .i64 Q.ep)).setCell ⟨w.heap.size + 1, 2, none⟩ (.int .i64 Q.num)).setCell ⟨w.heap.size + 1, 3, none⟩ (.int .i64 Q.obj)).setCell ⟨w.heap.size + 1, 4, none⟩ (.int .i64 Q.pos)).setCell ⟨w.heap.size + 1, 5, none⟩ (.string (mkB Q.data))) (w.heap.size + 1) Q := by
          have h := (((((bR_17.out.set0 Q.who).set1 Q.ep).set2 Q.num).set3 Q.obj).set4 Q.pos).set5 Q.data
          exact h
        have hE := grown_new (grown_new (grown_new (grown_new (grown_new (grown_new E_17.out (show w.heap.size ≤ w.heap.size + 1 by omega) (o := 0) (v := .int .i64 Q.who)) (show w.heap.size ≤ w.heap.size + 1 by omega) (o := 1) (v := .int .i64 Q.ep)) (show w.heap.size ≤ w.heap.size + 1 by omega) (o := 2) (v := .int .i64 Q.num)) (show w.heap.size ≤ w.heap.size + 1 by omega) (o := 3) (v := .int .i64 Q.obj)) (show w.heap.size ≤ w.heap.size + 1 by omega) (o := 4) (v := .int .i64 Q.pos)) (show w.heap.size ≤ w.heap.size + 1 by omega) (o := 5) (v := .string (mkB Q.data))
        have hRd := (((((R_17.out.set (show rb < w.heap.size + 1 by omega) (o := 0) (u := .int .i64 Q.who)).set (show rb < w.heap.size + 1 by omega) (o := 1) (u := .int .i64 Q.ep)).set (show rb < w.heap.size + 1 by omega) (o := 2) (u := .int .i64 Q.num)).set (show rb < w.heap.size + 1 by omega) (o := 3) (u := .int .i64 Q.obj)).set (show rb < w.heap.size + 1 by omega) (o := 4) (u := .int .i64 Q.pos)).set (show rb < w.heap.size + 1 by omega) (o := 5) (u := .string (mkB Q.data))
        obtain ⟨Z, hZ⟩ : ∃ X, ((((((X14.setCell ⟨w.heap.size + 1, 0, none⟩ (.int .i64 Q.who)).setCell ⟨w.heap.size + 1, 1, none⟩ (.int .i64 Q.ep)).setCell ⟨w.heap.size + 1, 2, none⟩ (.int .i64 Q.num)).setCell ⟨w.heap.size + 1, 3, none⟩ (.int .i64 Q.obj)).setCell ⟨w.heap.size + 1, 4, none⟩ (.int .i64 Q.pos)).setCell ⟨w.heap.size + 1, 5, none⟩ (.string (mkB Q.data))) = X := ⟨_, rfl⟩
        rw [hZ] at hz hE hRd
        have HE := Lib.hid hE
        have HRd := Lib.hid hRd
        have hpf : p5 ≤ p + 20 := by omega
        have HPF := Lib.hid hpf
        have HDQ := Lib.hid hdq
        clear hE hRd hpf hdq q0_ q1_ q2_ q3_ q4_ q5_ q6_ q7_ q8_ q9_ q10_ q11_ q12_ q13_ q14_ q15_
        go_wp2
        obtain ⟨t0, t1, t2, t3, t4, t5, -, -, -, -, -, -⟩ := hz
        exact bodyPost_ret (v := .agg (rqA Q)) (by simp [results, Tryd.results41, go_sem, t0, t1, t2, t3, t4, t5, rqA]) rfl ⟨Q, _, rfl, HDQ.out, HRd.out, HPF.out, HE.out⟩
      · have d1 : (cc == 1) = false := by simpa using e1
        by_cases e2 : cc = 2
        · subst e2
          go_wp2_with fail
          refine (numLA_any rb (p2 + 1 + 1 + 1) [-1, 48, 9223372036854775807] 3 (fun _ => True) w10 w10.heap.size _ _ rfl rfl rfl R_15.out (by omega) (by omega) (by omega) (by simp)).mono ?_; rintro e w15 ⟨u, p5, rfl, -, hr, hp5, hg⟩
          have q0_ := S_0.out
          have q1_ := S_1.out
          have q2_ := S_2.out
          have q3_ := S_3.out
          have q4_ := S_4.out
          have q5_ := S_5.out
          have q6_ := S_6.out
          have q7_ := S_7b.out
          have q8_ := S_8.out
          have q9_ := S_9.out
          have q10_ := S_11.out
          have q11_ := S_12.out
          have q12_ := S_13.out
          have q13_ := S_15.out
          have ht := grown_btn hg
          have bA_16 := Lib.hid (bA_15.out.btn ht (by omega))
          have bR_16 := Lib.hid (bR_15.out.btn ht (by omega))
          have bQ_16 := Lib.hid (bQ_15.out.btn ht (by omega))
          have E_16 := Lib.hid (grown_trans E_15.out hg)
          have R_16 := Lib.hid (hr)
          have S_16 := Lib.hid ht.size
          clear bA_15 bR_15 bQ_15 E_15 R_15 hg hr ht q0_ q1_ q2_ q3_ q4_ q5_ q6_ q7_ q8_ q9_ q10_ q11_ q12_ q13_
          have hq6 := bQ_16.out
          obtain ⟨v0', v1', v2', v3', v4', v5', w0', w1', w2', w3', w4', w5'⟩ := hq6
          have q0_ := S_0.out
          have q1_ := S_1.out
          have q2_ := S_2.out
          have q3_ := S_3.out
          have q4_ := S_4.out
          have q5_ := S_5.out
          have q6_ := S_6.out
          have q7_ := S_7b.out
          have q8_ := S_8.out
          have q9_ := S_9.out
          have q10_ := S_11.out
          have q11_ := S_12.out
          have q12_ := S_13.out
          have q13_ := S_15.out
          have q14_ := S_16.out
          obtain ⟨X16, hX16⟩ : ∃ X, w15.setCell ⟨w5.heap.size, 4, none⟩ (.int .i64 u) = X := ⟨_, rfl⟩
          have ht : Btn (w5.heap.size) (w5.heap.size + 1) w15 X16 := by rw [← hX16]; exact btn_set _ _ _ _
          have hB := bQ_16.out.set4 u
          rw [hX16] at hB
          have hE := grown_new E_16.out (show w.heap.size ≤ w5.heap.size by omega) (o := 4) (v := .int .i64 u)
          have hRd := R_16.out.set (show rb < w5.heap.size by omega) (o := 4) (u := .int .i64 u)
          rw [hX16] at hE hRd
          have bA_17 := Lib.hid (bA_16.out.btn ht (by omega))
          have bR_17 := Lib.hid (bR_16.out.btn ht (by omega))
          have E_17 := Lib.hid (hE)
          have R_17 := Lib.hid (hRd)
          have S_17 := Lib.hid ht.size
          clear bA_16 bR_16 E_16 R_16 ht hE hRd bQ_16 q0_ q1_ q2_ q3_ q4_ q5_ q6_ q7_ q8_ q9_ q10_ q11_ q12_ q13_ q14_
          have bQ_18 := Lib.hid hB
          clear hB
          have q0_ := S_0.out
          have q1_ := S_1.out
          have q2_ := S_2.out
          have q3_ := S_3.out
          have q4_ := S_4.out
          have q5_ := S_5.out
          have q6_ := S_6.out
          have q7_ := S_7b.out
          have q8_ := S_8.out
          have q9_ := S_9.out
          have q10_ := S_11.out
          have q11_ := S_12.out
          have q12_ := S_13.out
          have q13_ := S_15.out
          have q14_ := S_16.out
          have q15_ := S_17.out
          obtain ⟨Q, HQ, hdq⟩ : ∃ Q : ReqT, Box6W X16 (w5.heap.size) Q ∧ Q.data.length ≤ 49 := ⟨_, bQ_18.out, by first | exact hdt | exact hdu⟩
          obtain ⟨x0, x1, x2, x3, x4, x5, -, -, -, -, -, -⟩ := HQ
          obtain ⟨s0, s1, s2, s3, s4, s5, f0, f1, f2, f3, f4, f5⟩ := bR_17.out
          have hz : Box6W ((((((X16.setCell ⟨w.heap.size + 1, 0, none⟩ (.int .i64 Q.who)).setCell ⟨w.heap.size + 1, 1, none⟩ (.int .i64 Q.ep)).setCell ⟨w.heap.size + 1, 2, none⟩ (.int .i64 Q.num)).setCell ⟨w.heap.size + 1, 3, none⟩ (.int .i64 Q.obj)).setCell ⟨w.heap.size + 1, 4, none⟩ (.int .i64 Q.pos)).setCell ⟨w.heap.size + 1, 5, none⟩ (.string (mkB Q.data))) (w.heap.size + 1) Q := by
            have h := (((((bR_17.out.set0 Q.who).set1 Q.ep).set2 Q.num).set3 Q.obj).set4 Q.pos).set5 Q.data
            exact h
          have hE := grown_new (grown_new (grown_new (grown_new (grown_new (grown_new E_17.out (show w.heap.size ≤ w.heap.size + 1 by omega) (o := 0) (v := .int .i64 Q.who)) (show w.heap.size ≤ w.heap.size + 1 by omega) (o := 1) (v := .int .i64 Q.ep)) (show w.heap.size ≤ w.heap.size + 1 by omega) (o := 2) (v := .int .i64 Q.num)) (show w.heap.size ≤ w.heap.size + 1 by omega) (o := 3) (v := .int .i64 Q.obj)) (show w.heap.size ≤ w.heap.size + 1 by omega) (o := 4) (v := .int .i64 Q.pos)) (show w.heap.size ≤ w.heap.size + 1 by omega) (o := 5) (v := .string (mkB Q.data))
          have hRd := (((((R_17.out.set (show rb < w.heap.size + 1 by omega) (o := 0) (u := .int .i64 Q.who)).set (show rb < w.heap.size + 1 by omega) (o := 1) (u := .int .i64 Q.ep)).set (show rb < w.heap.size + 1 by omega) (o := 2) (u := .int .i64 Q.num)).set (show rb < w.heap.size + 1 by omega) (o := 3) (u := .int .i64 Q.obj)).set (show rb < w.heap.size + 1 by omega) (o := 4) (u := .int .i64 Q.pos)).set (show rb < w.heap.size + 1 by omega) (o := 5) (u := .string (mkB Q.data))
          obtain ⟨Z, hZ⟩ : ∃ X, ((((((X16.setCell ⟨w.heap.size + 1, 0, none⟩ (.int .i64 Q.who)).setCell ⟨w.heap.size + 1, 1, none⟩ (.int .i64 Q.ep)).setCell ⟨w.heap.size + 1, 2, none⟩ (.int .i64 Q.num)).setCell ⟨w.heap.size + 1, 3, none⟩ (.int .i64 Q.obj)).setCell ⟨w.heap.size + 1, 4, none⟩ (.int .i64 Q.pos)).setCell ⟨w.heap.size + 1, 5, none⟩ (.string (mkB Q.data))) = X := ⟨_, rfl⟩
          rw [hZ] at hz hE hRd
          have HE := Lib.hid hE
          have HRd := Lib.hid hRd
          have hpf : p5 ≤ p + 20 := by omega
          have HPF := Lib.hid hpf
          have HDQ := Lib.hid hdq
          clear hE hRd hpf hdq q0_ q1_ q2_ q3_ q4_ q5_ q6_ q7_ q8_ q9_ q10_ q11_ q12_ q13_ q14_ q15_
          go_wp2
          obtain ⟨t0, t1, t2, t3, t4, t5, -, -, -, -, -, -⟩ := hz
          exact bodyPost_ret (v := .agg (rqA Q)) (by simp [results, Tryd.results41, go_sem, t0, t1, t2, t3, t4, t5, rqA]) rfl ⟨Q, _, rfl, HDQ.out, HRd.out, HPF.out, HE.out⟩
        · have d2 : (cc == 2) = false := by simpa using e2
          by_cases e3 : cc = 3
          · subst e3
            go_wp2_with fail
            refine (ofL_any rb (p2 + 1 + 1 + 1) [[], [65], [97, 32, 98]] 3 (fun l => l.length ≤ 49) w10 _ _ rfl rfl R_15.out (by omega) (by omega) (by omega) (by simp)).mono ?_; rintro e w17 ⟨u, p5, rfl, hdu, hr, hp5, hg⟩
            have q0_ := S_0.out
            have q1_ := S_1.out
            have q2_ := S_2.out
            have q3_ := S_3.out
            have q4_ := S_4.out
            have q5_ := S_5.out
            have q6_ := S_6.out
            have q7_ := S_7b.out
            have q8_ := S_8.out
            have q9_ := S_9.out
            have q10_ := S_11.out
            have q11_ := S_12.out
            have q12_ := S_13.out
            have q13_ := S_15.out
            have ht := grown_btn hg
            have bA_16 := Lib.hid (bA_15.out.btn ht (by omega))
            have bR_16 := Lib.hid (bR_15.out.btn ht (by omega))
            have bQ_16 := Lib.hid (bQ_15.out.btn ht (by omega))
            have E_16 := Lib.hid (grown_trans E_15.out hg)
            have R_16 := Lib.hid (hr)
            have S_16 := Lib.hid ht.size
            clear bA_15 bR_15 bQ_15 E_15 R_15 hg hr ht q0_ q1_ q2_ q3_ q4_ q5_ q6_ q7_ q8_ q9_ q10_ q11_ q12_ q13_
            have hq6 := bQ_16.out
            obtain ⟨v0', v1', v2', v3', v4', v5', w0', w1', w2', w3', w4', w5'⟩ := hq6
            have q0_ := S_0.out
            have q1_ := S_1.out
            have q2_ := S_2.out
            have q3_ := S_3.out
            have q4_ := S_4.out
            have q5_ := S_5.out
            have q6_ := S_6.out
            have q7_ := S_7b.out
            have q8_ := S_8.out
            have q9_ := S_9.out
            have q10_ := S_11.out
            have q11_ := S_12.out
            have q12_ := S_13.out
            have q13_ := S_15.out
            have q14_ := S_16.out
            obtain ⟨X18, hX18⟩ : ∃ X, w17.setCell ⟨w5.heap.size, 5, none⟩ (.string (mkB u)) = X := ⟨_, rfl⟩
            have ht : Btn (w5.heap.size) (w5.heap.size + 1) w17 X18 := by rw [← hX18]; exact btn_set _ _ _ _
            have hB := bQ_16.out.set5 u
            rw [hX18] at hB
            have hE := grown_new E_16.out (show w.heap.size ≤ w5.heap.size by omega) (o := 5) (v := .string (mkB u))
            have hRd := R_16.out.set (show rb < w5.heap.size by omega) (o := 5) (u := .string (mkB u))
            rw [hX18] at hE hRd
            have bA_17 := Lib.hid (bA_16.out.btn ht (by omega))
            have bR_17 := Lib.hid (bR_16.out.btn ht (by omega))
            have E_17 := Lib.hid (hE)
            have R_17 := Lib.hid (hRd)
            have S_17 := Lib.hid ht.size
            clear bA_16 bR_16 E_16 R_16 ht hE hRd bQ_16 q0_ q1_ q2_ q3_ q4_ q5_ q6_ q7_ q8_ q9_ q10_ q11_ q12_ q13_ q14_
            have bQ_18 := Lib.hid hB
            clear hB
            have q0_ := S_0.out
            have q1_ := S_1.out
            have q2_ := S_2.out
            have q3_ := S_3.out
            have q4_ := S_4.out
            have q5_ := S_5.out
            have q6_ := S_6.out
            have q7_ := S_7b.out
            have q8_ := S_8.out
            have q9_ := S_9.out
            have q10_ := S_11.out
            have q11_ := S_12.out
            have q12_ := S_13.out
            have q13_ := S_15.out
            have q14_ := S_16.out
            have q15_ := S_17.out
            obtain ⟨Q, HQ, hdq⟩ : ∃ Q : ReqT, Box6W X18 (w5.heap.size) Q ∧ Q.data.length ≤ 49 := ⟨_, bQ_18.out, by first | exact hdt | exact hdu⟩
            obtain ⟨x0, x1, x2, x3, x4, x5, -, -, -, -, -, -⟩ := HQ
            obtain ⟨s0, s1, s2, s3, s4, s5, f0, f1, f2, f3, f4, f5⟩ := bR_17.out
            have hz : Box6W ((((((X18.setCell ⟨w.heap.size + 1, 0, none⟩ (.int .i64 Q.who)).setCell ⟨w.heap.size + 1, 1, none⟩ (.int .i64 Q.ep)).setCell ⟨w.heap.size + 1, 2, none⟩ (.int .i64 Q.num)).setCell ⟨w.heap.size + 1, 3, none⟩ (.int .i64 Q.obj)).setCell ⟨w.heap.size + 1, 4, none⟩ (.int .i64 Q.pos)).setCell ⟨w.heap.size + 1, 5, none⟩ (.string (mkB Q.data))) (w.heap.size + 1) Q := by
              have h := (((((bR_17.out.set0 Q.who).set1 Q.ep).set2 Q.num).set3 Q.obj).set4 Q.pos).set5 Q.data
              exact h
            have hE := grown_new (grown_new (grown_new (grown_new (grown_new (grown_new E_17.out (show w.heap.size ≤ w.heap.size + 1 by omega) (o := 0) (v := .int .i64 Q.who)) (show w.heap.size ≤ w.heap.size + 1 by omega) (o := 1) (v := .int .i64 Q.ep)) (show w.heap.size ≤ w.heap.size + 1 by omega) (o := 2) (v := .int .i64 Q.num)) (show w.heap.size ≤ w.heap.size + 1 by omega) (o := 3) (v := .int .i64 Q.obj)) (show w.heap.size ≤ w.heap.size + 1 by omega) (o := 4) (v := .int .i64 Q.pos)) (show w.heap.size ≤ w.heap.size + 1 by omega) (o := 5) (v := .string (mkB Q.data))
            have hRd := (((((R_17.out.set (show rb < w.heap.size + 1 by omega) (o := 0) (u := .int .i64 Q.who)).set (show rb < w.heap.size + 1 by omega) (o := 1) (u := .int .i64 Q.ep)).set (show rb < w.heap.size + 1 by omega) (o := 2) (u := .int .i64 Q.num)).set (show rb < w.heap.size + 1 by omega) (o := 3) (u := .int .i64 Q.obj)).set (show rb < w.heap.size + 1 by omega) (o := 4) (u := .int .i64 Q.pos)).set (show rb < w.heap.size + 1 by omega) (o := 5) (u := .string (mkB Q.data))
            obtain ⟨Z, hZ⟩ : ∃ X, ((((((X18.setCell ⟨w.heap.size + 1, 0, none⟩ (.int .i64 Q.who)).setCell ⟨w.heap.size + 1, 1, none⟩ (.int .i64 Q.ep)).setCell ⟨w.heap.size + 1, 2, none⟩ (.int .i64 Q.num)).setCell ⟨w.heap.size + 1, 3, none⟩ (.int .i64 Q.obj)).setCell ⟨w.heap.size + 1, 4, none⟩ (.int .i64 Q.pos)).setCell ⟨w.heap.size + 1, 5, none⟩ (.string (mkB Q.data))) = X := ⟨_, rfl⟩
            rw [hZ] at hz hE hRd
            have HE := Lib.hid hE
            have HRd := Lib.hid hRd
            have hpf : p5 ≤ p + 20 := by omega
            have HPF := Lib.hid hpf
            have HDQ := Lib.hid hdq
            clear hE hRd hpf hdq q0_ q1_ q2_ q3_ q4_ q5_ q6_ q7_ q8_ q9_ q10_ q11_ q12_ q13_ q14_ q15_
            go_wp2
            obtain ⟨t0, t1, t2, t3, t4, t5, -, -, -, -, -, -⟩ := hz
            exact bodyPost_ret (v := .agg (rqA Q)) (by simp [results, Tryd.results41, go_sem, t0, t1, t2, t3, t4, t5, rqA]) rfl ⟨Q, _, rfl, HDQ.out, HRd.out, HPF.out, HE.out⟩
          · have d3 : (cc == 3) = false := by simpa using e3
            by_cases e4 : cc = 4
            · subst e4
              go_wp2_with fail
              refine (numLA_any rb (p2 + 1 + 1 + 1) [0, -1, 1001] 3 (fun _ => True) w10 w10.heap.size _ _ rfl rfl rfl R_15.out (by omega) (by omega) (by omega) (by simp)).mono ?_; rintro e w19 ⟨u, p5, rfl, -, hr, hp5, hg⟩
              have q0_ := S_0.out
              have q1_ := S_1.out
              have q2_ := S_2.out
              have q3_ := S_3.out
              have q4_ := S_4.out
              have q5_ := S_5.out
              have q6_ := S_6.out
              have q7_ := S_7b.out
              have q8_ := S_8.out
              have q9_ := S_9.out
              have q10_ := S_11.out
              have q11_ := S_12.out
              have q12_ := S_13.out
              have q13_ := S_15.out
              have ht := grown_btn hg
              have bA_16 := Lib.hid (bA_15.out.btn ht (by omega))
              have bR_16 := Lib.hid (bR_15.out.btn ht (by omega))
              have bQ_16 := Lib.hid (bQ_15.out.btn ht (by omega))
              have E_16 := Lib.hid (grown_trans E_15.out hg)
              have R_16 := Lib.hid (hr)
              have S_16 := Lib.hid ht.size
              clear bA_15 bR_15 bQ_15 E_15 R_15 hg hr ht q0_ q1_ q2_ q3_ q4_ q5_ q6_ q7_ q8_ q9_ q10_ q11_ q12_ q13_
              have hq6 := bQ_16.out
              obtain ⟨v0', v1', v2', v3', v4', v5', w0', w1', w2', w3', w4', w5'⟩ := hq6
              have q0_ := S_0.out
              have q1_ := S_1.out
              have q2_ := S_2.out
              have q3_ := S_3.out
              have q4_ := S_4.out
              have q5_ := S_5.out
              have q6_ := S_6.out
              have q7_ := S_7b.out
              have q8_ := S_8.out
              have q9_ := S_9.out
              have q10_ := S_11.out
              have q11_ := S_12.out
              have q12_ := S_13.out
              have q13_ := S_15.out
              have q14_ := S_16.out
              obtain ⟨X20, hX20⟩ : ∃ X, w19.setCell ⟨w5.heap.size, 2, none⟩ (.int .i64 u) = X := ⟨_, rfl⟩
              have ht : Btn (w5.heap.size) (w5.heap.size + 1) w19 X20 := by rw [← hX20]; exact btn_set _ _ _ _
              have hB := bQ_16.out.set2 u
              rw [hX20] at hB
              have hE := grown_new E_16.out (show w.heap.size ≤ w5.heap.size by omega) (o := 2) (v := .int .i64 u)
              have hRd := R_16.out.set (show rb < w5.heap.size by omega) (o := 2) (u := .int .i64 u)
              rw [hX20] at hE hRd
              have bA_17 := Lib.hid (bA_16.out.btn ht (by omega))
              have bR_17 := Lib.hid (bR_16.out.btn ht (by omega))
              have E_17 := Lib.hid (hE)
              have R_17 := Lib.hid (hRd)
              have S_17 := Lib.hid ht.size
              clear bA_16 bR_16 E_16 R_16 ht hE hRd bQ_16 q0_ q1_ q2_ q3_ q4_ q5_ q6_ q7_ q8_ q9_ q10_ q11_ q12_ q13_ q14_
              have bQ_18 := Lib.hid hB
              clear hB
              have q0_ := S_0.out
              have q1_ := S_1.out
              have q2_ := S_2.out
              have q3_ := S_3.out
              have q4_ := S_4.out
              have q5_ := S_5.out
              have q6_ := S_6.out
              have q7_ := S_7b.out
              have q8_ := S_8.out
              have q9_ := S_9.out
              have q10_ := S_11.out
              have q11_ := S_12.out
              have q12_ := S_13.out
              have q13_ := S_15.out
              have q14_ := S_16.out
              have q15_ := S_17.out
              obtain ⟨Q, HQ, hdq⟩ : ∃ Q : ReqT, Box6W X20 (w5.heap.size) Q ∧ Q.data.length ≤ 49 := ⟨_, bQ_18.out, by first | exact hdt | exact hdu⟩
              obtain ⟨x0, x1, x2, x3, x4, x5, -, -, -, -, -, -⟩ := HQ
              obtain ⟨s0, s1, s2, s3, s4, s5, f0, f1, f2, f3, f4, f5⟩ := bR_17.out
              have hz : Box6W ((((((X20.setCell ⟨w.heap.size + 1, 0, none⟩ (.int .i64 Q.who)).setCell ⟨w.heap.size + 1, 1, none⟩ (.int .i64 Q.ep)).setCell ⟨w.heap.size + 1, 2, none⟩ (.int .i64 Q.num)).setCell ⟨w.heap.size + 1, 3, none⟩ (.int .i64 Q.obj)).setCell ⟨w.heap.size + 1, 4, none⟩ (.int .i64 Q.pos)).setCell ⟨w.heap.size + 1, 5, none⟩ (.string (mkB Q.data))) (w.heap.size + 1) Q := by
                have h := (((((bR_17.out.set0 Q.who).set1 Q.ep).set2 Q.num).set3 Q.obj).set4 Q.pos).set5 Q.data
                exact h
              have hE := grown_new (grown_new (grown_new (grown_new (grown_new (grown_new E_17.out (show w.heap.size ≤ w.heap.size + 1 by omega) (o := 0) (v := .int .i64 Q.who)) (show w.heap.size ≤ w.heap.size + 1 by omega) (o := 1) (v := .int .i64 Q.ep)) (show w.heap.size ≤ w.heap.size + 1 by omega) (o := 2) (v := .int .i64 Q.num)) (show w.heap.size ≤ w.heap.size + 1 by omega) (o := 3) (v := .int .i64 Q.obj)) (show w.heap.size ≤ w.heap.size + 1 by omega) (o := 4) (v := .int .i64 Q.pos)) (show w.heap.size ≤ w.heap.size + 1 by omega) (o := 5) (v := .string (mkB Q.data))
              have hRd := (((((R_17.out.set (show rb < w.heap.size + 1 by omega) (o := 0) (u := .int .i64 Q.who)).set (show rb < w.heap.size + 1 by omega) (o := 1) (u := .int .i64 Q.ep)).set (show rb < w.heap.size + 1 by omega) (o := 2) (u := .int .i64 Q.num)).set (show rb < w.heap.size + 1 by omega) (o := 3) (u := .int .i64 Q.obj)).set (show rb < w.heap.size + 1 by omega) (o := 4) (u := .int .i64 Q.pos)).set (show rb < w.heap.size + 1 by omega) (o := 5) (u := .string (mkB Q.data))
              obtain ⟨Z, hZ⟩ : ∃ X, ((((((X20.setCell ⟨w.heap.size + 1, 0, none⟩ (.int .i64 Q.who)).setCell ⟨w.heap.size + 1, 1, none⟩ (.int .i64 Q.ep)).setCell ⟨w.heap.size + 1, 2, none⟩ (.int .i64 Q.num)).setCell ⟨w.heap.size + 1, 3, none⟩ (.int .i64 Q.obj)).setCell ⟨w.heap.size + 1, 4, none⟩ (.int .i64 Q.pos)).setCell ⟨w.heap.size + 1, 5, none⟩ (.string (mkB Q.data))) = X := ⟨_, rfl⟩
              rw [hZ] at hz hE hRd
              have HE := Lib.hid hE
              have HRd := Lib.hid hRd
              have hpf : p5 ≤ p + 20 := by omega
              have HPF := Lib.hid hpf
              have HDQ := Lib.hid hdq
              clear hE hRd hpf hdq q0_ q1_ q2_ q3_ q4_ q5_ q6_ q7_ q8_ q9_ q10_ q11_ q12_ q13_ q14_ q15_
              go_wp2
              obtain ⟨t0, t1, t2, t3, t4, t5, -, -, -, -, -, -⟩ := hz
              exact bodyPost_ret (v := .agg (rqA Q)) (by simp [results, Tryd.results41, go_sem, t0, t1, t2, t3, t4, t5, rqA]) rfl ⟨Q, _, rfl, HDQ.out, HRd.out, HPF.out, HE.out⟩
            · have d4 : (cc == 4) = false := by simpa using e4
              by_cases e5 : cc = 5
              · subst e5
                go_wp2_with fail
                refine (numLA_any rb (p2 + 1 + 1 + 1) [-1, 101] 2 (fun _ => True) w10 w10.heap.size _ _ rfl rfl rfl R_15.out (by omega) (by omega) (by omega) (by simp)).mono ?_; rintro e w21 ⟨u, p5, rfl, -, hr, hp5, hg⟩
                have q0_ := S_0.out
                have q1_ := S_1.out
                have q2_ := S_2.out
                have q3_ := S_3.out
                have q4_ := S_4.out
                have q5_ := S_5.out
                have q6_ := S_6.out
                have q7_ := S_7b.out
                have q8_ := S_8.out
                have q9_ := S_9.out
                have q10_ := S_11.out
                have q11_ := S_12.out
                have q12_ := S_13.out
                have q13_ := S_15.out
                have ht := grown_btn hg
                have bA_16 := Lib.hid (bA_15.out.btn ht (by omega))
                have bR_16 := Lib.hid (bR_15.out.btn ht (by omega))
                have bQ_16 := Lib.hid (bQ_15.out.btn ht (by omega))
                have E_16 := Lib.hid (grown_trans E_15.out hg)
                have R_16 := Lib.hid (hr)
                have S_16 := Lib.hid ht.size
                clear bA_15 bR_15 bQ_15 E_15 R_15 hg hr ht q0_ q1_ q2_ q3_ q4_ q5_ q6_ q7_ q8_ q9_ q10_ q11_ q12_ q13_
                have hq6 := bQ_16.out
                obtain ⟨v0', v1', v2', v3', v4', v5', w0', w1', w2', w3', w4', w5'⟩ := hq6
                have q0_ := S_0.out
                have q1_ := S_1.out
                have q2_ := S_2.out
                have q3_ := S_3.out
                have q4_ := S_4.out
                have q5_ := S_5.out
                have q6_ := S_6.out
                have q7_ := S_7b.out
                have q8_ := S_8.out
                have q9_ := S_9.out
                have q10_ := S_11.out
                have q11_ := S_12.out
                have q12_ := S_13.out
                have q13_ := S_15.out
                have q14_ := S_16.out
                obtain ⟨X22, hX22⟩ : ∃ X, w21.setCell ⟨w5.heap.size, 1, none⟩ (.int .i64 u) = X := ⟨_, rfl⟩
                have ht : Btn (w5.heap.size) (w5.heap.size + 1) w21 X22 := by rw [← hX22]; exact btn_set _ _ _ _
                have hB := bQ_16.out.set1 u
                rw [hX22] at hB
                have hE := grown_new E_16.out (show w.heap.size ≤ w5.heap.size by omega) (o := 1) (v := .int .i64 u)
                have hRd := R_16.out.set (show rb < w5.heap.size by omega) (o := 1) (u := .int .i64 u)
                rw [hX22] at hE hRd
                have bA_17 := Lib.hid (bA_16.out.btn ht (by omega))
                have bR_17 := Lib.hid (bR_16.out.btn ht (by omega))
                have E_17 := Lib.hid (hE)
                have R_17 := Lib.hid (hRd)
                have S_17 := Lib.hid ht.size
                clear bA_16 bR_16 E_16 R_16 ht hE hRd bQ_16 q0_ q1_ q2_ q3_ q4_ q5_ q6_ q7_ q8_ q9_ q10_ q11_ q12_ q13_ q14_
                have bQ_18 := Lib.hid hB
                clear hB
                have q0_ := S_0.out
                have q1_ := S_1.out
                have q2_ := S_2.out
                have q3_ := S_3.out
                have q4_ := S_4.out
                have q5_ := S_5.out
                have q6_ := S_6.out
                have q7_ := S_7b.out
                have q8_ := S_8.out
                have q9_ := S_9.out
                have q10_ := S_11.out
                have q11_ := S_12.out
                have q12_ := S_13.out
                have q13_ := S_15.out
                have q14_ := S_16.out
                have q15_ := S_17.out
                obtain ⟨Q, HQ, hdq⟩ : ∃ Q : ReqT, Box6W X22 (w5.heap.size) Q ∧ Q.data.length ≤ 49 := ⟨_, bQ_18.out, by first | exact hdt | exact hdu⟩
                obtain ⟨x0, x1, x2, x3, x4, x5, -, -, -, -, -, -⟩ := HQ
                obtain ⟨s0, s1, s2, s3, s4, s5, f0, f1, f2, f3, f4, f5⟩ := bR_17.out
                have hz : Box6W ((((((X22.setCell ⟨w.heap.size + 1, 0, none⟩ (.int .i64 Q.who)).setCell ⟨w.heap.size + 1, 1, none⟩ (.int .i64 Q.ep)).setCell ⟨w.heap.size + 1, 2, none⟩ (.int .i64 Q.num)).setCell ⟨w.heap.size + 1, 3, none⟩ (.int .i64 Q.obj)).setCell ⟨w.heap.size + 1, 4, none⟩ (.int .i64 Q.pos)).setCell ⟨w.heap.size + 1, 5, none⟩ (.string (mkB Q.data))) (w.heap.size + 1) Q := by
                  have h := (((((bR_17.out.set0 Q.who).set1 Q.ep).set2 Q.num).set3 Q.obj).set4 Q.pos).set5 Q.data
                  exact h
                have hE := grown_new (grown_new (grown_new (grown_new (grown_new (grown_new E_17.out (show w.heap.size ≤ w.heap.size + 1 by omega) (o := 0) (v := .int .i64 Q.who)) (show w.heap.size ≤ w.heap.size + 1 by omega) (o := 1) (v := .int .i64 Q.ep)) (show w.heap.size ≤ w.heap.size + 1 by omega) (o := 2) (v := .int .i64 Q.num)) (show w.heap.size ≤ w.heap.size + 1 by omega) (o := 3) (v := .int .i64 Q.obj)) (show w.heap.size ≤ w.heap.size + 1 by omega) (o := 4) (v := .int .i64 Q.pos)) (show w.heap.size ≤ w.heap.size + 1 by omega) (o := 5) (v := .string (mkB Q.data))
                have hRd := (((((R_17.out.set (show rb < w.heap.size + 1 by omega) (o := 0) (u := .int .i64 Q.who)).set (show rb < w.heap.size + 1 by omega) (o := 1) (u := .int .i64 Q.ep)).set (show rb < w.heap.size + 1 by omega) (o := 2) (u := .int .i64 Q.num)).set (show rb < w.heap.size + 1 by omega) (o := 3) (u := .int .i64 Q.obj)).set (show rb < w.heap.size + 1 by omega) (o := 4) (u := .int .i64 Q.pos)).set (show rb < w.heap.size + 1 by omega) (o := 5) (u := .string (mkB Q.data))
                obtain ⟨Z, hZ⟩ : ∃ X, ((((((X22.setCell ⟨w.heap.size + 1, 0, none⟩ (.int .i64 Q.who)).setCell ⟨w.heap.size + 1, 1, none⟩ (.int .i64 Q.ep)).setCell ⟨w.heap.size + 1, 2, none⟩ (.int .i64 Q.num)).setCell ⟨w.heap.size + 1, 3, none⟩ (.int .i64 Q.obj)).setCell ⟨w.heap.size + 1, 4, none⟩ (.int .i64 Q.pos)).setCell ⟨w.heap.size + 1, 5, none⟩ (.string (mkB Q.data))) = X := ⟨_, rfl⟩
                rw [hZ] at hz hE hRd
                have HE := Lib.hid hE
                have HRd := Lib.hid hRd
                have hpf : p5 ≤ p + 20 := by omega
                have HPF := Lib.hid hpf
                have HDQ := Lib.hid hdq
                clear hE hRd hpf hdq q0_ q1_ q2_ q3_ q4_ q5_ q6_ q7_ q8_ q9_ q10_ q11_ q12_ q13_ q14_ q15_
                go_wp2
                obtain ⟨t0, t1, t2, t3, t4, t5, -, -, -, -, -, -⟩ := hz
                exact bodyPost_ret (v := .agg (rqA Q)) (by simp [results, Tryd.results41, go_sem, t0, t1, t2, t3, t4, t5, rqA]) rfl ⟨Q, _, rfl, HDQ.out, HRd.out, HPF.out, HE.out⟩
              · have d5 : (cc == 5) = false := by simpa using e5
                have q0_ := S_0.out
                have q1_ := S_1.out
                have q2_ := S_2.out
                have q3_ := S_3.out
                have q4_ := S_4.out
                have q5_ := S_5.out
                have q6_ := S_6.out
                have q7_ := S_7b.out
                have q8_ := S_8.out
                have q9_ := S_9.out
                have q10_ := S_11.out
                have q11_ := S_12.out
                have q12_ := S_13.out
                have q13_ := S_15.out
                obtain ⟨Q, HQ, hdq⟩ : ∃ Q : ReqT, Box6W w10 (w5.heap.size) Q ∧ Q.data.length ≤ 49 := ⟨_, bQ_15.out, by first | exact hdt | exact hdu⟩
                obtain ⟨x0, x1, x2, x3, x4, x5, -, -, -, -, -, -⟩ := HQ
                obtain ⟨s0, s1, s2, s3, s4, s5, f0, f1, f2, f3, f4, f5⟩ := bR_15.out
                have hz : Box6W ((((((w10.setCell ⟨w.heap.size + 1, 0, none⟩ (.int .i64 Q.who)).setCell ⟨w.heap.size + 1, 1, none⟩ (.int .i64 Q.ep)).setCell ⟨w.heap.size + 1, 2, none⟩ (.int .i64 Q.num)).setCell ⟨w.heap.size + 1, 3, none⟩ (.int .i64 Q.obj)).setCell ⟨w.heap.size + 1, 4, none⟩ (.int .i64 Q.pos)).setCell ⟨w.heap.size + 1, 5, none⟩ (.string (mkB Q.data))) (w.heap.size + 1) Q := by
                  have h := (((((bR_15.out.set0 Q.who).set1 Q.ep).set2 Q.num).set3 Q.obj).set4 Q.pos).set5 Q.data
                  exact h
                have hE := grown_new (grown_new (grown_new (grown_new (grown_new (grown_new E_15.out (show w.heap.size ≤ w.heap.size + 1 by omega) (o := 0) (v := .int .i64 Q.who)) (show w.heap.size ≤ w.heap.size + 1 by omega) (o := 1) (v := .int .i64 Q.ep)) (show w.heap.size ≤ w.heap.size + 1 by omega) (o := 2) (v := .int .i64 Q.num)) (show w.heap.size ≤ w.heap.size + 1 by omega) (o := 3) (v := .int .i64 Q.obj)) (show w.heap.size ≤ w.heap.size + 1 by omega) (o := 4) (v := .int .i64 Q.pos)) (show w.heap.size ≤ w.heap.size + 1 by omega) (o := 5) (v := .string (mkB Q.data))
                have hRd := (((((R_15.out.set (show rb < w.heap.size + 1 by omega) (o := 0) (u := .int .i64 Q.who)).set (show rb < w.heap.size + 1 by omega) (o := 1) (u := .int .i64 Q.ep)).set (show rb < w.heap.size + 1 by omega) (o := 2) (u := .int .i64 Q.num)).set (show rb < w.heap.size + 1 by omega) (o := 3) (u := .int .i64 Q.obj)).set (show rb < w.heap.size + 1 by omega) (o := 4) (u := .int .i64 Q.pos)).set (show rb < w.heap.size + 1 by omega) (o := 5) (u := .string (mkB Q.data))
                obtain ⟨Z, hZ⟩ : ∃ X, ((((((w10.setCell ⟨w.heap.size + 1, 0, none⟩ (.int .i64 Q.who)).setCell ⟨w.heap.size + 1, 1, none⟩ (.int .i64 Q.ep)).setCell ⟨w.heap.size + 1, 2, none⟩ (.int .i64 Q.num)).setCell ⟨w.heap.size + 1, 3, none⟩ (.int .i64 Q.obj)).setCell ⟨w.heap.size + 1, 4, none⟩ (.int .i64 Q.pos)).setCell ⟨w.heap.size + 1, 5, none⟩ (.string (mkB Q.data))) = X := ⟨_, rfl⟩
                rw [hZ] at hz hE hRd
                have HE := Lib.hid hE
                have HRd := Lib.hid hRd
                have hpf : p2 + 1 + 1 + 1 ≤ p + 20 := by omega
                have HPF := Lib.hid hpf
                have HDQ := Lib.hid hdq
                clear hE hRd hpf hdq q0_ q1_ q2_ q3_ q4_ q5_ q6_ q7_ q8_ q9_ q10_ q11_ q12_ q13_
                go_wp2
                obtain ⟨t0, t1, t2, t3, t4, t5, -, -, -, -, -, -⟩ := hz
                exact bodyPost_ret (v := .agg (rqA Q)) (by simp [results, Tryd.results41, go_sem, t0, t1, t2, t3, t4, t5, rqA]) rfl ⟨Q, _, rfl, HDQ.out, HRd.out, HPF.out, HE.out⟩
  · have df : decide (0 < fl) = false := by simpa using ef
    go_wp2_with fail
    refine (pick_any rb (p2 + 1) 50 _ R_11.out (by omega) (by omega) (by omega)).mono ?_; rintro e w23 ⟨cc, rfl, cc0, cc1, hr, hg⟩
    have q0_ := S_0.out
    have q1_ := S_1.out
    have q2_ := S_2.out
    have q3_ := S_3.out
    have q4_ := S_4.out
    have q5_ := S_5.out
    have q6_ := S_6.out
    have q7_ := S_7b.out
    have q8_ := S_8.out
    have q9_ := S_9.out
    have q10_ := S_11.out
    have ht := grown_btn hg
    have bA_12 := Lib.hid (bA_11.out.btn ht (by omega))
    have bR_12 := Lib.hid (bR_11.out.btn ht (by omega))
    have bQ_12 := Lib.hid (bQ_11.out.btn ht (by omega))
    have E_12 := Lib.hid (grown_trans E_11.out hg)
    have R_12 := Lib.hid (hr)
    have S_12 := Lib.hid ht.size
    clear bA_11 bR_11 bQ_11 E_11 R_11 hg hr ht q0_ q1_ q2_ q3_ q4_ q5_ q6_ q7_ q8_ q9_ q10_
    replace cc1 := cc1 (by omega)
    by_cases e0 : cc = 0
    · subst e0
      go_wp2_with fail
      refine (l4WhoDraw_any rb (p2 + 1 + 1) _ R_12.out (by omega)).mono ?_; rintro e w24 ⟨u, p5, rfl, -, hr, hp5, hg⟩
      have q0_ := S_0.out
      have q1_ := S_1.out
      have q2_ := S_2.out
      have q3_ := S_3.out
      have q4_ := S_4.out
      have q5_ := S_5.out
      have q6_ := S_6.out
      have q7_ := S_7b.out
      have q8_ := S_8.out
      have q9_ := S_9.out
      have q10_ := S_11.out
      have q11_ := S_12.out
      have ht := grown_btn hg
      have bA_13 := Lib.hid (bA_12.out.btn ht (by omega))
      have bR_13 := Lib.hid (bR_12.out.btn ht (by omega))
      have bQ_13 := Lib.hid (bQ_12.out.btn ht (by omega))
      have E_13 := Lib.hid (grown_trans E_12.out hg)
      have R_13 := Lib.hid (hr)
      have S_13 := Lib.hid ht.size
      clear bA_12 bR_12 bQ_12 E_12 R_12 hg hr ht q0_ q1_ q2_ q3_ q4_ q5_ q6_ q7_ q8_ q9_ q10_ q11_
      have hq6 := bQ_13.out
      obtain ⟨v0', v1', v2', v3', v4', v5', w0', w1', w2', w3', w4', w5'⟩ := hq6
      have q0_ := S_0.out
      have q1_ := S_1.out
      have q2_ := S_2.out
      have q3_ := S_3.out
      have q4_ := S_4.out
      have q5_ := S_5.out
      have q6_ := S_6.out
      have q7_ := S_7b.out
      have q8_ := S_8.out
      have q9_ := S_9.out
      have q10_ := S_11.out
      have q11_ := S_12.out
      have q12_ := S_13.out
      obtain ⟨X25, hX25⟩ : ∃ X, w24.setCell ⟨w5.heap.size, 0, none⟩ (.int .i64 u) = X := ⟨_, rfl⟩
      have ht : Btn (w5.heap.size) (w5.heap.size + 1) w24 X25 := by rw [← hX25]; exact btn_set _ _ _ _
      have hB := bQ_13.out.set0 u
      rw [hX25] at hB
      have hE := grown_new E_13.out (show w.heap.size ≤ w5.heap.size by omega) (o := 0) (v := .int .i64 u)
      have hRd := R_13.out.set (show rb < w5.heap.size by omega) (o := 0) (u := .int .i64 u)
      rw [hX25] at hE hRd
      have bA_14 := Lib.hid (bA_13.out.btn ht (by omega))
      have bR_14 := Lib.hid (bR_13.out.btn ht (by omega))
      have E_14 := Lib.hid (hE)
      have R_14 := Lib.hid (hRd)
      have S_14 := Lib.hid ht.size
      clear bA_13 bR_13 E_13 R_13 ht hE hRd bQ_13 q0_ q1_ q2_ q3_ q4_ q5_ q6_ q7_ q8_ q9_ q10_ q11_ q12_
      have bQ_15 := Lib.hid hB
      clear hB
      have q0_ := S_0.out
      have q1_ := S_1.out
      have q2_ := S_2.out
      have q3_ := S_3.out
      have q4_ := S_4.out
      have q5_ := S_5.out
      have q6_ := S_6.out
      have q7_ := S_7b.out
      have q8_ := S_8.out
      have q9_ := S_9.out
      have q10_ := S_11.out
      have q11_ := S_12.out
      have q12_ := S_13.out
      have q13_ := S_14.out
      obtain ⟨Q, HQ, hdq⟩ : ∃ Q : ReqT, Box6W X25 (w5.heap.size) Q ∧ Q.data.length ≤ 49 := ⟨_, bQ_15.out, by first | exact hdt | exact hdu⟩
      obtain ⟨x0, x1, x2, x3, x4, x5, -, -, -, -, -, -⟩ := HQ
      obtain ⟨s0, s1, s2, s3, s4, s5, f0, f1, f2, f3, f4, f5⟩ := bR_14.out
      have hz : Box6W ((((((X25.setCell ⟨w.heap.size + 1, 0, none⟩ (.int .i64 Q.who)).setCell ⟨w.heap.size + 1, 1, none⟩ (.int .i64 Q.ep)).setCell ⟨w.heap.size + 1, 2, none⟩ (.int .i64 Q.num)).setCell ⟨w.heap.size + 1, 3, none⟩ (.int .i64 Q.obj)).setCell ⟨w.heap.size + 1, 4, none⟩ (.int .i64 Q.pos)).setCell ⟨w.heap.size + 1, 5, none⟩ (.string (mkB Q.data))) (w.heap.size + 1) Q := by
        have h := (((((bR_14.out.set0 Q.who).set1 Q.ep).set2 Q.num).set3 Q.obj).set4 Q.pos).set5 Q.data
        exact h
      have hE := grown_new (grown_new (grown_new (grown_new (grown_new (grown_new E_14.out (show w.heap.size ≤ w.heap.size + 1 by omega) (o := 0) (v := .int .i64 Q.who)) (show w.heap.size ≤ w.heap.size + 1 by omega) (o := 1) (v := .int .i64 Q.ep)) (show w.heap.size ≤ w.heap.size + 1 by omega) (o := 2) (v := .int .i64 Q.num)) (show w.heap.size ≤ w.heap.size + 1 by omega) (o := 3) (v := .int .i64 Q.obj)) (show w.heap.size ≤ w.heap.size + 1 by omega) (o := 4) (v := .int .i64 Q.pos)) (show w.heap.size ≤ w.heap.size + 1 by omega) (o := 5) (v := .string (mkB Q.data))
      have hRd := (((((R_14.out.set (show rb < w.heap.size + 1 by omega) (o := 0) (u := .int .i64 Q.who)).set (show rb < w.heap.size + 1 by omega) (o := 1) (u := .int .i64 Q.ep)).set (show rb < w.heap.size + 1 by omega) (o := 2) (u := .int .i64 Q.num)).set (show rb < w.heap.size + 1 by omega) (o := 3) (u := .int .i64 Q.obj)).set (show rb < w.heap.size + 1 by omega) (o := 4) (u := .int .i64 Q.pos)).set (show rb < w.heap.size + 1 by omega) (o := 5) (u := .string (mkB Q.data))
      obtain ⟨Z, hZ⟩ : ∃ X, ((((((X25.setCell ⟨w.heap.size + 1, 0, none⟩ (.int .i64 Q.who)).setCell ⟨w.heap.size + 1, 1, none⟩ (.int .i64 Q.ep)).setCell ⟨w.heap.size + 1, 2, none⟩ (.int .i64 Q.num)).setCell ⟨w.heap.size + 1, 3, none⟩ (.int .i64 Q.obj)).setCell ⟨w.heap.size + 1, 4, none⟩ (.int .i64 Q.pos)).setCell ⟨w.heap.size + 1, 5, none⟩ (.string (mkB Q.data))) = X := ⟨_, rfl⟩
      rw [hZ] at hz hE hRd
      have HE := Lib.hid hE
      have HRd := Lib.hid hRd
      have hpf : p5 ≤ p + 20 := by omega
      have HPF := Lib.hid hpf
      have HDQ := Lib.hid hdq
      clear hE hRd hpf hdq q0_ q1_ q2_ q3_ q4_ q5_ q6_ q7_ q8_ q9_ q10_ q11_ q12_ q13_
      go_wp2
      obtain ⟨t0, t1, t2, t3, t4, t5, -, -, -, -, -, -⟩ := hz
      exact bodyPost_ret (v := .agg (rqA Q)) (by simp [results, Tryd.results41, go_sem, t0, t1, t2, t3, t4, t5, rqA]) rfl ⟨Q, _, rfl, HDQ.out, HRd.out, HPF.out, HE.out⟩
    · have d0 : (cc == 0) = false := by simpa using e0
      by_cases e1 : cc = 1
      · subst e1
        go_wp2_with fail
        refine (numLA_any rb (p2 + 1 + 1) [-1, 3] 2 (fun _ => True) w23 w23.heap.size _ _ rfl rfl rfl R_12.out (by omega) (by omega) (by omega) (by simp)).mono ?_; rintro e w26 ⟨u, p5, rfl, -, hr, hp5, hg⟩
        have q0_ := S_0.out
        have q1_ := S_1.out
        have q2_ := S_2.out
        have q3_ := S_3.out
        have q4_ := S_4.out
        have q5_ := S_5.out
        have q6_ := S_6.out
        have q7_ := S_7b.out
        have q8_ := S_8.out
        have q9_ := S_9.out
        have q10_ := S_11.out
        have q11_ := S_12.out
        have ht := grown_btn hg
        have bA_13 := Lib.hid (bA_12.out.btn ht (by omega))
        have bR_13 := Lib.hid (bR_12.out.btn ht (by omega))
        have bQ_13 := Lib.hid (bQ_12.out.btn ht (by omega))
        have E_13 := Lib.hid (grown_trans E_12.out hg)
        have R_13 := Lib.hid (hr)
        have S_13 := Lib.hid ht.size
        clear bA_12 bR_12 bQ_12 E_12 R_12 hg hr ht q0_ q1_ q2_ q3_ q4_ q5_ q6_ q7_ q8_ q9_ q10_ q11_
        have hq6 := bQ_13.out
        obtain ⟨v0', v1', v2', v3', v4', v5', w0', w1', w2', w3', w4', w5'⟩ := hq6
        have q0_ := S_0.out
        have q1_ := S_1.out
        have q2_ := S_2.out
        have q3_ := S_3.out
        have q4_ := S_4.out
        have q5_ := S_5.out
        have q6_ := S_6.out
        have q7_ := S_7b.out
        have q8_ := S_8.out
        have q9_ := S_9.out
        have q10_ := S_11.out
        have q11_ := S_12.out
        have q12_ := S_13.out
        obtain ⟨X27, hX27⟩ : ∃ X, w26.setCell ⟨w5.heap.size, 3, none⟩ (.int .i64 u) = X := ⟨_, rfl⟩
        have ht : Btn (w5.heap.size) (w5.heap.size + 1) w26 X27 := by rw [← hX27]; exact btn_set _ _ _ _
        have hB := bQ_13.out.set3 u
        rw [hX27] at hB
        have hE := grown_new E_13.out (show w.heap.size ≤ w5.heap.size by omega) (o := 3) (v := .int .i64 u)
        have hRd := R_13.out.set (show rb < w5.heap.size by omega) (o := 3) (u := .int .i64 u)
        rw [hX27] at hE hRd
        have bA_14 := Lib.hid (bA_13.out.btn ht (by omega))
        have bR_14 := Lib.hid (bR_13.out.btn ht (by omega))
        have E_14 := Lib.hid (hE)
        have R_14 := Lib.hid (hRd)
        have S_14 := Lib.hid ht.size
        clear bA_13 bR_13 E_13 R_13 ht hE hRd bQ_13 q0_ q1_ q2_ q3_ q4_ q5_ q6_ q7_ q8_ q9_ q10_ q11_ q12_
        have bQ_15 := Lib.hid hB
        clear hB
        have q0_ := S_0.out
        have q1_ := S_1.out
        have q2_ := S_2.out
        have q3_ := S_3.out
        have q4_ := S_4.out
        have q5_ := S_5.out
        have q6_ := S_6.out
        have q7_ := S_7b.out
        have q8_ := S_8.out
        have q9_ := S_9.out
        have q10_ := S_11.out
        have q11_ := S_12.out
        have q12_ := S_13.out
        have q13_ := S_14.out
        obtain ⟨Q, HQ, hdq⟩ : ∃ Q : ReqT, Box6W X27 (w5.heap.size) Q ∧ Q.data.length ≤ 49 := ⟨_, bQ_15.out, by first | exact hdt | exact hdu⟩
        obtain ⟨x0, x1, x2, x3, x4, x5, -, -, -, -, -, -⟩ := HQ
        obtain ⟨s0, s1, s2, s3, s4, s5, f0, f1, f2, f3, f4, f5⟩ := bR_14.out
        have hz : Box6W ((((((X27.setCell ⟨w.heap.size + 1, 0, none⟩ (.int .i64 Q.who)).setCell ⟨w.heap.size + 1, 1, none⟩ (.int .i64 Q.ep)).setCell ⟨w.heap.size + 1, 2, none⟩ (.int .i64 Q.num)).setCell ⟨w.heap.size + 1, 3, none⟩ (.int .i64 Q.obj)).setCell ⟨w.heap.size + 1, 4, none⟩ (.int .i64 Q.pos)).setCell ⟨w.heap.size + 1, 5, none⟩ (.string (mkB Q.data))) (w.heap.size + 1) Q := by
          have h := (((((bR_14.out.set0 Q.who).set1 Q.ep).set2 Q.num).set3 Q.obj).set4 Q.pos).set5 Q.data
          exact h
        have hE := grown_new (grown_new (grown_new (grown_new (grown_new (grown_new E_14.out (show w.heap.size ≤ w.heap.size + 1 by omega) (o := 0) (v := .int .i64 Q.who)) (show w.heap.size ≤ w.heap.size + 1 by omega) (o := 1) (v := .int .i64 Q.ep)) (show w.heap.size ≤ w.heap.size + 1 by omega) (o := 2) (v := .int .i64 Q.num)) (show w.heap.size ≤ w.heap.size + 1 by omega) (o := 3) (v := .int .i64 Q.obj)) (show w.heap.size ≤ w.heap.size + 1 by omega) (o := 4) (v := .int .i64 Q.pos)) (show w.heap.size ≤ w.heap.size + 1 by omega) (o := 5) (v := .string (mkB Q.data))
        have hRd := (((((R_14.out.set (show rb < w.heap.size + 1 by omega) (o := 0) (u := .int .i64 Q.who)).set (show rb < w.heap.size + 1 by omega) (o := 1) (u := .int .i64 Q.ep)).set (show rb < w.heap.size + 1 by omega) (o := 2) (u := .int .i64 Q.num)).set (show rb < w.heap.size + 1 by omega) (o := 3) (u := .int .i64 Q.obj)).set (show rb < w.heap.size + 1 by omega) (o := 4) (u := .int .i64 Q.pos)).set (show rb < w.heap.size + 1 by omega) (o := 5) (u := .string (mkB Q.data))
        obtain ⟨Z, hZ⟩ : ∃ X, ((((((X27.setCell ⟨w.heap.size + 1, 0, none⟩ (.int .i64 Q.who)).setCell ⟨w.heap.size + 1, 1, none⟩ (.int .i64 Q.ep)).setCell ⟨w.heap.size + 1, 2, none⟩ (.int .i64 Q.num)).setCell ⟨w.heap.size + 1, 3, none⟩ (.int .i64 Q.obj)).setCell ⟨w.heap.size + 1, 4, none⟩ (.int .i64 Q.pos)).setCell ⟨w.heap.size + 1, 5, none⟩ (.string (mkB Q.data))) = X := ⟨_, rfl⟩
        rw [hZ] at hz hE hRd
        have HE := Lib.hid hE
        have HRd := Lib.hid hRd
        have hpf : p5 ≤ p + 20 := by omega
        have HPF := Lib.hid hpf
        have HDQ := Lib.hid hdq
        clear hE hRd hpf hdq q0_ q1_ q2_ q3_ q4_ q5_ q6_ q7_ q8_ q9_ q10_ q11_ q12_ q13_
        go_wp2
        obtain ⟨t0, t1, t2, t3, t4, t5, -, -, -, -, -, -⟩ := hz
        exact bodyPost_ret (v := .agg (rqA Q)) (by simp [results, Tryd.results41, go_sem, t0, t1, t2, t3, t4, t5, rqA]) rfl ⟨Q, _, rfl, HDQ.out, HRd.out, HPF.out, HE.out⟩
      · have d1 : (cc == 1) = false := by simpa using e1
        by_cases e2 : cc = 2
        · subst e2
          go_wp2_with fail
          refine (numLA_any rb (p2 + 1 + 1) [-1, 48, 9223372036854775807] 3 (fun _ => True) w23 w23.heap.size _ _ rfl rfl rfl R_12.out (by omega) (by omega) (by omega) (by simp)).mono ?_; rintro e w28 ⟨u, p5, rfl, -, hr, hp5, hg⟩
          have q0_ := S_0.out
          have q1_ := S_1.out
          have q2_ := S_2.out
          have q3_ := S_3.out
          have q4_ := S_4.out
          have q5_ := S_5.out
          have q6_ := S_6.out
          have q7_ := S_7b.out
          have q8_ := S_8.out
          have q9_ := S_9.out
          have q10_ := S_11.out
          have q11_ := S_12.out
          have ht := grown_btn hg
          have bA_13 := Lib.hid (bA_12.out.btn ht (by omega))
          have bR_13 := Lib.hid (bR_12.out.btn ht (by omega))
          have bQ_13 := Lib.hid (bQ_12.out.btn ht (by omega))
          have E_13 := Lib.hid (grown_trans E_12.out hg)
          have R_13 := Lib.hid (hr)
          have S_13 := Lib.hid ht.size
          clear bA_12 bR_12 bQ_12 E_12 R_12 hg hr ht q0_ q1_ q2_ q3_ q4_ q5_ q6_ q7_ q8_ q9_ q10_ q11_
          have hq6 := bQ_13.out
          obtain ⟨v0', v1', v2', v3', v4', v5', w0', w1', w2', w3', w4', w5'⟩ := hq6
          have q0_ := S_0.out
          have q1_ := S_1.out
          have q2_ := S_2.out
          have q3_ := S_3.out
          have q4_ := S_4.out
          have q5_ := S_5.out
          have q6_ := S_6.out
          have q7_ := S_7b.out
          have q8_ := S_8.out
          have q9_ := S_9.out
          have q10_ := S_11.out
          have q11_ := S_12.out
          have q12_ := S_13.out
          obtain ⟨X29, hX29⟩ : ∃ X, w28.setCell ⟨w5.heap.size, 4, none⟩ (.int .i64 u) = X := ⟨_, rfl⟩
          have ht : Btn (w5.heap.size) (w5.heap.size + 1) w28 X29 := by rw [← hX29]; exact btn_set _ _ _ _
          have hB := bQ_13.out.set4 u
          rw [hX29] at hB
          have hE := grown_new E_13.out (show w.heap.size ≤ w5.heap.size by omega) (o := 4) (v := .int .i64 u)
          have hRd := R_13.out.set (show rb < w5.heap.size by omega) (o := 4) (u := .int .i64 u)
          rw [hX29] at hE hRd
          have bA_14 := Lib.hid (bA_13.out.btn ht (by omega))
          have bR_14 := Lib.hid (bR_13.out.btn ht (by omega))
          have E_14 := Lib.hid (hE)
          have R_14 := Lib.hid (hRd)
          have S_14 := Lib.hid ht.size
          clear bA_13 bR_13 E_13 R_13 ht hE hRd bQ_13 q0_ q1_ q2_ q3_ q4_ q5_ q6_ q7_ q8_ q9_ q10_ q11_ q12_
          have bQ_15 := Lib.hid hB
          clear hB
          have q0_ := S_0.out
          have q1_ := S_1.out
          have q2_ := S_2.out
          have q3_ := S_3.out
          have q4_ := S_4.out
          have q5_ := S_5.out
          have q6_ := S_6.out
          have q7_ := S_7b.out
          have q8_ := S_8.out
          have q9_ := S_9.out
          have q10_ := S_11.out
          have q11_ := S_12.out
          have q12_ := S_13.out
          have q13_ := S_14.out
          obtain ⟨Q, HQ, hdq⟩ : ∃ Q : ReqT, Box6W X29 (w5.heap.size) Q ∧ Q.data.length ≤ 49 := ⟨_, bQ_15.out, by first | exact hdt | exact hdu⟩
          obtain ⟨x0, x1, x2, x3, x4, x5, -, -, -, -, -, -⟩ := HQ
          obtain ⟨s0, s1, s2, s3, s4, s5, f0, f1, f2, f3, f4, f5⟩ := bR_14.out
          have hz : Box6W ((((((X29.setCell ⟨w.heap.size + 1, 0, none⟩ (.int .i64 Q.who)).setCell ⟨w.heap.size + 1, 1, none⟩ (.int .i64 Q.ep)).setCell ⟨w.heap.size + 1, 2, none⟩ (.int .i64 Q.num)).setCell ⟨w.heap.size + 1, 3, none⟩ (.int .i64 Q.obj)).setCell ⟨w.heap.size + 1, 4, none⟩ (.int .i64 Q.pos)).setCell ⟨w.heap.size + 1, 5, none⟩ (.string (mkB Q.data))) (w.heap.size + 1) Q := by
            have h := (((((bR_14.out.set0 Q.who).set1 Q.ep).set2 Q.num).set3 Q.obj).set4 Q.pos).set5 Q.data
            exact h
          have hE := grown_new (grown_new (grown_new (grown_new (grown_new (grown_new E_14.out (show w.heap.size ≤ w.heap.size + 1 by omega) (o := 0) (v := .int .i64 Q.who)) (show w.heap.size ≤ w.heap.size + 1 by omega) (o := 1) (v := .int .i64 Q.ep)) (show w.heap.size ≤ w.heap.size + 1 by omega) (o := 2) (v := .int .i64 Q.num)) (show w.heap.size ≤ w.heap.size + 1 by omega) (o := 3) (v := .int .i64 Q.obj)) (show w.heap.size ≤ w.heap.size + 1 by omega) (o := 4) (v := .int .i64 Q.pos)) (show w.heap.size ≤ w.heap.size + 1 by omega) (o := 5) (v := .string (mkB Q.data))
          have hRd := (((((R_14.out.set (show rb < w.heap.size + 1 by omega) (o := 0) (u := .int .i64 Q.who)).set (show rb < w.heap.size + 1 by omega) (o := 1) (u := .int .i64 Q.ep)).set (show rb < w.heap.size + 1 by omega) (o := 2) (u := .int .i64 Q.num)).set (show rb < w.heap.size + 1 by omega) (o := 3) (u := .int .i64 Q.obj)).set (show rb < w.heap.size + 1 by omega) (o := 4) (u := .int .i64 Q.pos)).set (show rb < w.heap.size + 1 by omega) (o := 5) (u := .string (mkB Q.data))
          obtain ⟨Z, hZ⟩ : ∃ X, ((((((X29.setCell ⟨w.heap.size + 1, 0, none⟩ (.int .i64 Q.who)).setCell ⟨w.heap.size + 1, 1, none⟩ (.int .i64 Q.ep)).setCell ⟨w.heap.size + 1, 2, none⟩ (.int .i64 Q.num)).setCell ⟨w.heap.size + 1, 3, none⟩ (.int .i64 Q.obj)).setCell ⟨w.heap.size + 1, 4, none⟩ (.int .i64 Q.pos)).setCell ⟨w.heap.size + 1, 5, none⟩ (.string (mkB Q.data))) = X := ⟨_, rfl⟩
          rw [hZ] at hz hE hRd
          have HE := Lib.hid hE
          have HRd := Lib.hid hRd
          have hpf : p5 ≤ p + 20 := by omega
          have HPF := Lib.hid hpf
          have HDQ := Lib.hid hdq
          clear hE hRd hpf hdq q0_ q1_ q2_ q3_ q4_ q5_ q6_ q7_ q8_ q9_ q10_ q11_ q12_ q13_
          go_wp2
          obtain ⟨t0, t1, t2, t3, t4, t5, -, -, -, -, -, -⟩ := hz
          exact bodyPost_ret (v := .agg (rqA Q)) (by simp [results, Tryd.results41, go_sem, t0, t1, t2, t3, t4, t5, rqA]) rfl ⟨Q, _, rfl, HDQ.out, HRd.out, HPF.out, HE.out⟩
        · have d2 : (cc == 2) = false := by simpa using e2
          by_cases e3 : cc = 3
          · subst e3
            go_wp2_with fail
            refine (ofL_any rb (p2 + 1 + 1) [[], [65], [97, 32, 98]] 3 (fun l => l.length ≤ 49) w23 _ _ rfl rfl R_12.out (by omega) (by omega) (by omega) (by simp)).mono ?_; rintro e w30 ⟨u, p5, rfl, hdu, hr, hp5, hg⟩
            have q0_ := S_0.out
            have q1_ := S_1.out
            have q2_ := S_2.out
            have q3_ := S_3.out
            have q4_ := S_4.out
            have q5_ := S_5.out
            have q6_ := S_6.out
            have q7_ := S_7b.out
            have q8_ := S_8.out
            have q9_ := S_9.out
            have q10_ := S_11.out
            have q11_ := S_12.out
            have ht := grown_btn hg
            have bA_13 := Lib.hid (bA_12.out.btn ht (by omega))
            have bR_13 := Lib.hid (bR_12.out.btn ht (by omega))
            have bQ_13 := Lib.hid (bQ_12.out.btn ht (by omega))
            have E_13 := Lib.hid (grown_trans E_12.out hg)
            have R_13 := Lib.hid (hr)
            have S_13 := Lib.hid ht.size
            clear bA_12 bR_12 bQ_12 E_12 R_12 hg hr ht q0_ q1_ q2_ q3_ q4_ q5_ q6_ q7_ q8_ q9_ q10_ q11_
            have hq6 := bQ_13.out
            obtain ⟨v0', v1', v2', v3', v4', v5', w0', w1', w2', w3', w4', w5'⟩ := hq6
            have q0_ := S_0.out
            have q1_ := S_1.out
            have q2_ := S_2.out
            have q3_ := S_3.out
            have q4_ := S_4.out
            have q5_ := S_5.out
            have q6_ := S_6.out
            have q7_ := S_7b.out
            have q8_ := S_8.out
            have q9_ := S_9.out
            have q10_ := S_11.out
            have q11_ := S_12.out
            have q12_ := S_13.out
            obtain ⟨X31, hX31⟩ : ∃ X, w30.setCell ⟨w5.heap.size, 5, none⟩ (.string (mkB u)) = X := ⟨_, rfl⟩
            have ht : Btn (w5.heap.size) (w5.heap.size + 1) w30 X31 := by rw [← hX31]; exact btn_set _ _ _ _
            have hB := bQ_13.out.set5 u
            rw [hX31] at hB
            have hE := grown_new E_13.out (show w.heap.size ≤ w5.heap.size by omega) (o := 5) (v := .string (mkB u))
            have hRd := R_13.out.set (show rb < w5.heap.size by omega) (o := 5) (u := .string (mkB u))
            rw [hX31] at hE hRd
            have bA_14 := Lib.hid (bA_13.out.btn ht (by omega))
            have bR_14 := Lib.hid (bR_13.out.btn ht (by omega))
            have E_14 := Lib.hid (hE)
            have R_14 := Lib.hid (hRd)
            have S_14 := Lib.hid ht.size
            clear bA_13 bR_13 E_13 R_13 ht hE hRd bQ_13 q0_ q1_ q2_ q3_ q4_ q5_ q6_ q7_ q8_ q9_ q10_ q11_ q12_
            have bQ_15 := Lib.hid hB
            clear hB
            have q0_ := S_0.out
            have q1_ := S_1.out
            have q2_ := S_2.out
            have q3_ := S_3.out
            have q4_ := S_4.out
            have q5_ := S_5.out
            have q6_ := S_6.out
            have q7_ := S_7b.out
            have q8_ := S_8.out
            have q9_ := S_9.out
            have q10_ := S_11.out
            have q11_ := S_12.out
            have q12_ := S_13.out
            have q13_ := S_14.out
            obtain ⟨Q, HQ, hdq⟩ : ∃ Q : ReqT, Box6W X31 (w5.heap.size) Q ∧ Q.data.length ≤ 49 := ⟨_, bQ_15.out, by first | exact hdt | exact hdu⟩
            obtain ⟨x0, x1, x2, x3, x4, x5, -, -, -, -, -, -⟩ := HQ
            obtain ⟨s0, s1, s2, s3, s4, s5, f0, f1, f2, f3, f4, f5⟩ := bR_14.out
            have hz : Box6W ((((((X31.setCell ⟨w.heap.size + 1, 0, none⟩ (.int .i64 Q.who)).setCell ⟨w.heap.size + 1, 1, none⟩ (.int .i64 Q.ep)).setCell ⟨w.heap.size + 1, 2, none⟩ (.int .i64 Q.num)).setCell ⟨w.heap.size + 1, 3, none⟩ (.int .i64 Q.obj)).setCell ⟨w.heap.size + 1, 4, none⟩ (.int .i64 Q.pos)).setCell ⟨w.heap.size + 1, 5, none⟩ (.string (mkB Q.data))) (w.heap.size + 1) Q := by
              have h := (((((bR_14.out.set0 Q.who).set1 Q.ep).set2 Q.num).set3 Q.obj).set4 Q.pos).set5 Q.data
              exact h
            have hE := grown_new (grown_new (grown_new (grown_new (grown_new (grown_new E_14.out (show w.heap.size ≤ w.heap.size + 1 by omega) (o := 0) (v := .int .i64 Q.who)) (show w.heap.size ≤ w.heap.size + 1 by omega) (o := 1) (v := .int .i64 Q.ep)) (show w.heap.size ≤ w.heap.size + 1 by omega) (o := 2) (v := .int .i64 Q.num)) (show w.heap.size ≤ w.heap.size + 1 by omega) (o := 3) (v := .int .i64 Q.obj)) (show w.heap.size ≤ w.heap.size + 1 by omega) (o := 4) (v := .int .i64 Q.pos)) (show w.heap.size ≤ w.heap.size + 1 by omega) (o := 5) (v := .string (mkB Q.data))
            have hRd := (((((R_14.out.set (show rb < w.heap.size + 1 by omega) (o := 0) (u := .int .i64 Q.who)).set (show rb < w.heap.size + 1 by omega) (o := 1) (u := .int .i64 Q.ep)).set (show rb < w.heap.size + 1 by omega) (o := 2) (u := .int .i64 Q.num)).set (show rb < w.heap.size + 1 by omega) (o := 3) (u := .int .i64 Q.obj)).set (show rb < w.heap.size + 1 by omega) (o := 4) (u := .int .i64 Q.pos)).set (show rb < w.heap.size + 1 by omega) (o := 5) (u := .string (mkB Q.data))
            obtain ⟨Z, hZ⟩ : ∃ X, ((((((X31.setCell ⟨w.heap.size + 1, 0, none⟩ (.int .i64 Q.who)).setCell ⟨w.heap.size + 1, 1, none⟩ (.int .i64 Q.ep)).setCell ⟨w.heap.size + 1, 2, none⟩ (.int .i64 Q.num)).setCell ⟨w.heap.size + 1, 3, none⟩ (.int .i64 Q.obj)).setCell ⟨w.heap.size + 1, 4, none⟩ (.int .i64 Q.pos)).setCell ⟨w.heap.size + 1, 5, none⟩ (.string (mkB Q.data))) = X := ⟨_, rfl⟩
            rw [hZ] at hz hE hRd
            have HE := Lib.hid hE
            have HRd := Lib.hid hRd
            have hpf : p5 ≤ p + 20 := by omega
            have HPF := Lib.hid hpf
            have HDQ := Lib.hid hdq
            clear hE hRd hpf hdq q0_ q1_ q2_ q3_ q4_ q5_ q6_ q7_ q8_ q9_ q10_ q11_ q12_ q13_
            go_wp2
            obtain ⟨t0, t1, t2, t3, t4, t5, -, -, -, -, -, -⟩ := hz
            exact bodyPost_ret (v := .agg (rqA Q)) (by simp [results, Tryd.results41, go_sem, t0, t1, t2, t3, t4, t5, rqA]) rfl ⟨Q, _, rfl, HDQ.out, HRd.out, HPF.out, HE.out⟩
          · have d3 : (cc == 3) = false := by simpa using e3
            by_cases e4 : cc = 4
            · subst e4
              go_wp2_with fail
              refine (numLA_any rb (p2 + 1 + 1) [0, -1, 1001] 3 (fun _ => True) w23 w23.heap.size _ _ rfl rfl rfl R_12.out (by omega) (by omega) (by omega) (by simp)).mono ?_; rintro e w32 ⟨u, p5, rfl, -, hr, hp5, hg⟩
              have q0_ := S_0.out
              have q1_ := S_1.out
              have q2_ := S_2.out
              have q3_ := S_3.out
              have q4_ := S_4.out
              have q5_ := S_5.out
              have q6_ := S_6.out
              have q7_ := S_7b.out
              have q8_ := S_8.out
              have q9_ := S_9.out
              have q10_ := S_11.out
              have q11_ := S_12.out
              have ht := grown_btn hg
              have bA_13 := Lib.hid (bA_12.out.btn ht (by omega))
              have bR_13 := Lib.hid (bR_12.out.btn ht (by omega))
              have bQ_13 := Lib.hid (bQ_12.out.btn ht (by omega))
              have E_13 := Lib.hid (grown_trans E_12.out hg)
              have R_13 := Lib.hid (hr)
              have S_13 := Lib.hid ht.size
              clear bA_12 bR_12 bQ_12 E_12 R_12 hg hr ht q0_ q1_ q2_ q3_ q4_ q5_ q6_ q7_ q8_ q9_ q10_ q11_
              have hq6 := bQ_13.out
              obtain ⟨v0', v1', v2', v3', v4', v5', w0', w1', w2', w3', w4', w5'⟩ := hq6
              have q0_ := S_0.out
              have q1_ := S_1.out
              have q2_ := S_2.out
              have q3_ := S_3.out
              have q4_ := S_4.out
              have q5_ := S_5.out
              have q6_ := S_6.out
              have q7_ := S_7b.out
              have q8_ := S_8.out
              have q9_ := S_9.out
              have q10_ := S_11.out
              have q11_ := S_12.out
              have q12_ := S_13.out
              obtain ⟨X33, hX33⟩ : ∃ X, w32.setCell ⟨w5.heap.size, 2, none⟩ (.int .i64 u) = X := ⟨_, rfl⟩
              have ht : Btn (w5.heap.size) (w5.heap.size + 1) w32 X33 := by rw [← hX33]; exact btn_set _ _ _ _
              have hB := bQ_13.out.set2 u
              rw [hX33] at hB
              have hE := grown_new E_13.out (show w.heap.size ≤ w5.heap.size by omega) (o := 2) (v := .int .i64 u)
              have hRd := R_13.out.set (show rb < w5.heap.size by omega) (o := 2) (u := .int .i64 u)
              rw [hX33] at hE hRd
              have bA_14 := Lib.hid (bA_13.out.btn ht (by omega))
              have bR_14 := Lib.hid (bR_13.out.btn ht (by omega))
              have E_14 := Lib.hid (hE)
              have R_14 := Lib.hid (hRd)
              have S_14 := Lib.hid ht.size
              clear bA_13 bR_13 E_13 R_13 ht hE hRd bQ_13 q0_ q1_ q2_ q3_ q4_ q5_ q6_ q7_ q8_ q9_ q10_ q11_ q12_
              have bQ_15 := Lib.hid hB
              clear hB
              have q0_ := S_0.out
              have q1_ := S_1.out
              have q2_ := S_2.out
              have q3_ := S_3.out
              have q4_ := S_4.out
              have q5_ := S_5.out
              have q6_ := S_6.out
              have q7_ := S_7b.out
              have q8_ := S_8.out
              have q9_ := S_9.out
              have q10_ := S_11.out
              have q11_ := S_12.out
              have q12_ := S_13.out
              have q13_ := S_14.out
              obtain ⟨Q, HQ, hdq⟩ : ∃ Q : ReqT, Box6W X33 (w5.heap.size) Q ∧ Q.data.length ≤ 49 := ⟨_, bQ_15.out, by first | exact hdt | exact hdu⟩
              obtain ⟨x0, x1, x2, x3, x4, x5, -, -, -, -, -, -⟩ := HQ
              obtain ⟨s0, s1, s2, s3, s4, s5, f0, f1, f2, f3, f4, f5⟩ := bR_14.out
              have hz : Box6W ((((((X33.setCell ⟨w.heap.size + 1, 0, none⟩ (.int .i64 Q.who)).setCell ⟨w.heap.size + 1, 1, none⟩ (.int .i64 Q.ep)).setCell ⟨w.heap.size + 1, 2, none⟩ (.int .i64 Q.num)).setCell ⟨w.heap.size + 1, 3, none⟩ (.int .i64 Q.obj)).setCell ⟨w.heap.size + 1, 4, none⟩ (.int .i64 Q.pos)).setCell ⟨w.heap.size + 1, 5, none⟩ (.string (mkB Q.data))) (w.heap.size + 1) Q := by
                have h := (((((bR_14.out.set0 Q.who).set1 Q.ep).set2 Q.num).set3 Q.obj).set4 Q.pos).set5 Q.data
                exact h
              have hE := grown_new (grown_new (grown_new (grown_new (grown_new (grown_new E_14.out (show w.heap.size ≤ w.heap.size + 1 by omega) (o := 0) (v := .int .i64 Q.who)) (show w.heap.size ≤ w.heap.size + 1 by omega) (o := 1) (v := .int .i64 Q.ep)) (show w.heap.size ≤ w.heap.size + 1 by omega) (o := 2) (v := .int .i64 Q.num)) (show w.heap.size ≤ w.heap.size + 1 by omega) (o := 3) (v := .int .i64 Q.obj)) (show w.heap.size ≤ w.heap.size + 1 by omega) (o := 4) (v := .int .i64 Q.pos)) (show w.heap.size ≤ w.heap.size + 1 by omega) (o := 5) (v := .string (mkB Q.data))
              have hRd := (((((R_14.out.set (show rb < w.heap.size + 1 by omega) (o := 0) (u := .int .i64 Q.who)).set (show rb < w.heap.size + 1 by omega) (o := 1) (u := .int .i64 Q.ep)).set (show rb < w.heap.size + 1 by omega) (o := 2) (u := .int .i64 Q.num)).set (show rb < w.heap.size + 1 by omega) (o := 3) (u := .int .i64 Q.obj)).set (show rb < w.heap.size + 1 by omega) (o := 4) (u := .int .i64 Q.pos)).set (show rb < w.heap.size + 1 by omega) (o := 5) (u := .string (mkB Q.data))
              obtain ⟨Z, hZ⟩ : ∃ X, ((((((X33.setCell ⟨w.heap.size + 1, 0, none⟩ (.int .i64 Q.who)).setCell ⟨w.heap.size + 1, 1, none⟩ (.int .i64 Q.ep)).setCell ⟨w.heap.size + 1, 2, none⟩ (.int .i64 Q.num)).setCell ⟨w.heap.size + 1, 3, none⟩ (.int .i64 Q.obj)).setCell ⟨w.heap.size + 1, 4, none⟩ (.int .i64 Q.pos)).setCell ⟨w.heap.size + 1, 5, none⟩ (.string (mkB Q.data))) = X := ⟨_, rfl⟩
              rw [hZ] at hz hE hRd
              have HE := Lib.hid hE
              have HRd := Lib.hid hRd
              have hpf : p5 ≤ p + 20 := by omega
              have HPF := Lib.hid hpf
              have HDQ := Lib.hid hdq
              clear hE hRd hpf hdq q0_ q1_ q2_ q3_ q4_ q5_ q6_ q7_ q8_ q9_ q10_ q11_ q12_ q13_
              go_wp2
              obtain ⟨t0, t1, t2, t3, t4, t5, -, -, -, -, -, -⟩ := hz
              exact bodyPost_ret (v := .agg (rqA Q)) (by simp [results, Tryd.results41, go_sem, t0, t1, t2, t3, t4, t5, rqA]) rfl ⟨Q, _, rfl, HDQ.out, HRd.out, HPF.out, HE.out⟩
            · have d4 : (cc == 4) = false := by simpa using e4
              by_cases e5 : cc = 5
              · subst e5
                go_wp2_with fail
                refine (numLA_any rb (p2 + 1 + 1) [-1, 101] 2 (fun _ => True) w23 w23.heap.size _ _ rfl rfl rfl R_12.out (by omega) (by omega) (by omega) (by simp)).mono ?_; rintro e w34 ⟨u, p5, rfl, -, hr, hp5, hg⟩
                have q0_ := S_0.out
                have q1_ := S_1.out
                have q2_ := S_2.out
                have q3_ := S_3.out
                have q4_ := S_4.out
                have q5_ := S_5.out
                have q6_ := S_6.out
                have q7_ := S_7b.out
                have q8_ := S_8.out
                have q9_ := S_9.out
                have q10_ := S_11.out
                have q11_ := S_12.out
                have ht := grown_btn hg
                have bA_13 := Lib.hid (bA_12.out.btn ht (by omega))
                have bR_13 := Lib.hid (bR_12.out.btn ht (by omega))
                have bQ_13 := Lib.hid (bQ_12.out.btn ht (by omega))
                have E_13 := Lib.hid (grown_trans E_12.out hg)
                have R_13 := Lib.hid (hr)
                have S_13 := Lib.hid ht.size
                clear bA_12 bR_12 bQ_12 E_12 R_12 hg hr ht q0_ q1_ q2_ q3_ q4_ q5_ q6_ q7_ q8_ q9_ q10_ q11_
                have hq6 := bQ_13.out
                obtain ⟨v0', v1', v2', v3', v4', v5', w0', w1', w2', w3', w4', w5'⟩ := hq6
                have q0_ := S_0.out
                have q1_ := S_1.out
                have q2_ := S_2.out
                have q3_ := S_3.out
                have q4_ := S_4.out
                have q5_ := S_5.out
                have q6_ := S_6.out
                have q7_ := S_7b.out
                have q8_ := S_8.out
                have q9_ := S_9.out
                have q10_ := S_11.out
                have q11_ := S_12.out
                have q12_ := S_13.out
                obtain ⟨X35, hX35⟩ : ∃ X, w34.setCell ⟨w5.heap.size, 1, none⟩ (.int .i64 u) = X := ⟨_, rfl⟩
                have ht : Btn (w5.heap.size) (w5.heap.size + 1) w34 X35 := by rw [← hX35]; exact btn_set _ _ _ _
                have hB := bQ_13.out.set1 u
                rw [hX35] at hB
                have hE := grown_new E_13.out (show w.heap.size ≤ w5.heap.size by omega) (o := 1) (v := .int .i64 u)
                have hRd := R_13.out.set (show rb < w5.heap.size by omega) (o := 1) (u := .int .i64 u)
                rw [hX35] at hE hRd
                have bA_14 := Lib.hid (bA_13.out.btn ht (by omega))
                have bR_14 := Lib.hid (bR_13.out.btn ht (by omega))
                have E_14 := Lib.hid (hE)
                have R_14 := Lib.hid (hRd)
                have S_14 := Lib.hid ht.size
                clear bA_13 bR_13 E_13 R_13 ht hE hRd bQ_13 q0_ q1_ q2_ q3_ q4_ q5_ q6_ q7_ q8_ q9_ q10_ q11_ q12_
                have bQ_15 := Lib.hid hB
                clear hB
                have q0_ := S_0.out
                have q1_ := S_1.out
                have q2_ := S_2.out
                have q3_ := S_3.out
                have q4_ := S_4.out
                have q5_ := S_5.out
                have q6_ := S_6.out
                have q7_ := S_7b.out
                have q8_ := S_8.out
                have q9_ := S_9.out
                have q10_ := S_11.out
                have q11_ := S_12.out
                have q12_ := S_13.out
                have q13_ := S_14.out
                obtain ⟨Q, HQ, hdq⟩ : ∃ Q : ReqT, Box6W X35 (w5.heap.size) Q ∧ Q.data.length ≤ 49 := ⟨_, bQ_15.out, by first | exact hdt | exact hdu⟩
                obtain ⟨x0, x1, x2, x3, x4, x5, -, -, -, -, -, -⟩ := HQ
                obtain ⟨s0, s1, s2, s3, s4, s5, f0, f1, f2, f3, f4, f5⟩ := bR_14.out
                have hz : Box6W ((((((X35.setCell ⟨w.heap.size + 1, 0, none⟩ (.int .i64 Q.who)).setCell ⟨w.heap.size + 1, 1, none⟩ (.int .i64 Q.ep)).setCell ⟨w.heap.size + 1, 2, none⟩ (.int .i64 Q.num)).setCell ⟨w.heap.size + 1, 3, none⟩ (.int .i64 Q.obj)).setCell ⟨w.heap.size + 1, 4, none⟩ (.int .i64 Q.pos)).setCell ⟨w.heap.size + 1, 5, none⟩ (.string (mkB Q.data))) (w.heap.size + 1) Q := by
                  have h := (((((bR_14.out.set0 Q.who).set1 Q.ep).set2 Q.num).set3 Q.obj).set4 Q.pos).set5 Q.data
                  exact h
                have hE := grown_new (grown_new (grown_new (grown_new (grown_new (grown_new E_14.out (show w.heap.size ≤ w.heap.size + 1 by omega) (o := 0) (v := .int .i64 Q.who)) (show w.heap.size ≤ w.heap.size + 1 by omega) (o := 1) (v := .int .i64 Q.ep)) (show w.heap.size ≤ w.heap.size + 1 by omega) (o := 2) (v := .int .i64 Q.num)) (show w.heap.size ≤ w.heap.size + 1 by omega) (o := 3) (v := .int .i64 Q.obj)) (show w.heap.size ≤ w.heap.size + 1 by omega) (o := 4) (v := .int .i64 Q.pos)) (show w.heap.size ≤ w.heap.size + 1 by omega) (o := 5) (v := .string (mkB Q.data))
                have hRd := (((((R_14.out.set (show rb < w.heap.size + 1 by omega) (o := 0) (u := .int .i64 Q.who)).set (show rb < w.heap.size + 1 by omega) (o := 1) (u := .int .i64 Q.ep)).set (show rb < w.heap.size + 1 by omega) (o := 2) (u := .int .i64 Q.num)).set (show rb < w.heap.size + 1 by omega) (o := 3) (u := .int .i64 Q.obj)).set (show rb < w.heap.size + 1 by omega) (o := 4) (u := .int .i64 Q.pos)).set (show rb < w.heap.size + 1 by omega) (o := 5) (u := .string (mkB Q.data))
                obtain ⟨Z, hZ⟩ : ∃ X, ((((((X35.setCell ⟨w.heap.size + 1, 0, none⟩ (.int .i64 Q.who)).setCell ⟨w.heap.size + 1, 1, none⟩ (.int .i64 Q.ep)).setCell ⟨w.heap.size + 1, 2, none⟩ (.int .i64 Q.num)).setCell ⟨w.heap.size + 1, 3, none⟩ (.int .i64 Q.obj)).setCell ⟨w.heap.size + 1, 4, none⟩ (.int .i64 Q.pos)).setCell ⟨w.heap.size + 1, 5, none⟩ (.string (mkB Q.data))) = X := ⟨_, rfl⟩
                rw [hZ] at hz hE hRd
                have HE := Lib.hid hE
                have HRd := Lib.hid hRd
                have hpf : p5 ≤ p + 20 := by omega
                have HPF := Lib.hid hpf
                have HDQ := Lib.hid hdq
                clear hE hRd hpf hdq q0_ q1_ q2_ q3_ q4_ q5_ q6_ q7_ q8_ q9_ q10_ q11_ q12_ q13_
                go_wp2
                obtain ⟨t0, t1, t2, t3, t4, t5, -, -, -, -, -, -⟩ := hz
                exact bodyPost_ret (v := .agg (rqA Q)) (by simp [results, Tryd.results41, go_sem, t0, t1, t2, t3, t4, t5, rqA]) rfl ⟨Q, _, rfl, HDQ.out, HRd.out, HPF.out, HE.out⟩
              · have d5 : (cc == 5) = false := by simpa using e5
                have q0_ := S_0.out
                have q1_ := S_1.out
                have q2_ := S_2.out
                have q3_ := S_3.out
                have q4_ := S_4.out
                have q5_ := S_5.out
                have q6_ := S_6.out
                have q7_ := S_7b.out
                have q8_ := S_8.out
                have q9_ := S_9.out
                have q10_ := S_11.out
                have q11_ := S_12.out
                obtain ⟨Q, HQ, hdq⟩ : ∃ Q : ReqT, Box6W w23 (w5.heap.size) Q ∧ Q.data.length ≤ 49 := ⟨_, bQ_12.out, by first | exact hdt | exact hdu⟩
                obtain ⟨x0, x1, x2, x3, x4, x5, -, -, -, -, -, -⟩ := HQ
                obtain ⟨s0, s1, s2, s3, s4, s5, f0, f1, f2, f3, f4, f5⟩ := bR_12.out
                have hz : Box6W ((((((w23.setCell ⟨w.heap.size + 1, 0, none⟩ (.int .i64 Q.who)).setCell ⟨w.heap.size + 1, 1, none⟩ (.int .i64 Q.ep)).setCell ⟨w.heap.size + 1, 2, none⟩ (.int .i64 Q.num)).setCell ⟨w.heap.size + 1, 3, none⟩ (.int .i64 Q.obj)).setCell ⟨w.heap.size + 1, 4, none⟩ (.int .i64 Q.pos)).setCell ⟨w.heap.size + 1, 5, none⟩ (.string (mkB Q.data))) (w.heap.size + 1) Q := by
                  have h := (((((bR_12.out.set0 Q.who).set1 Q.ep).set2 Q.num).set3 Q.obj).set4 Q.pos).set5 Q.data
                  exact h
                have hE := grown_new (grown_new (grown_new (grown_new (grown_new (grown_new E_12.out (show w.heap.size ≤ w.heap.size + 1 by omega) (o := 0) (v := .int .i64 Q.who)) (show w.heap.size ≤ w.heap.size + 1 by omega) (o := 1) (v := .int .i64 Q.ep)) (show w.heap.size ≤ w.heap.size + 1 by omega) (o := 2) (v := .int .i64 Q.num)) (show w.heap.size ≤ w.heap.size + 1 by omega) (o := 3) (v := .int .i64 Q.obj)) (show w.heap.size ≤ w.heap.size + 1 by omega) (o := 4) (v := .int .i64 Q.pos)) (show w.heap.size ≤ w.heap.size + 1 by omega) (o := 5) (v := .string (mkB Q.data))
                have hRd := (((((R_12.out.set (show rb < w.heap.size + 1 by omega) (o := 0) (u := .int .i64 Q.who)).set (show rb < w.heap.size + 1 by omega) (o := 1) (u := .int .i64 Q.ep)).set (show rb < w.heap.size + 1 by omega) (o := 2) (u := .int .i64 Q.num)).set (show rb < w.heap.size + 1 by omega) (o := 3) (u := .int .i64 Q.obj)).set (show rb < w.heap.size + 1 by omega) (o := 4) (u := .int .i64 Q.pos)).set (show rb < w.heap.size + 1 by omega) (o := 5) (u := .string (mkB Q.data))
                obtain ⟨Z, hZ⟩ : ∃ X, ((((((w23.setCell ⟨w.heap.size + 1, 0, none⟩ (.int .i64 Q.who)).setCell ⟨w.heap.size + 1, 1, none⟩ (.int .i64 Q.ep)).setCell ⟨w.heap.size + 1, 2, none⟩ (.int .i64 Q.num)).setCell ⟨w.heap.size + 1, 3, none⟩ (.int .i64 Q.obj)).setCell ⟨w.heap.size + 1, 4, none⟩ (.int .i64 Q.pos)).setCell ⟨w.heap.size + 1, 5, none⟩ (.string (mkB Q.data))) = X := ⟨_, rfl⟩
                rw [hZ] at hz hE hRd
                have HE := Lib.hid hE
                have HRd := Lib.hid hRd
                have hpf : p2 + 1 + 1 ≤ p + 20 := by omega
                have HPF := Lib.hid hpf
                have HDQ := Lib.hid hdq
                clear hE hRd hpf hdq q0_ q1_ q2_ q3_ q4_ q5_ q6_ q7_ q8_ q9_ q10_ q11_
                go_wp2
                obtain ⟨t0, t1, t2, t3, t4, t5, -, -, -, -, -, -⟩ := hz
                exact bodyPost_ret (v := .agg (rqA Q)) (by simp [results, Tryd.results41, go_sem, t0, t1, t2, t3, t4, t5, rqA]) rfl ⟨Q, _, rfl, HDQ.out, HRd.out, HPF.out, HE.out⟩

end Go.Proofs.YtadoihddmbbjoaaDoor
