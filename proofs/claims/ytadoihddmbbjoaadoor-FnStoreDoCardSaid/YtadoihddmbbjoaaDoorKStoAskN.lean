/-
  A request drawn for a store one of whose lists is not of three.
  A request drawn for a store one of whose lists is not of three.
  A request drawn for a store one of whose lists is not of three.
  A request drawn for any store.
-/
import Derived.Test.YtadoihddmbbjoaaDoorKStoAsk
namespace Go.Proofs.YtadoihddmbbjoaaDoor
open Go.RowKit

set_option maxRecDepth 100000 in
set_option maxHeartbeats 8000000 in
theorem l5Ask_a (rb p : Nat) (v0 v1 v2 v3 v4 : Value) (S : StT) (w : World) (h : Rd w rb p) (hp : p ≤ 600000000) (hst : ∀ w1, w.grownBy w1 (some rb) → Sto w1 v0 v1 v2 v3 v4 S) (hl3 : S.last.length = 3) (hf3 : S.floors.length ≠ 3) :
    Calls Tryd.prog 41 #[.pointer (some ⟨rb, 0, none⟩), .agg #[v0, v1, v2, v3, v4]] w (Rqd w rb p 20) := by
  have hst0 := hst w ⟨rfl, rfl, rfl, Nat.le_refl _, fun _ _ _ => rfl⟩
  obtain ⟨a0, c0, rfl⟩ := hst0.now.form
  obtain ⟨a1, c1, rfl⟩ := hst0.sure.form
  obtain ⟨a3, c3, rfl⟩ := hst0.slast.form
  obtain ⟨b2, o2, c2, rfl⟩ := vls_some hst0.last (by omega)
  have hb2 : b2 < w.heap.size := World.block_lt_of_cell? w _ (vls_at hst0.last (i := 0) (by omega))
  rw [hl3] at hst ⊢
  obtain ⟨a4, c4, rfl⟩ := hst0.floors.form
  obtain ⟨nf, hnf⟩ : ∃ n, S.floors.length = n := ⟨_, rfl⟩
  rw [hnf] at hst ⊢ hf3
  have d4 : ((nf : Int) == 3) = false := by simp; omega
  clear hst0
  have hrb := h.lt'
  obtain ⟨W, hW⟩ : ∃ W, (w.alloc (.cells #[.slice a0 S.now.length c0, .slice a1 S.sure.length c1, .slice (some ⟨b2, o2, none⟩) 3 c2, .slice a3 S.slast.length c3, .slice a4 nf c4] 30)).alloc (.cells #[.int .i64 0, .int .i64 0, .int .i64 0, .int .i64 0, .int .i64 0, .string ⟨#[]⟩] 34) = W := ⟨_, rfl⟩
  have hal : Below w.heap.size w W := by rw [← hW]; exact ((Below.refl _ _).alloc (Nat.le_refl _) _).alloc (by simp) _
  have A0 : Box5 W w.heap.size (.slice a0 S.now.length c0) (.slice a1 S.sure.length c1) (.slice (some ⟨b2, o2, none⟩) 3 c2) (.slice a3 S.slast.length c3) (.slice a4 nf c4) := by rw [← hW]; exact (new_box5 w _ _ _ _ _ _).keep ((Below.refl _ _).alloc (Nat.le_refl _) _)
  have R0 : Box6W W (w.heap.size + 1) ⟨0, 0, 0, 0, 0, []⟩ := by
    rw [← hW, show w.heap.size + 1 = (w.alloc (.cells #[.slice a0 S.now.length c0, .slice a1 S.sure.length c1, .slice (some ⟨b2, o2, none⟩) 3 c2, .slice a3 S.slast.length c3, .slice a4 nf c4] 30)).heap.size by simp]
    exact new_box6W _ ⟨0, 0, 0, 0, 0, []⟩ _
  have hl : w.heap.size + 1 < W.heap.size := by rw [← hW]; simp
  have E_0 := Lib.hid (grown_below hal (some rb))
  have R_0 := Lib.hid (h.keep hal)
  have S_0 := Lib.hid hl
  have bA_0 := Lib.hid A0
  have bR_0 := Lib.hid R0
  have HST := Lib.hid hst
  have HL3 := Lib.hid hl3
  have HF3 := Lib.hid hf3
  clear hal A0 R0 hl h hst hl3 hf3 hnf
  go_enter Tryd.func41, Tryd.ntmps41
  go_wp2_with fail
  refine (pick_any rb (p) 3 _ R_0.out (by omega) (by omega) (by omega)).mono ?_; rintro e w1 ⟨k, rfl, k0, k1, hr, hg⟩
  clear hW
  have q0_ := S_0.out
  have ht := grown_btn hg
  have bA_1 := Lib.hid (bA_0.out.btn ht (by omega))
  have bR_1 := Lib.hid (bR_0.out.btn ht (by omega))
  have E_1 := Lib.hid (grown_trans E_0.out hg)
  have R_1 := Lib.hid (hr)
  have S_1 := Lib.hid ht.size
  clear bA_0 bR_0 E_0 R_0 hg hr ht q0_
  replace k1 := k1 (by omega)
  obtain ⟨k, rfl⟩ : ∃ m : Nat, k = m := ⟨k.toNat, by omega⟩
  have k3 : k < 3 := by omega
  go_wp2_with fail
  refine (pick_any rb (p + 1) 4 _ R_1.out (by omega) (by omega) (by omega)).mono ?_; rintro e w2 ⟨ep, rfl, ep0, ep1, hr, hg⟩
  have q0_ := S_0.out
  have q1_ := S_1.out
  have ht := grown_btn hg
  have bA_2 := Lib.hid (bA_1.out.btn ht (by omega))
  have bR_2 := Lib.hid (bR_1.out.btn ht (by omega))
  have E_2 := Lib.hid (grown_trans E_1.out hg)
  have R_2 := Lib.hid (hr)
  have S_2 := Lib.hid ht.size
  clear bA_1 bR_1 E_1 R_1 hg hr ht q0_ q1_
  replace ep1 := ep1 (by omega)
  go_wp2_with fail
  refine (pick_any rb (p + 1 + 1) 3 _ R_2.out (by omega) (by omega) (by omega)).mono ?_; rintro e w3 ⟨ob, rfl, ob0, ob1, hr, hg⟩
  have q0_ := S_0.out
  have q1_ := S_1.out
  have q2_ := S_2.out
  have ht := grown_btn hg
  have bA_3 := Lib.hid (bA_2.out.btn ht (by omega))
  have bR_3 := Lib.hid (bR_2.out.btn ht (by omega))
  have E_3 := Lib.hid (grown_trans E_2.out hg)
  have R_3 := Lib.hid (hr)
  have S_3 := Lib.hid ht.size
  clear bA_2 bR_2 E_2 R_2 hg hr ht q0_ q1_ q2_
  replace ob1 := ob1 (by omega)
  go_wp2_with fail
  refine (pick_any rb (p + 1 + 1 + 1) 16 _ R_3.out (by omega) (by omega) (by omega)).mono ?_; rintro e w4 ⟨at_, rfl, at_0, at_1, hr, hg⟩
  have q0_ := S_0.out
  have q1_ := S_1.out
  have q2_ := S_2.out
  have q3_ := S_3.out
  have ht := grown_btn hg
  have bA_4 := Lib.hid (bA_3.out.btn ht (by omega))
  have bR_4 := Lib.hid (bR_3.out.btn ht (by omega))
  have E_4 := Lib.hid (grown_trans E_3.out hg)
  have R_4 := Lib.hid (hr)
  have S_4 := Lib.hid ht.size
  clear bA_3 bR_3 E_3 R_3 hg hr ht q0_ q1_ q2_ q3_
  replace at_1 := at_1 (by omega)
  go_wp2_with fail
  refine (ofL_any rb (p + 1 + 1 + 1 + 1) [[120], [97, 98], [113, 55, 46], [109, 110, 111, 112]] 4 (fun l => l.length ≤ 49) w4 _ _ rfl rfl R_4.out (by omega) (by omega) (by omega) (by simp)).mono ?_; rintro e w5 ⟨dt, p1, rfl, hdt, hr, hp1, hg⟩
  have q0_ := S_0.out
  have q1_ := S_1.out
  have q2_ := S_2.out
  have q3_ := S_3.out
  have q4_ := S_4.out
  have ht := grown_btn hg
  have bA_5 := Lib.hid (bA_4.out.btn ht (by omega))
  have bR_5 := Lib.hid (bR_4.out.btn ht (by omega))
  have E_5 := Lib.hid (grown_trans E_4.out hg)
  have R_5 := Lib.hid (hr)
  have S_5 := Lib.hid ht.size
  clear bA_4 bR_4 E_4 R_4 hg hr ht q0_ q1_ q2_ q3_ q4_
  obtain ⟨X6, hX6⟩ : ∃ X, w5.alloc (.cells #[.int .i64 k, .int .i64 ep, .int .i64 1, .int .i64 ob, .int .i64 at_, .string (mkB dt)] 34) = X := ⟨_, rfl⟩
  have hb : Below w5.heap.size w5 X6 := by rw [← hX6]; exact (Below.refl _ _).alloc (Nat.le_refl _) _
  have hB : Box6W X6 w5.heap.size ⟨k, ep, 1, ob, at_, dt⟩ := by rw [← hX6]; exact new_box6W w5 ⟨k, ep, 1, ob, at_, dt⟩ _
  have hl : w5.heap.size < X6.heap.size := by rw [← hX6]; simp
  have bA_6 := Lib.hid (bA_5.out.keep hb)
  have bR_6 := Lib.hid (bR_5.out.keep hb)
  have E_6 := Lib.hid (grown_trans E_5.out (grown_below hb _))
  have R_6 := Lib.hid (R_5.out.keep hb)
  have S_6 := Lib.hid hb.size
  clear bA_5 bR_5 E_5 R_5 hb
  have bQ_7 := Lib.hid hB
  have S_7b := Lib.hid hl
  clear hB hl
  obtain ⟨Llast, hLlast⟩ : ∃ m, S.last.getD k 0 = m := ⟨_, rfl⟩
  have HVlast := Lib.hid hLlast
  clear hLlast
  have y := (vls_at (HST.out _ E_6.out).last (show k < S.last.length by rw [HL3.out]; omega)).trans (by show some (Value.int .i64 (S.last.getD k 0)) = some (Value.int .i64 Llast); rw [HVlast.out])
  obtain ⟨x0_0, x0_1, x0_2, x0_3, x0_4⟩ := bA_6.out
  have yh := x0_2
  go_wp2_with fail
  clear hX6
  have hD : Below X6.heap.size X6 X6.drew := (Below.refl _ _).drew
  have q0_ := S_0.out
  have q1_ := S_1.out
  have q2_ := S_2.out
  have q3_ := S_3.out
  have q4_ := S_4.out
  have q5_ := S_5.out
  have q6_ := S_6.out
  have q7_ := S_7b.out
  go_region_held3 (fun w' => w'.cell? ⟨w.heap.size, 2, none⟩ = some (.slice (some ⟨b2, o2, none⟩) 3 c2) ∧ w'.cell? ⟨b2, o2 + k, none⟩ = some (.int .i64 Llast))
    (refine ⟨?_, ?_⟩ <;> first | assumption | (with_reducible refine cell_far1 ?_ ?_ <;> first | omega | assumption) | (go_keep; done))
    (first | (go_at_call 63; refine (numLA_any rb (p1) [1, 1, 1, 1, 1, 0, 2, -1] 8 (fun _ => True) _ _ _ _ rfl rfl rfl (R_6.out.keep hD) (by omega) (by omega) (by omega) (by simp)).mono ?_; rintro e r0 ⟨i, p2, rfl, -, hr, hp2, hg0⟩; have hg := grown_trans (grown_below hD (some rb)) hg0; have ht := grown_btn hg; have yh := (bA_6.out.btn ht (by omega)).2.2.1; have y := (vls_at (HST.out _ (grown_trans E_6.out hg)).last (show k < S.last.length by rw [HL3.out]; omega)).trans (by show some (Value.int .i64 (S.last.getD k 0)) = some (Value.int .i64 Llast); rw [HVlast.out]); obtain ⟨g0, g1, g2, g3, g4, g5, f0, f1, f2, f3, f4, f5⟩ := bQ_7.out.btn ht (by omega); obtain ⟨m1, hm⟩ : ∃ m, IntKind.i64.wrap (Llast + i) = m := ⟨_, rfl⟩; have hne : ¬ b2 = w5.heap.size := by omega))
  clear q0_ q1_ q2_ q3_ q4_ q5_ q6_ q7_
  clear x0_0 x0_1 x0_2 x0_3 x0_4
  clear yh y hD ht g0 g1 g2 g3 g4 g5 f0 f1 f2 f3 f4 f5 hg0 hne
  have q0_ := S_0.out
  have q1_ := S_1.out
  have q2_ := S_2.out
  have q3_ := S_3.out
  have q4_ := S_4.out
  have q5_ := S_5.out
  have q6_ := S_6.out
  have q7_ := S_7b.out
  have ht := grown_btn hg
  have bA_8 := Lib.hid (bA_6.out.btn ht (by omega))
  have bR_8 := Lib.hid (bR_6.out.btn ht (by omega))
  have bQ_8 := Lib.hid (bQ_7.out.btn ht (by omega))
  have E_8 := Lib.hid (grown_trans E_6.out hg)
  have R_8 := Lib.hid (hr)
  have S_8 := Lib.hid ht.size
  clear bA_6 bR_6 bQ_7 E_6 R_6 hg hr ht q0_ q1_ q2_ q3_ q4_ q5_ q6_ q7_
  have q0_ := S_0.out
  have q1_ := S_1.out
  have q2_ := S_2.out
  have q3_ := S_3.out
  have q4_ := S_4.out
  have q5_ := S_5.out
  have q6_ := S_6.out
  have q7_ := S_7b.out
  have q8_ := S_8.out
  obtain ⟨X7, hX7⟩ : ∃ X, r0.setCell ⟨w5.heap.size, 2, none⟩ (.int .i64 m1) = X := ⟨_, rfl⟩
  have ht : Btn (w5.heap.size) (w5.heap.size + 1) r0 X7 := by rw [← hX7]; exact btn_set _ _ _ _
  have hB := bQ_8.out.set2 m1
  rw [hX7] at hB
  have hE := grown_new E_8.out (show w.heap.size ≤ w5.heap.size by omega) (o := 2) (v := .int .i64 m1)
  have hRd := R_8.out.set (show rb < w5.heap.size by omega) (o := 2) (u := .int .i64 m1)
  rw [hX7] at hE hRd
  rw [hX7]
  have bA_9 := Lib.hid (bA_8.out.btn ht (by omega))
  have bR_9 := Lib.hid (bR_8.out.btn ht (by omega))
  have E_9 := Lib.hid (hE)
  have R_9 := Lib.hid (hRd)
  have S_9 := Lib.hid ht.size
  clear bA_8 bR_8 E_8 R_8 ht hE hRd bQ_8 q0_ q1_ q2_ q3_ q4_ q5_ q6_ q7_ q8_
  have bQ_10 := Lib.hid hB
  clear hB
  clear hX7
  obtain ⟨x0_0, x0_1, x0_2, x0_3, x0_4⟩ := bA_9.out
  go_wp2_with fail
  refine (pick_any rb (p2) 50 _ R_9.out (by omega) (by omega) (by omega)).mono ?_; rintro e w8 ⟨cc, rfl, cc0, cc1, hr, hg⟩
  have q0_ := S_0.out
  have q1_ := S_1.out
  have q2_ := S_2.out
  have q3_ := S_3.out
  have q4_ := S_4.out
  have q5_ := S_5.out
  have q6_ := S_6.out
  have q7_ := S_7b.out
  have q8_ := S_8.out
  have q9_ := S_9.out
  have ht := grown_btn hg
  have bA_11 := Lib.hid (bA_9.out.btn ht (by omega))
  have bR_11 := Lib.hid (bR_9.out.btn ht (by omega))
  have bQ_11 := Lib.hid (bQ_10.out.btn ht (by omega))
  have E_11 := Lib.hid (grown_trans E_9.out hg)
  have R_11 := Lib.hid (hr)
  have S_11 := Lib.hid ht.size
  clear x0_0 x0_1 x0_2 x0_3 x0_4
  clear bA_9 bR_9 bQ_10 E_9 R_9 hg hr ht q0_ q1_ q2_ q3_ q4_ q5_ q6_ q7_ q8_ q9_
  replace cc1 := cc1 (by omega)
  by_cases e0 : cc = 0
  · subst e0
    go_wp2_with fail
    refine (l4WhoDraw_any rb (p2 + 1) _ R_11.out (by omega)).mono ?_; rintro e w9 ⟨u, p5, rfl, -, hr, hp5, hg⟩
    have q0_ := S_0.out
    have q1_ := S_1.out
    have q2_ := S_2.out
    have q3_ := S_3.out
    have q4_ := S_4.out
    have q5_ := S_5.out
    have q6_ := S_6.out
    have q7_ := S_7b.out
    have q8_ := S_8.out
    have q9_ := S_9.out
    have q10_ := S_11.out
    have ht := grown_btn hg
    have bA_12 := Lib.hid (bA_11.out.btn ht (by omega))
    have bR_12 := Lib.hid (bR_11.out.btn ht (by omega))
    have bQ_12 := Lib.hid (bQ_11.out.btn ht (by omega))
    have E_12 := Lib.hid (grown_trans E_11.out hg)
    have R_12 := Lib.hid (hr)
    have S_12 := Lib.hid ht.size
    clear bA_11 bR_11 bQ_11 E_11 R_11 hg hr ht q0_ q1_ q2_ q3_ q4_ q5_ q6_ q7_ q8_ q9_ q10_
    have hq6 := bQ_12.out
    obtain ⟨v0', v1', v2', v3', v4', v5', w0', w1', w2', w3', w4', w5'⟩ := hq6
    have q0_ := S_0.out
    have q1_ := S_1.out
    have q2_ := S_2.out
    have q3_ := S_3.out
    have q4_ := S_4.out
    have q5_ := S_5.out
    have q6_ := S_6.out
    have q7_ := S_7b.out
    have q8_ := S_8.out
    have q9_ := S_9.out
    have q10_ := S_11.out
    have q11_ := S_12.out
    obtain ⟨X10, hX10⟩ : ∃ X, w9.setCell ⟨w5.heap.size, 0, none⟩ (.int .i64 u) = X := ⟨_, rfl⟩
    have ht : Btn (w5.heap.size) (w5.heap.size + 1) w9 X10 := by rw [← hX10]; exact btn_set _ _ _ _
    have hB := bQ_12.out.set0 u
    rw [hX10] at hB
    have hE := grown_new E_12.out (show w.heap.size ≤ w5.heap.size by omega) (o := 0) (v := .int .i64 u)
    have hRd := R_12.out.set (show rb < w5.heap.size by omega) (o := 0) (u := .int .i64 u)
    rw [hX10] at hE hRd
    have bA_13 := Lib.hid (bA_12.out.btn ht (by omega))
    have bR_13 := Lib.hid (bR_12.out.btn ht (by omega))
    have E_13 := Lib.hid (hE)
    have R_13 := Lib.hid (hRd)
    have S_13 := Lib.hid ht.size
    clear bA_12 bR_12 E_12 R_12 ht hE hRd bQ_12 q0_ q1_ q2_ q3_ q4_ q5_ q6_ q7_ q8_ q9_ q10_ q11_
    have bQ_14 := Lib.hid hB
    clear hB
    have q0_ := S_0.out
    have q1_ := S_1.out
    have q2_ := S_2.out
    have q3_ := S_3.out
    have q4_ := S_4.out
    have q5_ := S_5.out
    have q6_ := S_6.out
    have q7_ := S_7b.out
    have q8_ := S_8.out
    have q9_ := S_9.out
    have q10_ := S_11.out
    have q11_ := S_12.out
    have q12_ := S_13.out
    obtain ⟨Q, HQ, hdq⟩ : ∃ Q : ReqT, Box6W X10 (w5.heap.size) Q ∧ Q.data.length ≤ 49 := ⟨_, bQ_14.out, by first | exact hdt | exact hdu⟩
    obtain ⟨x0, x1, x2, x3, x4, x5, -, -, -, -, -, -⟩ := HQ
    obtain ⟨s0, s1, s2, s3, s4, s5, f0, f1, f2, f3, f4, f5⟩ := bR_13.out
    have hz : Box6W ((((((X10.setCell ⟨w.heap.size + 1, 0, none⟩ (.int .i64 Q.who)).setCell ⟨w.heap.size + 1, 1, none⟩ (.int .i64 Q.ep)).setCell ⟨w.heap.size + 1, 2, none⟩ (.int .i64 Q.num)).setCell ⟨w.heap.size + 1, 3, none⟩ (.int .i64 Q.obj)).setCell ⟨w.heap.size + 1, 4, none⟩ (.int .i64 Q.pos)).setCell ⟨w.heap.size + 1, 5, none⟩ (.string (mkB Q.data))) (w.heap.size + 1) Q := by
      have h := (((((bR_13.out.set0 Q.who).set1 Q.ep).set2 Q.num).set3 Q.obj).set4 Q.pos).set5 Q.data
      exact h
    have hE := grown_new (grown_new (grown_new (grown_new (grown_new (grown_new E_13.out (show w.heap.size ≤ w.heap.size + 1 by omega) (o := 0) (v := .int .i64 Q.who)) (show w.heap.size ≤ w.heap.size + 1 by omega) (o := 1) (v := .int .i64 Q.ep)) (show w.heap.size ≤ w.heap.size + 1 by omega) (o := 2) (v := .int .i64 Q.num)) (show w.heap.size ≤ w.heap.size + 1 by omega) (o := 3) (v := .int .i64 Q.obj)) (show w.heap.size ≤ w.heap.size + 1 by omega) (o := 4) (v := .int .i64 Q.pos)) (show w.heap.size ≤ w.heap.size + 1 by omega) (o := 5) (v := .string (mkB Q.data))
    have hRd := (((((R_13.out.set (show rb < w.heap.size + 1 by omega) (o := 0) (u := .int .i64 Q.who)).set (show rb < w.heap.size + 1 by omega) (o := 1) (u := .int .i64 Q.ep)).set (show rb < w.heap.size + 1 by omega) (o := 2) (u := .int .i64 Q.num)).set (show rb < w.heap.size + 1 by omega) (o := 3) (u := .int .i64 Q.obj)).set (show rb < w.heap.size + 1 by omega) (o := 4) (u := .int .i64 Q.pos)).set (show rb < w.heap.size + 1 by omega) (o := 5) (u := .string (mkB Q.data))
    obtain ⟨Z, hZ⟩ : ∃ X, ((((((X10.setCell ⟨w.heap.size + 1, 0, none⟩ (.int .i64 Q.who)).setCell ⟨w.heap.size + 1, 1, none⟩ (.int .i64 Q.ep)).setCell ⟨w.heap.size + 1, 2, none⟩ (.int .i64 Q.num)).setCell ⟨w.heap.size + 1, 3, none⟩ (.int .i64 Q.obj)).setCell ⟨w.heap.size + 1, 4, none⟩ (.int .i64 Q.pos)).setCell ⟨w.heap.size + 1, 5, none⟩ (.string (mkB Q.data))) = X := ⟨_, rfl⟩
    rw [hZ] at hz hE hRd
    have HE := Lib.hid hE
    have HRd := Lib.hid hRd
    have hpf : p5 ≤ p + 20 := by omega
    have HPF := Lib.hid hpf
    have HDQ := Lib.hid hdq
    clear hE hRd hpf hdq q0_ q1_ q2_ q3_ q4_ q5_ q6_ q7_ q8_ q9_ q10_ q11_ q12_
    go_wp2
    obtain ⟨t0, t1, t2, t3, t4, t5, -, -, -, -, -, -⟩ := hz
    exact bodyPost_ret (v := .agg (rqA Q)) (by simp [results, Tryd.results41, go_sem, t0, t1, t2, t3, t4, t5, rqA]) rfl ⟨Q, _, rfl, HDQ.out, HRd.out, HPF.out, HE.out⟩
  · have d0 : (cc == 0) = false := by simpa using e0
    by_cases e1 : cc = 1
    · subst e1
      go_wp2_with fail
      refine (numLA_any rb (p2 + 1) [-1, 3] 2 (fun _ => True) w8 w8.heap.size _ _ rfl rfl rfl R_11.out (by omega) (by omega) (by omega) (by simp)).mono ?_; rintro e w11 ⟨u, p5, rfl, -, hr, hp5, hg⟩
      have q0_ := S_0.out
      have q1_ := S_1.out
      have q2_ := S_2.out
      have q3_ := S_3.out
      have q4_ := S_4.out
      have q5_ := S_5.out
      have q6_ := S_6.out
      have q7_ := S_7b.out
      have q8_ := S_8.out
      have q9_ := S_9.out
      have q10_ := S_11.out
      have ht := grown_btn hg
      have bA_12 := Lib.hid (bA_11.out.btn ht (by omega))
      have bR_12 := Lib.hid (bR_11.out.btn ht (by omega))
      have bQ_12 := Lib.hid (bQ_11.out.btn ht (by omega))
      have E_12 := Lib.hid (grown_trans E_11.out hg)
      have R_12 := Lib.hid (hr)
      have S_12 := Lib.hid ht.size
      clear bA_11 bR_11 bQ_11 E_11 R_11 hg hr ht q0_ q1_ q2_ q3_ q4_ q5_ q6_ q7_ q8_ q9_ q10_
      have hq6 := bQ_12.out
      obtain ⟨v0', v1', v2', v3', v4', v5', w0', w1', w2', w3', w4', w5'⟩ := hq6
      have q0_ := S_0.out
      have q1_ := S_1.out
      have q2_ := S_2.out
      have q3_ := S_3.out
      have q4_ := S_4.out
      have q5_ := S_5.out
      have q6_ := S_6.out
      have q7_ := S_7b.out
      have q8_ := S_8.out
      have q9_ := S_9.out
      have q10_ := S_11.out
      have q11_ := S_12.out
      obtain ⟨X12, hX12⟩ : ∃ X, w11.setCell ⟨w5.heap.size, 3, none⟩ (.int .i64 u) = X := ⟨_, rfl⟩
      have ht : Btn (w5.heap.size) (w5.heap.size + 1) w11 X12 := by rw [← hX12]; exact btn_set _ _ _ _
      have hB := bQ_12.out.set3 u
      rw [hX12] at hB
      have hE := grown_new E_12.out (show w.heap.size ≤ w5.heap.size by omega) (o := 3) (v := .int .i64 u)
      have hRd := R_12.out.set (show rb < w5.heap.size by omega) (o := 3) (u := .int .i64 u)
      rw [hX12] at hE hRd
      have bA_13 := Lib.hid (bA_12.out.btn ht (by omega))
      have bR_13 := Lib.hid (bR_12.out.btn ht (by omega))
      have E_13 := Lib.hid (hE)
      have R_13 := Lib.hid (hRd)
      have S_13 := Lib.hid ht.size
      clear bA_12 bR_12 E_12 R_12 ht hE hRd bQ_12 q0_ q1_ q2_ q3_ q4_ q5_ q6_ q7_ q8_ q9_ q10_ q11_
      have bQ_14 := Lib.hid hB
      clear hB
      have q0_ := S_0.out
      have q1_ := S_1.out
      have q2_ := S_2.out
      have q3_ := S_3.out
      have q4_ := S_4.out
      have q5_ := S_5.out
      have q6_ := S_6.out
      have q7_ := S_7b.out
      have q8_ := S_8.out
      have q9_ := S_9.out
      have q10_ := S_11.out
      have q11_ := S_12.out
      have q12_ := S_13.out
      obtain ⟨Q, HQ, hdq⟩ : ∃ Q : ReqT, Box6W X12 (w5.heap.size) Q ∧ Q.data.length ≤ 49 := ⟨_, bQ_14.out, by first | exact hdt | exact hdu⟩
      obtain ⟨x0, x1, x2, x3, x4, x5, -, -, -, -, -, -⟩ := HQ
      obtain ⟨s0, s1, s2, s3, s4, s5, f0, f1, f2, f3, f4, f5⟩ := bR_13.out
      have hz : Box6W ((((((X12.setCell ⟨w.heap.size + 1, 0, none⟩ (.int .i64 Q.who)).setCell ⟨w.heap.size + 1, 1, none⟩ (.int .i64 Q.ep)).setCell ⟨w.heap.size + 1, 2, none⟩ (.int .i64 Q.num)).setCell ⟨w.heap.size + 1, 3, none⟩ (.int .i64 Q.obj)).setCell ⟨w.heap.size + 1, 4, none⟩ (.int .i64 Q.pos)).setCell ⟨w.heap.size + 1, 5, none⟩ (.string (mkB Q.data))) (w.heap.size + 1) Q := by
        have h := (((((bR_13.out.set0 Q.who).set1 Q.ep).set2 Q.num).set3 Q.obj).set4 Q.pos).set5 Q.data
        exact h
      have hE := grown_new (grown_new (grown_new (grown_new (grown_new (grown_new E_13.out (show w.heap.size ≤ w.heap.size + 1 by omega) (o := 0) (v := .int .i64 Q.who)) (show w.heap.size ≤ w.heap.size + 1 by omega) (o := 1) (v := .int .i64 Q.ep)) (show w.heap.size ≤ w.heap.size + 1 by omega) (o := 2) (v := .int .i64 Q.num)) (show w.heap.size ≤ w.heap.size + 1 by omega) (o := 3) (v := .int .i64 Q.obj)) (show w.heap.size ≤ w.heap.size + 1 by omega) (o := 4) (v := .int .i64 Q.pos)) (show w.heap.size ≤ w.heap.size + 1 by omega) (o := 5) (v := .string (mkB Q.data))
      have hRd := (((((R_13.out.set (show rb < w.heap.size + 1 by omega) (o := 0) (u := .int .i64 Q.who)).set (show rb < w.heap.size + 1 by omega) (o := 1) (u := .int .i64 Q.ep)).set (show rb < w.heap.size + 1 by omega) (o := 2) (u := .int .i64 Q.num)).set (show rb < w.heap.size + 1 by omega) (o := 3) (u := .int .i64 Q.obj)).set (show rb < w.heap.size + 1 by omega) (o := 4) (u := .int .i64 Q.pos)).set (show rb < w.heap.size + 1 by omega) (o := 5) (u := .string (mkB Q.data))
      obtain ⟨Z, hZ⟩ : ∃ X, ((((((X12.setCell ⟨w.heap.size + 1, 0, none⟩ (.int .i64 Q.who)).setCell ⟨w.heap.size + 1, 1, none⟩ (.int .i64 Q.ep)).setCell ⟨w.heap.size + 1, 2, none⟩ (.int .i64 Q.num)).setCell ⟨w.heap.size + 1, 3, none⟩ (.int .i64 Q.obj)).setCell ⟨w.heap.size + 1, 4, none⟩ (.int .i64 Q.pos)).setCell ⟨w.heap.size + 1, 5, none⟩ (.string (mkB Q.data))) = X := ⟨_, rfl⟩
      rw [hZ] at hz hE hRd
      have HE := Lib.hid hE
      have HRd := Lib.hid hRd
      have hpf : p5 ≤ p + 20 := by omega
      have HPF := Lib.hid hpf
      have HDQ := Lib.hid hdq
      clear hE hRd hpf hdq q0_ q1_ q2_ q3_ q4_ q5_ q6_ q7_ q8_ q9_ q10_ q11_ q12_
      go_wp2
      obtain ⟨t0, t1, t2, t3, t4, t5, -, -, -, -, -, -⟩ := hz
      exact bodyPost_ret (v := .agg (rqA Q)) (by simp [results, Tryd.results41, go_sem, t0, t1, t2, t3, t4, t5, rqA]) rfl ⟨Q, _, rfl, HDQ.out, HRd.out, HPF.out, HE.out⟩
    · have d1 : (cc == 1) = false := by simpa using e1
      by_cases e2 : cc = 2
      · subst e2
        go_wp2_with fail
        refine (numLA_any rb (p2 + 1) [-1, 48, 9223372036854775807] 3 (fun _ => True) w8 w8.heap.size _ _ rfl rfl rfl R_11.out (by omega) (by omega) (by omega) (by simp)).mono ?_; rintro e w13 ⟨u, p5, rfl, -, hr, hp5, hg⟩
        have q0_ := S_0.out
        have q1_ := S_1.out
        have q2_ := S_2.out
        have q3_ := S_3.out
        have q4_ := S_4.out
        have q5_ := S_5.out
        have q6_ := S_6.out
        have q7_ := S_7b.out
        have q8_ := S_8.out
        have q9_ := S_9.out
        have q10_ := S_11.out
        have ht := grown_btn hg
        have bA_12 := Lib.hid (bA_11.out.btn ht (by omega))
        have bR_12 := Lib.hid (bR_11.out.btn ht (by omega))
        have bQ_12 := Lib.hid (bQ_11.out.btn ht (by omega))
        have E_12 := Lib.hid (grown_trans E_11.out hg)
        have R_12 := Lib.hid (hr)
        have S_12 := Lib.hid ht.size
        clear bA_11 bR_11 bQ_11 E_11 R_11 hg hr ht q0_ q1_ q2_ q3_ q4_ q5_ q6_ q7_ q8_ q9_ q10_
        have hq6 := bQ_12.out
        obtain ⟨v0', v1', v2', v3', v4', v5', w0', w1', w2', w3', w4', w5'⟩ := hq6
        have q0_ := S_0.out
        have q1_ := S_1.out
        have q2_ := S_2.out
        have q3_ := S_3.out
        have q4_ := S_4.out
        have q5_ := S_5.out
        have q6_ := S_6.out
        have q7_ := S_7b.out
        have q8_ := S_8.out
        have q9_ := S_9.out
        have q10_ := S_11.out
        have q11_ := S_12.out
        obtain ⟨X14, hX14⟩ : ∃ X, w13.setCell ⟨w5.heap.size, 4, none⟩ (.int .i64 u) = X := ⟨_, rfl⟩
        have ht : Btn (w5.heap.size) (w5.heap.size + 1) w13 X14 := by rw [← hX14]; exact btn_set _ _ _ _
        have hB := bQ_12.out.set4 u
        rw [hX14] at hB
        have hE := grown_new E_12.out (show w.heap.size ≤ w5.heap.size by omega) (o := 4) (v := .int .i64 u)
        have hRd := R_12.out.set (show rb < w5.heap.size by omega) (o := 4) (u := .int .i64 u)
        rw [hX14] at hE hRd
        have bA_13 := Lib.hid (bA_12.out.btn ht (by omega))
        have bR_13 := Lib.hid (bR_12.out.btn ht (by omega))
        have E_13 := Lib.hid (hE)
        have R_13 := Lib.hid (hRd)
        have S_13 := Lib.hid ht.size
        clear bA_12 bR_12 E_12 R_12 ht hE hRd bQ_12 q0_ q1_ q2_ q3_ q4_ q5_ q6_ q7_ q8_ q9_ q10_ q11_
        have bQ_14 := Lib.hid hB
        clear hB
        have q0_ := S_0.out
        have q1_ := S_1.out
        have q2_ := S_2.out
        have q3_ := S_3.out
        have q4_ := S_4.out
        have q5_ := S_5.out
        have q6_ := S_6.out
        have q7_ := S_7b.out
        have q8_ := S_8.out
        have q9_ := S_9.out
        have q10_ := S_11.out
        have q11_ := S_12.out
        have q12_ := S_13.out
        obtain ⟨Q, HQ, hdq⟩ : ∃ Q : ReqT, Box6W X14 (w5.heap.size) Q ∧ Q.data.length ≤ 49 := ⟨_, bQ_14.out, by first | exact hdt | exact hdu⟩
        obtain ⟨x0, x1, x2, x3, x4, x5, -, -, -, -, -, -⟩ := HQ
        obtain ⟨s0, s1, s2, s3, s4, s5, f0, f1, f2, f3, f4, f5⟩ := bR_13.out
        have hz : Box6W ((((((X14.setCell ⟨w.heap.size + 1, 0, none⟩ (.int .i64 Q.who)).setCell ⟨w.heap.size + 1, 1, none⟩ (.int .i64 Q.ep)).setCell ⟨w.heap.size + 1, 2, none⟩ (.int .i64 Q.num)).setCell ⟨w.heap.size + 1, 3, none⟩ (.int .i64 Q.obj)).setCell ⟨w.heap.size + 1, 4, none⟩ (.int .i64 Q.pos)).setCell ⟨w.heap.size + 1, 5, none⟩ (.string (mkB Q.data))) (w.heap.size + 1) Q := by
          have h := (((((bR_13.out.set0 Q.who).set1 Q.ep).set2 Q.num).set3 Q.obj).set4 Q.pos).set5 Q.data
          exact h
        have hE := grown_new (grown_new (grown_new (grown_new (grown_new (grown_new E_13.out (show w.heap.size ≤ w.heap.size + 1 by omega) (o := 0) (v := .int .i64 Q.who)) (show w.heap.size ≤ w.heap.size + 1 by omega) (o := 1) (v := .int .i64 Q.ep)) (show w.heap.size ≤ w.heap.size + 1 by omega) (o := 2) (v := .int .i64 Q.num)) (show w.heap.size ≤ w.heap.size + 1 by omega) (o := 3) (v := .int .i64 Q.obj)) (show w.heap.size ≤ w.heap.size + 1 by omega) (o := 4) (v := .int .i64 Q.pos)) (show w.heap.size ≤ w.heap.size + 1 by omega) (o := 5) (v := .string (mkB Q.data))
        have hRd := (((((R_13.out.set (show rb < w.heap.size + 1 by omega) (o := 0) (u := .int .i64 Q.who)).set (show rb < w.heap.size + 1 by omega) (o := 1) (u := .int .i64 Q.ep)).set (show rb < w.heap.size + 1 by omega) (o := 2) (u := .int .i64 Q.num)).set (show rb < w.heap.size + 1 by omega) (o := 3) (u := .int .i64 Q.obj)).set (show rb < w.heap.size + 1 by omega) (o := 4) (u := .int .i64 Q.pos)).set (show rb < w.heap.size + 1 by omega) (o := 5) (u := .string (mkB Q.data))
        obtain ⟨Z, hZ⟩ : ∃ X, ((((((X14.setCell ⟨w.heap.size + 1, 0, none⟩ (.int .i64 Q.who)).setCell ⟨w.heap.size + 1, 1, none⟩ (.int .i64 Q.ep)).setCell ⟨w.heap.size + 1, 2, none⟩ (.int .i64 Q.num)).setCell ⟨w.heap.size + 1, 3, none⟩ (.int .i64 Q.obj)).setCell ⟨w.heap.size + 1, 4, none⟩ (.int .i64 Q.pos)).setCell ⟨w.heap.size + 1, 5, none⟩ (.string (mkB Q.data))) = X := ⟨_, rfl⟩
        rw [hZ] at hz hE hRd
        have HE := Lib.hid hE
        have HRd := Lib.hid hRd
        have hpf : p5 ≤ p + 20 := by omega
        have HPF := Lib.hid hpf
        have HDQ := Lib.hid hdq
        clear hE hRd hpf hdq q0_ q1_ q2_ q3_ q4_ q5_ q6_ q7_ q8_ q9_ q10_ q11_ q12_
        go_wp2
        obtain ⟨t0, t1, t2, t3, t4, t5, -, -, -, -, -, -⟩ := hz
        exact bodyPost_ret (v := .agg (rqA Q)) (by simp [results, Tryd.results41, go_sem, t0, t1, t2, t3, t4, t5, rqA]) rfl ⟨Q, _, rfl, HDQ.out, HRd.out, HPF.out, HE.out⟩
      · have d2 : (cc == 2) = false := by simpa using e2
        by_cases e3 : cc = 3
        · subst e3
          go_wp2_with fail
          refine (ofL_any rb (p2 + 1) [[], [65], [97, 32, 98]] 3 (fun l => l.length ≤ 49) w8 _ _ rfl rfl R_11.out (by omega) (by omega) (by omega) (by simp)).mono ?_; rintro e w15 ⟨u, p5, rfl, hdu, hr, hp5, hg⟩
          have q0_ := S_0.out
          have q1_ := S_1.out
          have q2_ := S_2.out
          have q3_ := S_3.out
          have q4_ := S_4.out
          have q5_ := S_5.out
          have q6_ := S_6.out
          have q7_ := S_7b.out
          have q8_ := S_8.out
          have q9_ := S_9.out
          have q10_ := S_11.out
          have ht := grown_btn hg
          have bA_12 := Lib.hid (bA_11.out.btn ht (by omega))
          have bR_12 := Lib.hid (bR_11.out.btn ht (by omega))
          have bQ_12 := Lib.hid (bQ_11.out.btn ht (by omega))
          have E_12 := Lib.hid (grown_trans E_11.out hg)
          have R_12 := Lib.hid (hr)
          have S_12 := Lib.hid ht.size
          clear bA_11 bR_11 bQ_11 E_11 R_11 hg hr ht q0_ q1_ q2_ q3_ q4_ q5_ q6_ q7_ q8_ q9_ q10_
          have hq6 := bQ_12.out
          obtain ⟨v0', v1', v2', v3', v4', v5', w0', w1', w2', w3', w4', w5'⟩ := hq6
          have q0_ := S_0.out
          have q1_ := S_1.out
          have q2_ := S_2.out
          have q3_ := S_3.out
          have q4_ := S_4.out
          have q5_ := S_5.out
          have q6_ := S_6.out
          have q7_ := S_7b.out
          have q8_ := S_8.out
          have q9_ := S_9.out
          have q10_ := S_11.out
          have q11_ := S_12.out
          obtain ⟨X16, hX16⟩ : ∃ X, w15.setCell ⟨w5.heap.size, 5, none⟩ (.string (mkB u)) = X := ⟨_, rfl⟩
          have ht : Btn (w5.heap.size) (w5.heap.size + 1) w15 X16 := by rw [← hX16]; exact btn_set _ _ _ _
          have hB := bQ_12.out.set5 u
          rw [hX16] at hB
          have hE := grown_new E_12.out (show w.heap.size ≤ w5.heap.size by omega) (o := 5) (v := .string (mkB u))
          have hRd := R_12.out.set (show rb < w5.heap.size by omega) (o := 5) (u := .string (mkB u))
          rw [hX16] at hE hRd
          have bA_13 := Lib.hid (bA_12.out.btn ht (by omega))
          have bR_13 := Lib.hid (bR_12.out.btn ht (by omega))
          have E_13 := Lib.hid (hE)
          have R_13 := Lib.hid (hRd)
          have S_13 := Lib.hid ht.size
          clear bA_12 bR_12 E_12 R_12 ht hE hRd bQ_12 q0_ q1_ q2_ q3_ q4_ q5_ q6_ q7_ q8_ q9_ q10_ q11_
          have bQ_14 := Lib.hid hB
          clear hB
          have q0_ := S_0.out
          have q1_ := S_1.out
          have q2_ := S_2.out
          have q3_ := S_3.out
          have q4_ := S_4.out
          have q5_ := S_5.out
          have q6_ := S_6.out
          have q7_ := S_7b.out
          have q8_ := S_8.out
          have q9_ := S_9.out
          have q10_ := S_11.out
          have q11_ := S_12.out
          have q12_ := S_13.out
          obtain ⟨Q, HQ, hdq⟩ : ∃ Q : ReqT, Box6W X16 (w5.heap.size) Q ∧ Q.data.length ≤ 49 := ⟨_, bQ_14.out, by first | exact hdt | exact hdu⟩
          obtain ⟨x0, x1, x2, x3, x4, x5, -, -, -, -, -, -⟩ := HQ
          obtain ⟨s0, s1, s2, s3, s4, s5, f0, f1, f2, f3, f4, f5⟩ := bR_13.out
          have hz : Box6W ((((((X16.setCell ⟨w.heap.size + 1, 0, none⟩ (.int .i64 Q.who)).setCell ⟨w.heap.size + 1, 1, none⟩ (.int .i64 Q.ep)).setCell ⟨w.heap.size + 1, 2, none⟩ (.int .i64 Q.num)).setCell ⟨w.heap.size + 1, 3, none⟩ (.int .i64 Q.obj)).setCell ⟨w.heap.size + 1, 4, none⟩ (.int .i64 Q.pos)).setCell ⟨w.heap.size + 1, 5, none⟩ (.string (mkB Q.data))) (w.heap.size + 1) Q := by
            have h := (((((bR_13.out.set0 Q.who).set1 Q.ep).set2 Q.num).set3 Q.obj).set4 Q.pos).set5 Q.data
            exact h
          have hE := grown_new (grown_new (grown_new (grown_new (grown_new (grown_new E_13.out (show w.heap.size ≤ w.heap.size + 1 by omega) (o := 0) (v := .int .i64 Q.who)) (show w.heap.size ≤ w.heap.size + 1 by omega) (o := 1) (v := .int .i64 Q.ep)) (show w.heap.size ≤ w.heap.size + 1 by omega) (o := 2) (v := .int .i64 Q.num)) (show w.heap.size ≤ w.heap.size + 1 by omega) (o := 3) (v := .int .i64 Q.obj)) (show w.heap.size ≤ w.heap.size + 1 by omega) (o := 4) (v := .int .i64 Q.pos)) (show w.heap.size ≤ w.heap.size + 1 by omega) (o := 5) (v := .string (mkB Q.data))
          have hRd := (((((R_13.out.set (show rb < w.heap.size + 1 by omega) (o := 0) (u := .int .i64 Q.who)).set (show rb < w.heap.size + 1 by omega) (o := 1) (u := .int .i64 Q.ep)).set (show rb < w.heap.size + 1 by omega) (o := 2) (u := .int .i64 Q.num)).set (show rb < w.heap.size + 1 by omega) (o := 3) (u := .int .i64 Q.obj)).set (show rb < w.heap.size + 1 by omega) (o := 4) (u := .int .i64 Q.pos)).set (show rb < w.heap.size + 1 by omega) (o := 5) (u := .string (mkB Q.data))
          obtain ⟨Z, hZ⟩ : ∃ X, ((((((X16.setCell ⟨w.heap.size + 1, 0, none⟩ (.int .i64 Q.who)).setCell ⟨w.heap.size + 1, 1, none⟩ (.int .i64 Q.ep)).setCell ⟨w.heap.size + 1, 2, none⟩ (.int .i64 Q.num)).setCell ⟨w.heap.size + 1, 3, none⟩ (.int .i64 Q.obj)).setCell ⟨w.heap.size + 1, 4, none⟩ (.int .i64 Q.pos)).setCell ⟨w.heap.size + 1, 5, none⟩ (.string (mkB Q.data))) = X := ⟨_, rfl⟩
          rw [hZ] at hz hE hRd
          have HE := Lib.hid hE
          have HRd := Lib.hid hRd
          have hpf : p5 ≤ p + 20 := by omega
          have HPF := Lib.hid hpf
          have HDQ := Lib.hid hdq
          clear hE hRd hpf hdq q0_ q1_ q2_ q3_ q4_ q5_ q6_ q7_ q8_ q9_ q10_ q11_ q12_
          go_wp2
          obtain ⟨t0, t1, t2, t3, t4, t5, -, -, -, -, -, -⟩ := hz
          exact bodyPost_ret (v := .agg (rqA Q)) (by simp [results, Tryd.results41, go_sem, t0, t1, t2, t3, t4, t5, rqA]) rfl ⟨Q, _, rfl, HDQ.out, HRd.out, HPF.out, HE.out⟩
        · have d3 : (cc == 3) = false := by simpa using e3
          by_cases e4 : cc = 4
          · subst e4
            go_wp2_with fail
            refine (numLA_any rb (p2 + 1) [0, -1, 1001] 3 (fun _ => True) w8 w8.heap.size _ _ rfl rfl rfl R_11.out (by omega) (by omega) (by omega) (by simp)).mono ?_; rintro e w17 ⟨u, p5, rfl, -, hr, hp5, hg⟩
            have q0_ := S_0.out
            have q1_ := S_1.out
            have q2_ := S_2.out
            have q3_ := S_3.out
            have q4_ := S_4.out
            have q5_ := S_5.out
            have q6_ := S_6.out
            have q7_ := S_7b.out
            have q8_ := S_8.out
            have q9_ := S_9.out
            have q10_ := S_11.out
            have ht := grown_btn hg
            have bA_12 := Lib.hid (bA_11.out.btn ht (by omega))
            have bR_12 := Lib.hid (bR_11.out.btn ht (by omega))
            have bQ_12 := Lib.hid (bQ_11.out.btn ht (by omega))
            have E_12 := Lib.hid (grown_trans E_11.out hg)
            have R_12 := Lib.hid (hr)
            have S_12 := Lib.hid ht.size
            clear bA_11 bR_11 bQ_11 E_11 R_11 hg hr ht q0_ q1_ q2_ q3_ q4_ q5_ q6_ q7_ q8_ q9_ q10_
            have hq6 := bQ_12.out
            obtain ⟨v0', v1', v2', v3', v4', v5', w0', w1', w2', w3', w4', w5'⟩ := hq6
            have q0_ := S_0.out
            have q1_ := S_1.out
            have q2_ := S_2.out
            have q3_ := S_3.out
            have q4_ := S_4.out
            have q5_ := S_5.out
            have q6_ := S_6.out
            have q7_ := S_7b.out
            have q8_ := S_8.out
            have q9_ := S_9.out
            have q10_ := S_11.out
            have q11_ := S_12.out
            obtain ⟨X18, hX18⟩ : ∃ X, w17.setCell ⟨w5.heap.size, 2, none⟩ (.int .i64 u) = X := ⟨_, rfl⟩
            have ht : Btn (w5.heap.size) (w5.heap.size + 1) w17 X18 := by rw [← hX18]; exact btn_set _ _ _ _
            have hB := bQ_12.out.set2 u
            rw [hX18] at hB
            have hE := grown_new E_12.out (show w.heap.size ≤ w5.heap.size by omega) (o := 2) (v := .int .i64 u)
            have hRd := R_12.out.set (show rb < w5.heap.size by omega) (o := 2) (u := .int .i64 u)
            rw [hX18] at hE hRd
            have bA_13 := Lib.hid (bA_12.out.btn ht (by omega))
            have bR_13 := Lib.hid (bR_12.out.btn ht (by omega))
            have E_13 := Lib.hid (hE)
            have R_13 := Lib.hid (hRd)
            have S_13 := Lib.hid ht.size
            clear bA_12 bR_12 E_12 R_12 ht hE hRd bQ_12 q0_ q1_ q2_ q3_ q4_ q5_ q6_ q7_ q8_ q9_ q10_ q11_
            have bQ_14 := Lib.hid hB
            clear hB
            have q0_ := S_0.out
            have q1_ := S_1.out
            have q2_ := S_2.out
            have q3_ := S_3.out
            have q4_ := S_4.out
            have q5_ := S_5.out
            have q6_ := S_6.out
            have q7_ := S_7b.out
            have q8_ := S_8.out
            have q9_ := S_9.out
            have q10_ := S_11.out
            have q11_ := S_12.out
            have q12_ := S_13.out
            obtain ⟨Q, HQ, hdq⟩ : ∃ Q : ReqT, Box6W X18 (w5.heap.size) Q ∧ Q.data.length ≤ 49 := ⟨_, bQ_14.out, by first | exact hdt | exact hdu⟩
            obtain ⟨x0, x1, x2, x3, x4, x5, -, -, -, -, -, -⟩ := HQ
            obtain ⟨s0, s1, s2, s3, s4, s5, f0, f1, f2, f3, f4, f5⟩ := bR_13.out
            have hz : Box6W ((((((X18.setCell ⟨w.heap.size + 1, 0, none⟩ (.int .i64 Q.who)).setCell ⟨w.heap.size + 1, 1, none⟩ (.int .i64 Q.ep)).setCell ⟨w.heap.size + 1, 2, none⟩ (.int .i64 Q.num)).setCell ⟨w.heap.size + 1, 3, none⟩ (.int .i64 Q.obj)).setCell ⟨w.heap.size + 1, 4, none⟩ (.int .i64 Q.pos)).setCell ⟨w.heap.size + 1, 5, none⟩ (.string (mkB Q.data))) (w.heap.size + 1) Q := by
              have h := (((((bR_13.out.set0 Q.who).set1 Q.ep).set2 Q.num).set3 Q.obj).set4 Q.pos).set5 Q.data
              exact h
            have hE := grown_new (grown_new (grown_new (grown_new (grown_new (grown_new E_13.out (show w.heap.size ≤ w.heap.size + 1 by omega) (o := 0) (v := .int .i64 Q.who)) (show w.heap.size ≤ w.heap.size + 1 by omega) (o := 1) (v := .int .i64 Q.ep)) (show w.heap.size ≤ w.heap.size + 1 by omega) (o := 2) (v := .int .i64 Q.num)) (show w.heap.size ≤ w.heap.size + 1 by omega) (o := 3) (v := .int .i64 Q.obj)) (show w.heap.size ≤ w.heap.size + 1 by omega) (o := 4) (v := .int .i64 Q.pos)) (show w.heap.size ≤ w.heap.size + 1 by omega) (o := 5) (v := .string (mkB Q.data))
            have hRd := (((((R_13.out.set (show rb < w.heap.size + 1 by omega) (o := 0) (u := .int .i64 Q.who)).set (show rb < w.heap.size + 1 by omega) (o := 1) (u := .int .i64 Q.ep)).set (show rb < w.heap.size + 1 by omega) (o := 2) (u := .int .i64 Q.num)).set (show rb < w.heap.size + 1 by omega) (o := 3) (u := .int .i64 Q.obj)).set (show rb < w.heap.size + 1 by omega) (o := 4) (u := .int .i64 Q.pos)).set (show rb < w.heap.size + 1 by omega) (o := 5) (u := .string (mkB Q.data))
            obtain ⟨Z, hZ⟩ : ∃ X, ((((((X18.setCell ⟨w.heap.size + 1, 0, none⟩ (.int .i64 Q.who)).setCell ⟨w.heap.size + 1, 1, none⟩ (.int .i64 Q.ep)).setCell ⟨w.heap.size + 1, 2, none⟩ (.int .i64 Q.num)).setCell ⟨w.heap.size + 1, 3, none⟩ (.int .i64 Q.obj)).setCell ⟨w.heap.size + 1, 4, none⟩ (.int .i64 Q.pos)).setCell ⟨w.heap.size + 1, 5, none⟩ (.string (mkB Q.data))) = X := ⟨_, rfl⟩
            rw [hZ] at hz hE hRd
            have HE := Lib.hid hE
            have HRd := Lib.hid hRd
            have hpf : p5 ≤ p + 20 := by omega
            have HPF := Lib.hid hpf
            have HDQ := Lib.hid hdq
            clear hE hRd hpf hdq q0_ q1_ q2_ q3_ q4_ q5_ q6_ q7_ q8_ q9_ q10_ q11_ q12_
            go_wp2
            obtain ⟨t0, t1, t2, t3, t4, t5, -, -, -, -, -, -⟩ := hz
            exact bodyPost_ret (v := .agg (rqA Q)) (by simp [results, Tryd.results41, go_sem, t0, t1, t2, t3, t4, t5, rqA]) rfl ⟨Q, _, rfl, HDQ.out, HRd.out, HPF.out, HE.out⟩
          · have d4 : (cc == 4) = false := by simpa using e4
            by_cases e5 : cc = 5
            · subst e5
              go_wp2_with fail
              refine (numLA_any rb (p2 + 1) [-1, 101] 2 (fun _ => True) w8 w8.heap.size _ _ rfl rfl rfl R_11.out (by omega) (by omega) (by omega) (by simp)).mono ?_; rintro e w19 ⟨u, p5, rfl, -, hr, hp5, hg⟩
              have q0_ := S_0.out
              have q1_ := S_1.out
              have q2_ := S_2.out
              have q3_ := S_3.out
              have q4_ := S_4.out
              have q5_ := S_5.out
              have q6_ := S_6.out
              have q7_ := S_7b.out
              have q8_ := S_8.out
              have q9_ := S_9.out
              have q10_ := S_11.out
              have ht := grown_btn hg
              have bA_12 := Lib.hid (bA_11.out.btn ht (by omega))
              have bR_12 := Lib.hid (bR_11.out.btn ht (by omega))
              have bQ_12 := Lib.hid (bQ_11.out.btn ht (by omega))
              have E_12 := Lib.hid (grown_trans E_11.out hg)
              have R_12 := Lib.hid (hr)
              have S_12 := Lib.hid ht.size
              clear bA_11 bR_11 bQ_11 E_11 R_11 hg hr ht q0_ q1_ q2_ q3_ q4_ q5_ q6_ q7_ q8_ q9_ q10_
              have hq6 := bQ_12.out
              obtain ⟨v0', v1', v2', v3', v4', v5', w0', w1', w2', w3', w4', w5'⟩ := hq6
              have q0_ := S_0.out
              have q1_ := S_1.out
              have q2_ := S_2.out
              have q3_ := S_3.out
              have q4_ := S_4.out
              have q5_ := S_5.out
              have q6_ := S_6.out
              have q7_ := S_7b.out
              have q8_ := S_8.out
              have q9_ := S_9.out
              have q10_ := S_11.out
              have q11_ := S_12.out
              obtain ⟨X20, hX20⟩ : ∃ X, w19.setCell ⟨w5.heap.size, 1, none⟩ (.int .i64 u) = X := ⟨_, rfl⟩
              have ht : Btn (w5.heap.size) (w5.heap.size + 1) w19 X20 := by rw [← hX20]; exact btn_set _ _ _ _
              have hB := bQ_12.out.set1 u
              rw [hX20] at hB
              have hE := grown_new E_12.out (show w.heap.size ≤ w5.heap.size by omega) (o := 1) (v := .int .i64 u)
              have hRd := R_12.out.set (show rb < w5.heap.size by omega) (o := 1) (u := .int .i64 u)
              rw [hX20] at hE hRd
              have bA_13 := Lib.hid (bA_12.out.btn ht (by omega))
              have bR_13 := Lib.hid (bR_12.out.btn ht (by omega))
              have E_13 := Lib.hid (hE)
              have R_13 := Lib.hid (hRd)
              have S_13 := Lib.hid ht.size
              clear bA_12 bR_12 E_12 R_12 ht hE hRd bQ_12 q0_ q1_ q2_ q3_ q4_ q5_ q6_ q7_ q8_ q9_ q10_ q11_
              have bQ_14 := Lib.hid hB
              clear hB
              have q0_ := S_0.out
              have q1_ := S_1.out
              have q2_ := S_2.out
              have q3_ := S_3.out
              have q4_ := S_4.out
              have q5_ := S_5.out
              have q6_ := S_6.out
              have q7_ := S_7b.out
              have q8_ := S_8.out
              have q9_ := S_9.out
              have q10_ := S_11.out
              have q11_ := S_12.out
              have q12_ := S_13.out
              obtain ⟨Q, HQ, hdq⟩ : ∃ Q : ReqT, Box6W X20 (w5.heap.size) Q ∧ Q.data.length ≤ 49 := ⟨_, bQ_14.out, by first | exact hdt | exact hdu⟩
              obtain ⟨x0, x1, x2, x3, x4, x5, -, -, -, -, -, -⟩ := HQ
              obtain ⟨s0, s1, s2, s3, s4, s5, f0, f1, f2, f3, f4, f5⟩ := bR_13.out
              have hz : Box6W ((((((X20.setCell ⟨w.heap.size + 1, 0, none⟩ (.int .i64 Q.who)).setCell ⟨w.heap.size + 1, 1, none⟩ (.int .i64 Q.ep)).setCell ⟨w.heap.size + 1, 2, none⟩ (.int .i64 Q.num)).setCell ⟨w.heap.size + 1, 3, none⟩ (.int .i64 Q.obj)).setCell ⟨w.heap.size + 1, 4, none⟩ (.int .i64 Q.pos)).setCell ⟨w.heap.size + 1, 5, none⟩ (.string (mkB Q.data))) (w.heap.size + 1) Q := by
                have h := (((((bR_13.out.set0 Q.who).set1 Q.ep).set2 Q.num).set3 Q.obj).set4 Q.pos).set5 Q.data
                exact h
              have hE := grown_new (grown_new (grown_new (grown_new (grown_new (grown_new E_13.out (show w.heap.size ≤ w.heap.size + 1 by omega) (o := 0) (v := .int .i64 Q.who)) (show w.heap.size ≤ w.heap.size + 1 by omega) (o := 1) (v := .int .i64 Q.ep)) (show w.heap.size ≤ w.heap.size + 1 by omega) (o := 2) (v := .int .i64 Q.num)) (show w.heap.size ≤ w.heap.size + 1 by omega) (o := 3) (v := .int .i64 Q.obj)) (show w.heap.size ≤ w.heap.size + 1 by omega) (o := 4) (v := .int .i64 Q.pos)) (show w.heap.size ≤ w.heap.size + 1 by omega) (o := 5) (v := .string (mkB Q.data))
              have hRd := (((((R_13.out.set (show rb < w.heap.size + 1 by omega) (o := 0) (u := .int .i64 Q.who)).set (show rb < w.heap.size + 1 by omega) (o := 1) (u := .int .i64 Q.ep)).set (show rb < w.heap.size + 1 by omega) (o := 2) (u := .int .i64 Q.num)).set (show rb < w.heap.size + 1 by omega) (o := 3) (u := .int .i64 Q.obj)).set (show rb < w.heap.size + 1 by omega) (o := 4) (u := .int .i64 Q.pos)).set (show rb < w.heap.size + 1 by omega) (o := 5) (u := .string (mkB Q.data))
              obtain ⟨Z, hZ⟩ : ∃ X, ((((((X20.setCell ⟨w.heap.size + 1, 0, none⟩ (.int .i64 Q.who)).setCell ⟨w.heap.size + 1, 1, none⟩ (.int .i64 Q.ep)).setCell ⟨w.heap.size + 1, 2, none⟩ (.int .i64 Q.num)).setCell ⟨w.heap.size + 1, 3, none⟩ (.int .i64 Q.obj)).setCell ⟨w.heap.size + 1, 4, none⟩ (.int .i64 Q.pos)).setCell ⟨w.heap.size + 1, 5, none⟩ (.string (mkB Q.data))) = X := ⟨_, rfl⟩
              rw [hZ] at hz hE hRd
              have HE := Lib.hid hE
              have HRd := Lib.hid hRd
              have hpf : p5 ≤ p + 20 := by omega
              have HPF := Lib.hid hpf
              have HDQ := Lib.hid hdq
              clear hE hRd hpf hdq q0_ q1_ q2_ q3_ q4_ q5_ q6_ q7_ q8_ q9_ q10_ q11_ q12_
              go_wp2
              obtain ⟨t0, t1, t2, t3, t4, t5, -, -, -, -, -, -⟩ := hz
              exact bodyPost_ret (v := .agg (rqA Q)) (by simp [results, Tryd.results41, go_sem, t0, t1, t2, t3, t4, t5, rqA]) rfl ⟨Q, _, rfl, HDQ.out, HRd.out, HPF.out, HE.out⟩
            · have d5 : (cc == 5) = false := by simpa using e5
              have q0_ := S_0.out
              have q1_ := S_1.out
              have q2_ := S_2.out
              have q3_ := S_3.out
              have q4_ := S_4.out
              have q5_ := S_5.out
              have q6_ := S_6.out
              have q7_ := S_7b.out
              have q8_ := S_8.out
              have q9_ := S_9.out
              have q10_ := S_11.out
              obtain ⟨Q, HQ, hdq⟩ : ∃ Q : ReqT, Box6W w8 (w5.heap.size) Q ∧ Q.data.length ≤ 49 := ⟨_, bQ_11.out, by first | exact hdt | exact hdu⟩
              obtain ⟨x0, x1, x2, x3, x4, x5, -, -, -, -, -, -⟩ := HQ
              obtain ⟨s0, s1, s2, s3, s4, s5, f0, f1, f2, f3, f4, f5⟩ := bR_11.out
              have hz : Box6W ((((((w8.setCell ⟨w.heap.size + 1, 0, none⟩ (.int .i64 Q.who)).setCell ⟨w.heap.size + 1, 1, none⟩ (.int .i64 Q.ep)).setCell ⟨w.heap.size + 1, 2, none⟩ (.int .i64 Q.num)).setCell ⟨w.heap.size + 1, 3, none⟩ (.int .i64 Q.obj)).setCell ⟨w.heap.size + 1, 4, none⟩ (.int .i64 Q.pos)).setCell ⟨w.heap.size + 1, 5, none⟩ (.string (mkB Q.data))) (w.heap.size + 1) Q := by
                have h := (((((bR_11.out.set0 Q.who).set1 Q.ep).set2 Q.num).set3 Q.obj).set4 Q.pos).set5 Q.data
                exact h
              have hE := grown_new (grown_new (grown_new (grown_new (grown_new (grown_new E_11.out (show w.heap.size ≤ w.heap.size + 1 by omega) (o := 0) (v := .int .i64 Q.who)) (show w.heap.size ≤ w.heap.size + 1 by omega) (o := 1) (v := .int .i64 Q.ep)) (show w.heap.size ≤ w.heap.size + 1 by omega) (o := 2) (v := .int .i64 Q.num)) (show w.heap.size ≤ w.heap.size + 1 by omega) (o := 3) (v := .int .i64 Q.obj)) (show w.heap.size ≤ w.heap.size + 1 by omega) (o := 4) (v := .int .i64 Q.pos)) (show w.heap.size ≤ w.heap.size + 1 by omega) (o := 5) (v := .string (mkB Q.data))
              have hRd := (((((R_11.out.set (show rb < w.heap.size + 1 by omega) (o := 0) (u := .int .i64 Q.who)).set (show rb < w.heap.size + 1 by omega) (o := 1) (u := .int .i64 Q.ep)).set (show rb < w.heap.size + 1 by omega) (o := 2) (u := .int .i64 Q.num)).set (show rb < w.heap.size + 1 by omega) (o := 3) (u := .int .i64 Q.obj)).set (show rb < w.heap.size + 1 by omega) (o := 4) (u := .int .i64 Q.pos)).set (show rb < w.heap.size + 1 by omega) (o := 5) (u := .string (mkB Q.data))
              obtain ⟨Z, hZ⟩ : ∃ X, ((((((w8.setCell ⟨w.heap.size + 1, 0, none⟩ (.int .i64 Q.who)).setCell ⟨w.heap.size + 1, 1, none⟩ (.int .i64 Q.ep)).setCell ⟨w.heap.size + 1, 2, none⟩ (.int .i64 Q.num)).setCell ⟨w.heap.size + 1, 3, none⟩ (.int .i64 Q.obj)).setCell ⟨w.heap.size + 1, 4, none⟩ (.int .i64 Q.pos)).setCell ⟨w.heap.size + 1, 5, none⟩ (.string (mkB Q.data))) = X := ⟨_, rfl⟩
              rw [hZ] at hz hE hRd
              have HE := Lib.hid hE
              have HRd := Lib.hid hRd
              have hpf : p2 + 1 ≤ p + 20 := by omega
              have HPF := Lib.hid hpf
              have HDQ := Lib.hid hdq
              clear hE hRd hpf hdq q0_ q1_ q2_ q3_ q4_ q5_ q6_ q7_ q8_ q9_ q10_
              go_wp2
              obtain ⟨t0, t1, t2, t3, t4, t5, -, -, -, -, -, -⟩ := hz
              exact bodyPost_ret (v := .agg (rqA Q)) (by simp [results, Tryd.results41, go_sem, t0, t1, t2, t3, t4, t5, rqA]) rfl ⟨Q, _, rfl, HDQ.out, HRd.out, HPF.out, HE.out⟩

end Go.Proofs.YtadoihddmbbjoaaDoor

namespace Go.Proofs.YtadoihddmbbjoaaDoor
open Go.RowKit

set_option maxRecDepth 100000 in
set_option maxHeartbeats 8000000 in
theorem l5Ask_b (rb p : Nat) (v0 v1 v2 v3 v4 : Value) (S : StT) (w : World) (h : Rd w rb p) (hp : p ≤ 600000000) (hst : ∀ w1, w.grownBy w1 (some rb) → Sto w1 v0 v1 v2 v3 v4 S) (hl3 : S.last.length ≠ 3) (hf3 : S.floors.length = 3) :
    Calls Tryd.prog 41 #[.pointer (some ⟨rb, 0, none⟩), .agg #[v0, v1, v2, v3, v4]] w (Rqd w rb p 20) := by
  have hst0 := hst w ⟨rfl, rfl, rfl, Nat.le_refl _, fun _ _ _ => rfl⟩
  obtain ⟨a0, c0, rfl⟩ := hst0.now.form
  obtain ⟨a1, c1, rfl⟩ := hst0.sure.form
  obtain ⟨a3, c3, rfl⟩ := hst0.slast.form
  obtain ⟨a2, c2, rfl⟩ := hst0.last.form
  obtain ⟨nl, hnl⟩ : ∃ n, S.last.length = n := ⟨_, rfl⟩
  rw [hnl] at hst ⊢ hl3
  have d2 : ((nl : Int) == 3) = false := by simp; omega
  obtain ⟨b4, o4, c4, rfl⟩ := vls_some hst0.floors (by omega)
  have hb4 : b4 < w.heap.size := World.block_lt_of_cell? w _ (vls_at hst0.floors (i := 0) (by omega))
  rw [hf3] at hst ⊢
  clear hst0
  have hrb := h.lt'
  obtain ⟨W, hW⟩ : ∃ W, (w.alloc (.cells #[.slice a0 S.now.length c0, .slice a1 S.sure.length c1, .slice a2 nl c2, .slice a3 S.slast.length c3, .slice (some ⟨b4, o4, none⟩) 3 c4] 30)).alloc (.cells #[.int .i64 0, .int .i64 0, .int .i64 0, .int .i64 0, .int .i64 0, .string ⟨#[]⟩] 34) = W := ⟨_, rfl⟩
  have hal : Below w.heap.size w W := by rw [← hW]; exact ((Below.refl _ _).alloc (Nat.le_refl _) _).alloc (by simp) _
  have A0 : Box5 W w.heap.size (.slice a0 S.now.length c0) (.slice a1 S.sure.length c1) (.slice a2 nl c2) (.slice a3 S.slast.length c3) (.slice (some ⟨b4, o4, none⟩) 3 c4) := by rw [← hW]; exact (new_box5 w _ _ _ _ _ _).keep ((Below.refl _ _).alloc (Nat.le_refl _) _)
  have R0 : Box6W W (w.heap.size + 1) ⟨0, 0, 0, 0, 0, []⟩ := by
    rw [← hW, show w.heap.size + 1 = (w.alloc (.cells #[.slice a0 S.now.length c0, .slice a1 S.sure.length c1, .slice a2 nl c2, .slice a3 S.slast.length c3, .slice (some ⟨b4, o4, none⟩) 3 c4] 30)).heap.size by simp]
    exact new_box6W _ ⟨0, 0, 0, 0, 0, []⟩ _
  have hl : w.heap.size + 1 < W.heap.size := by rw [← hW]; simp
  have E_0 := Lib.hid (grown_below hal (some rb))
  have R_0 := Lib.hid (h.keep hal)
  have S_0 := Lib.hid hl
  have bA_0 := Lib.hid A0
  have bR_0 := Lib.hid R0
  have HST := Lib.hid hst
  have HL3 := Lib.hid hl3
  have HF3 := Lib.hid hf3
  clear hal A0 R0 hl h hst hl3 hf3 hnl
  go_enter Tryd.func41, Tryd.ntmps41
  go_wp2_with fail
  refine (pick_any rb (p) 3 _ R_0.out (by omega) (by omega) (by omega)).mono ?_; rintro e w1 ⟨k, rfl, k0, k1, hr, hg⟩
  clear hW
  have q0_ := S_0.out
  have ht := grown_btn hg
  have bA_1 := Lib.hid (bA_0.out.btn ht (by omega))
  have bR_1 := Lib.hid (bR_0.out.btn ht (by omega))
  have E_1 := Lib.hid (grown_trans E_0.out hg)
  have R_1 := Lib.hid (hr)
  have S_1 := Lib.hid ht.size
  clear bA_0 bR_0 E_0 R_0 hg hr ht q0_
  replace k1 := k1 (by omega)
  obtain ⟨k, rfl⟩ : ∃ m : Nat, k = m := ⟨k.toNat, by omega⟩
  have k3 : k < 3 := by omega
  go_wp2_with fail
  refine (pick_any rb (p + 1) 4 _ R_1.out (by omega) (by omega) (by omega)).mono ?_; rintro e w2 ⟨ep, rfl, ep0, ep1, hr, hg⟩
  have q0_ := S_0.out
  have q1_ := S_1.out
  have ht := grown_btn hg
  have bA_2 := Lib.hid (bA_1.out.btn ht (by omega))
  have bR_2 := Lib.hid (bR_1.out.btn ht (by omega))
  have E_2 := Lib.hid (grown_trans E_1.out hg)
  have R_2 := Lib.hid (hr)
  have S_2 := Lib.hid ht.size
  clear bA_1 bR_1 E_1 R_1 hg hr ht q0_ q1_
  replace ep1 := ep1 (by omega)
  go_wp2_with fail
  refine (pick_any rb (p + 1 + 1) 3 _ R_2.out (by omega) (by omega) (by omega)).mono ?_; rintro e w3 ⟨ob, rfl, ob0, ob1, hr, hg⟩
  have q0_ := S_0.out
  have q1_ := S_1.out
  have q2_ := S_2.out
  have ht := grown_btn hg
  have bA_3 := Lib.hid (bA_2.out.btn ht (by omega))
  have bR_3 := Lib.hid (bR_2.out.btn ht (by omega))
  have E_3 := Lib.hid (grown_trans E_2.out hg)
  have R_3 := Lib.hid (hr)
  have S_3 := Lib.hid ht.size
  clear bA_2 bR_2 E_2 R_2 hg hr ht q0_ q1_ q2_
  replace ob1 := ob1 (by omega)
  go_wp2_with fail
  refine (pick_any rb (p + 1 + 1 + 1) 16 _ R_3.out (by omega) (by omega) (by omega)).mono ?_; rintro e w4 ⟨at_, rfl, at_0, at_1, hr, hg⟩
  have q0_ := S_0.out
  have q1_ := S_1.out
  have q2_ := S_2.out
  have q3_ := S_3.out
  have ht := grown_btn hg
  have bA_4 := Lib.hid (bA_3.out.btn ht (by omega))
  have bR_4 := Lib.hid (bR_3.out.btn ht (by omega))
  have E_4 := Lib.hid (grown_trans E_3.out hg)
  have R_4 := Lib.hid (hr)
  have S_4 := Lib.hid ht.size
  clear bA_3 bR_3 E_3 R_3 hg hr ht q0_ q1_ q2_ q3_
  replace at_1 := at_1 (by omega)
  go_wp2_with fail
  refine (ofL_any rb (p + 1 + 1 + 1 + 1) [[120], [97, 98], [113, 55, 46], [109, 110, 111, 112]] 4 (fun l => l.length ≤ 49) w4 _ _ rfl rfl R_4.out (by omega) (by omega) (by omega) (by simp)).mono ?_; rintro e w5 ⟨dt, p1, rfl, hdt, hr, hp1, hg⟩
  have q0_ := S_0.out
  have q1_ := S_1.out
  have q2_ := S_2.out
  have q3_ := S_3.out
  have q4_ := S_4.out
  have ht := grown_btn hg
  have bA_5 := Lib.hid (bA_4.out.btn ht (by omega))
  have bR_5 := Lib.hid (bR_4.out.btn ht (by omega))
  have E_5 := Lib.hid (grown_trans E_4.out hg)
  have R_5 := Lib.hid (hr)
  have S_5 := Lib.hid ht.size
  clear bA_4 bR_4 E_4 R_4 hg hr ht q0_ q1_ q2_ q3_ q4_
  obtain ⟨X6, hX6⟩ : ∃ X, w5.alloc (.cells #[.int .i64 k, .int .i64 ep, .int .i64 1, .int .i64 ob, .int .i64 at_, .string (mkB dt)] 34) = X := ⟨_, rfl⟩
  have hb : Below w5.heap.size w5 X6 := by rw [← hX6]; exact (Below.refl _ _).alloc (Nat.le_refl _) _
  have hB : Box6W X6 w5.heap.size ⟨k, ep, 1, ob, at_, dt⟩ := by rw [← hX6]; exact new_box6W w5 ⟨k, ep, 1, ob, at_, dt⟩ _
  have hl : w5.heap.size < X6.heap.size := by rw [← hX6]; simp
  have bA_6 := Lib.hid (bA_5.out.keep hb)
  have bR_6 := Lib.hid (bR_5.out.keep hb)
  have E_6 := Lib.hid (grown_trans E_5.out (grown_below hb _))
  have R_6 := Lib.hid (R_5.out.keep hb)
  have S_6 := Lib.hid hb.size
  clear bA_5 bR_5 E_5 R_5 hb
  have bQ_7 := Lib.hid hB
  have S_7b := Lib.hid hl
  clear hB hl
  have j3 : ((3 : Int) == 3) = true := rfl
  obtain ⟨x0_0, x0_1, x0_2, x0_3, x0_4⟩ := bA_6.out
  go_wp2_with fail
  refine (pick_any rb (p1) 3 _ R_6.out (by omega) (by omega) (by omega)).mono ?_; rintro e w7 ⟨fl, rfl, fl0, fl1, hr, hg⟩
  clear hX6
  have q0_ := S_0.out
  have q1_ := S_1.out
  have q2_ := S_2.out
  have q3_ := S_3.out
  have q4_ := S_4.out
  have q5_ := S_5.out
  have q6_ := S_6.out
  have q7_ := S_7b.out
  have ht := grown_btn hg
  have bA_8 := Lib.hid (bA_6.out.btn ht (by omega))
  have bR_8 := Lib.hid (bR_6.out.btn ht (by omega))
  have bQ_8 := Lib.hid (bQ_7.out.btn ht (by omega))
  have E_8 := Lib.hid (grown_trans E_6.out hg)
  have R_8 := Lib.hid (hr)
  have S_8 := Lib.hid ht.size
  clear x0_0 x0_1 x0_2 x0_3 x0_4
  clear bA_6 bR_6 bQ_7 E_6 R_6 hg hr ht q0_ q1_ q2_ q3_ q4_ q5_ q6_ q7_
  replace fl1 := fl1 (by omega)
  by_cases ef : 0 < fl
  · have df : decide (0 < fl) = true := by simpa using ef
    obtain ⟨Lfloors, hLfloors⟩ : ∃ m, S.floors.getD k 0 = m := ⟨_, rfl⟩
    have HVfloors := Lib.hid hLfloors
    clear hLfloors
    have y := (vls_at (HST.out _ E_8.out).floors (show k < S.floors.length by rw [HF3.out]; omega)).trans (by show some (Value.int .i64 (S.floors.getD k 0)) = some (Value.int .i64 Lfloors); rw [HVfloors.out])
    obtain ⟨x0_0, x0_1, x0_2, x0_3, x0_4⟩ := bA_8.out
    have yh := x0_4
    go_wp2_with fail
    have hD : Below w7.heap.size w7 w7.drew := (Below.refl _ _).drew
    have q0_ := S_0.out
    have q1_ := S_1.out
    have q2_ := S_2.out
    have q3_ := S_3.out
    have q4_ := S_4.out
    have q5_ := S_5.out
    have q6_ := S_6.out
    have q7_ := S_7b.out
    have q8_ := S_8.out
    go_region_held3 (fun w' => w'.cell? ⟨w.heap.size, 4, none⟩ = some (.slice (some ⟨b4, o4, none⟩) 3 c4) ∧ w'.cell? ⟨b4, o4 + k, none⟩ = some (.int .i64 Lfloors))
      (refine ⟨?_, ?_⟩ <;> first | assumption | (with_reducible refine cell_far1 ?_ ?_ <;> first | omega | assumption) | (go_keep; done))
      (first | (go_at_call 62; refine (pick_any rb (p1 + 1) 2 _ (R_8.out.keep hD) (by omega) (by omega) (by omega)).mono ?_; rintro e r0 ⟨ii, rfl, ii0, -, hr, hg0⟩; have hg := grown_trans (grown_below hD (some rb)) hg0; have ht := grown_btn hg; have yh := (bA_8.out.btn ht (by omega)).2.2.2.2; have y := (vls_at (HST.out _ (grown_trans E_8.out hg)).floors (show k < S.floors.length by rw [HF3.out]; omega)).trans (by show some (Value.int .i64 (S.floors.getD k 0)) = some (Value.int .i64 Lfloors); rw [HVfloors.out]); obtain ⟨g0, g1, g2, g3, g4, g5, f0, f1, f2, f3, f4, f5⟩ := bQ_8.out.btn ht (by omega); obtain ⟨m2, hm⟩ : ∃ m, IntKind.i64.wrap (Lfloors + ii) = m := ⟨_, rfl⟩; have hne : ¬ b4 = w5.heap.size := by omega))
    clear q0_ q1_ q2_ q3_ q4_ q5_ q6_ q7_ q8_
    clear x0_0 x0_1 x0_2 x0_3 x0_4
    clear yh y hD ht g0 g1 g2 g3 g4 g5 f0 f1 f2 f3 f4 f5 hg0 hne
    have q0_ := S_0.out
    have q1_ := S_1.out
    have q2_ := S_2.out
    have q3_ := S_3.out
    have q4_ := S_4.out
    have q5_ := S_5.out
    have q6_ := S_6.out
    have q7_ := S_7b.out
    have q8_ := S_8.out
    have ht := grown_btn hg
    have bA_9 := Lib.hid (bA_8.out.btn ht (by omega))
    have bR_9 := Lib.hid (bR_8.out.btn ht (by omega))
    have bQ_9 := Lib.hid (bQ_8.out.btn ht (by omega))
    have E_9 := Lib.hid (grown_trans E_8.out hg)
    have R_9 := Lib.hid (hr)
    have S_9 := Lib.hid ht.size
    clear bA_8 bR_8 bQ_8 E_8 R_8 hg hr ht q0_ q1_ q2_ q3_ q4_ q5_ q6_ q7_ q8_
    have q0_ := S_0.out
    have q1_ := S_1.out
    have q2_ := S_2.out
    have q3_ := S_3.out
    have q4_ := S_4.out
    have q5_ := S_5.out
    have q6_ := S_6.out
    have q7_ := S_7b.out
    have q8_ := S_8.out
    have q9_ := S_9.out
    obtain ⟨X8, hX8⟩ : ∃ X, r0.setCell ⟨w5.heap.size, 1, none⟩ (.int .i64 m2) = X := ⟨_, rfl⟩
    have ht : Btn (w5.heap.size) (w5.heap.size + 1) r0 X8 := by rw [← hX8]; exact btn_set _ _ _ _
    have hB := bQ_9.out.set1 m2
    rw [hX8] at hB
    have hE := grown_new E_9.out (show w.heap.size ≤ w5.heap.size by omega) (o := 1) (v := .int .i64 m2)
    have hRd := R_9.out.set (show rb < w5.heap.size by omega) (o := 1) (u := .int .i64 m2)
    rw [hX8] at hE hRd
    rw [hX8]
    have bA_10 := Lib.hid (bA_9.out.btn ht (by omega))
    have bR_10 := Lib.hid (bR_9.out.btn ht (by omega))
    have E_10 := Lib.hid (hE)
    have R_10 := Lib.hid (hRd)
    have S_10 := Lib.hid ht.size
    clear bA_9 bR_9 E_9 R_9 ht hE hRd bQ_9 q0_ q1_ q2_ q3_ q4_ q5_ q6_ q7_ q8_ q9_
    have bQ_11 := Lib.hid hB
    clear hB
    clear hX8
    go_wp2_with fail
    refine (pick_any rb (p1 + 1 + 1) 50 _ R_10.out (by omega) (by omega) (by omega)).mono ?_; rintro e w9 ⟨cc, rfl, cc0, cc1, hr, hg⟩
    have q0_ := S_0.out
    have q1_ := S_1.out
    have q2_ := S_2.out
    have q3_ := S_3.out
    have q4_ := S_4.out
    have q5_ := S_5.out
    have q6_ := S_6.out
    have q7_ := S_7b.out
    have q8_ := S_8.out
    have q9_ := S_9.out
    have q10_ := S_10.out
    have ht := grown_btn hg
    have bA_12 := Lib.hid (bA_10.out.btn ht (by omega))
    have bR_12 := Lib.hid (bR_10.out.btn ht (by omega))
    have bQ_12 := Lib.hid (bQ_11.out.btn ht (by omega))
    have E_12 := Lib.hid (grown_trans E_10.out hg)
    have R_12 := Lib.hid (hr)
    have S_12 := Lib.hid ht.size
    clear bA_10 bR_10 bQ_11 E_10 R_10 hg hr ht q0_ q1_ q2_ q3_ q4_ q5_ q6_ q7_ q8_ q9_ q10_
    replace cc1 := cc1 (by omega)
    by_cases e0 : cc = 0
    · subst e0
      go_wp2_with fail
      refine (l4WhoDraw_any rb (p1 + 1 + 1 + 1) _ R_12.out (by omega)).mono ?_; rintro e w10 ⟨u, p5, rfl, -, hr, hp5, hg⟩
      have q0_ := S_0.out
      have q1_ := S_1.out
      have q2_ := S_2.out
      have q3_ := S_3.out
      have q4_ := S_4.out
      have q5_ := S_5.out
      have q6_ := S_6.out
      have q7_ := S_7b.out
      have q8_ := S_8.out
      have q9_ := S_9.out
      have q10_ := S_10.out
      have q11_ := S_12.out
      have ht := grown_btn hg
      have bA_13 := Lib.hid (bA_12.out.btn ht (by omega))
      have bR_13 := Lib.hid (bR_12.out.btn ht (by omega))
      have bQ_13 := Lib.hid (bQ_12.out.btn ht (by omega))
      have E_13 := Lib.hid (grown_trans E_12.out hg)
      have R_13 := Lib.hid (hr)
      have S_13 := Lib.hid ht.size
      clear bA_12 bR_12 bQ_12 E_12 R_12 hg hr ht q0_ q1_ q2_ q3_ q4_ q5_ q6_ q7_ q8_ q9_ q10_ q11_
      have hq6 := bQ_13.out
      obtain ⟨v0', v1', v2', v3', v4', v5', w0', w1', w2', w3', w4', w5'⟩ := hq6
      have q0_ := S_0.out
      have q1_ := S_1.out
      have q2_ := S_2.out
      have q3_ := S_3.out
      have q4_ := S_4.out
      have q5_ := S_5.out
      have q6_ := S_6.out
      have q7_ := S_7b.out
      have q8_ := S_8.out
      have q9_ := S_9.out
      have q10_ := S_10.out
      have q11_ := S_12.out
      have q12_ := S_13.out
      obtain ⟨X11, hX11⟩ : ∃ X, w10.setCell ⟨w5.heap.size, 0, none⟩ (.int .i64 u) = X := ⟨_, rfl⟩
      have ht : Btn (w5.heap.size) (w5.heap.size + 1) w10 X11 := by rw [← hX11]; exact btn_set _ _ _ _
      have hB := bQ_13.out.set0 u
      rw [hX11] at hB
      have hE := grown_new E_13.out (show w.heap.size ≤ w5.heap.size by omega) (o := 0) (v := .int .i64 u)
      have hRd := R_13.out.set (show rb < w5.heap.size by omega) (o := 0) (u := .int .i64 u)
      rw [hX11] at hE hRd
      have bA_14 := Lib.hid (bA_13.out.btn ht (by omega))
      have bR_14 := Lib.hid (bR_13.out.btn ht (by omega))
      have E_14 := Lib.hid (hE)
      have R_14 := Lib.hid (hRd)
      have S_14 := Lib.hid ht.size
      clear bA_13 bR_13 E_13 R_13 ht hE hRd bQ_13 q0_ q1_ q2_ q3_ q4_ q5_ q6_ q7_ q8_ q9_ q10_ q11_ q12_
      have bQ_15 := Lib.hid hB
      clear hB
      have q0_ := S_0.out
      have q1_ := S_1.out
      have q2_ := S_2.out
      have q3_ := S_3.out
      have q4_ := S_4.out
      have q5_ := S_5.out
      have q6_ := S_6.out
      have q7_ := S_7b.out
      have q8_ := S_8.out
      have q9_ := S_9.out
      have q10_ := S_10.out
      have q11_ := S_12.out
      have q12_ := S_13.out
      have q13_ := S_14.out
      obtain ⟨Q, HQ, hdq⟩ : ∃ Q : ReqT, Box6W X11 (w5.heap.size) Q ∧ Q.data.length ≤ 49 := ⟨_, bQ_15.out, by first | exact hdt | exact hdu⟩
      obtain ⟨x0, x1, x2, x3, x4, x5, -, -, -, -, -, -⟩ := HQ
      obtain ⟨s0, s1, s2, s3, s4, s5, f0, f1, f2, f3, f4, f5⟩ := bR_14.out
      have hz : Box6W ((((((X11.setCell ⟨w.heap.size + 1, 0, none⟩ (.int .i64 Q.who)).setCell ⟨w.heap.size + 1, 1, none⟩ (.int .i64 Q.ep)).setCell ⟨w.heap.size + 1, 2, none⟩ (.int .i64 Q.num)).setCell ⟨w.heap.size + 1, 3, none⟩ (.int .i64 Q.obj)).setCell ⟨w.heap.size + 1, 4, none⟩ (.int .i64 Q.pos)).setCell ⟨w.heap.size + 1, 5, none⟩ (.string (mkB Q.data))) (w.heap.size + 1) Q := by
        have h := (((((bR_14.out.set0 Q.who).set1 Q.ep).set2 Q.num).set3 Q.obj).set4 Q.pos).set5 Q.data
        exact h
      have hE := grown_new (grown_new (grown_new (grown_new (grown_new (grown_new E_14.out (show w.heap.size ≤ w.heap.size + 1 by omega) (o := 0) (v := .int .i64 Q.who)) (show w.heap.size ≤ w.heap.size + 1 by omega) (o := 1) (v := .int .i64 Q.ep)) (show w.heap.size ≤ w.heap.size + 1 by omega) (o := 2) (v := .int .i64 Q.num)) (show w.heap.size ≤ w.heap.size + 1 by omega) (o := 3) (v := .int .i64 Q.obj)) (show w.heap.size ≤ w.heap.size + 1 by omega) (o := 4) (v := .int .i64 Q.pos)) (show w.heap.size ≤ w.heap.size + 1 by omega) (o := 5) (v := .string (mkB Q.data))
      have hRd := (((((R_14.out.set (show rb < w.heap.size + 1 by omega) (o := 0) (u := .int .i64 Q.who)).set (show rb < w.heap.size + 1 by omega) (o := 1) (u := .int .i64 Q.ep)).set (show rb < w.heap.size + 1 by omega) (o := 2) (u := .int .i64 Q.num)).set (show rb < w.heap.size + 1 by omega) (o := 3) (u := .int .i64 Q.obj)).set (show rb < w.heap.size + 1 by omega) (o := 4) (u := .int .i64 Q.pos)).set (show rb < w.heap.size + 1 by omega) (o := 5) (u := .string (mkB Q.data))
      obtain ⟨Z, hZ⟩ : ∃ X, ((((((X11.setCell ⟨w.heap.size + 1, 0, none⟩ (.int .i64 Q.who)).setCell ⟨w.heap.size + 1, 1, none⟩ (.int .i64 Q.ep)).setCell ⟨w.heap.size + 1, 2, none⟩ (.int .i64 Q.num)).setCell ⟨w.heap.size + 1, 3, none⟩ (.int .i64 Q.obj)).setCell ⟨w.heap.size + 1, 4, none⟩ (.int .i64 Q.pos)).setCell ⟨w.heap.size + 1, 5, none⟩ (.string (mkB Q.data))) = X := ⟨_, rfl⟩
      rw [hZ] at hz hE hRd
      have HE := Lib.hid hE
      have HRd := Lib.hid hRd
      have hpf : p5 ≤ p + 20 := by omega
      have HPF := Lib.hid hpf
      have HDQ := Lib.hid hdq
      clear hE hRd hpf hdq q0_ q1_ q2_ q3_ q4_ q5_ q6_ q7_ q8_ q9_ q10_ q11_ q12_ q13_
      go_wp2
      obtain ⟨t0, t1, t2, t3, t4, t5, -, -, -, -, -, -⟩ := hz
      exact bodyPost_ret (v := .agg (rqA Q)) (by simp [results, Tryd.results41, go_sem, t0, t1, t2, t3, t4, t5, rqA]) rfl ⟨Q, _, rfl, HDQ.out, HRd.out, HPF.out, HE.out⟩
    · have d0 : (cc == 0) = false := by simpa using e0
      by_cases e1 : cc = 1
      · subst e1
        go_wp2_with fail
        refine (numLA_any rb (p1 + 1 + 1 + 1) [-1, 3] 2 (fun _ => True) w9 w9.heap.size _ _ rfl rfl rfl R_12.out (by omega) (by omega) (by omega) (by simp)).mono ?_; rintro e w12 ⟨u, p5, rfl, -, hr, hp5, hg⟩
        have q0_ := S_0.out
        have q1_ := S_1.out
        have q2_ := S_2.out
        have q3_ := S_3.out
        have q4_ := S_4.out
        have q5_ := S_5.out
        have q6_ := S_6.out
        have q7_ := S_7b.out
        have q8_ := S_8.out
        have q9_ := S_9.out
        have q10_ := S_10.out
        have q11_ := S_12.out
        have ht := grown_btn hg
        have bA_13 := Lib.hid (bA_12.out.btn ht (by omega))
        have bR_13 := Lib.hid (bR_12.out.btn ht (by omega))
        have bQ_13 := Lib.hid (bQ_12.out.btn ht (by omega))
        have E_13 := Lib.hid (grown_trans E_12.out hg)
        have R_13 := Lib.hid (hr)
        have S_13 := Lib.hid ht.size
        clear bA_12 bR_12 bQ_12 E_12 R_12 hg hr ht q0_ q1_ q2_ q3_ q4_ q5_ q6_ q7_ q8_ q9_ q10_ q11_
        have hq6 := bQ_13.out
        obtain ⟨v0', v1', v2', v3', v4', v5', w0', w1', w2', w3', w4', w5'⟩ := hq6
        have q0_ := S_0.out
        have q1_ := S_1.out
        have q2_ := S_2.out
        have q3_ := S_3.out
        have q4_ := S_4.out
        have q5_ := S_5.out
        have q6_ := S_6.out
        have q7_ := S_7b.out
        have q8_ := S_8.out
        have q9_ := S_9.out
        have q10_ := S_10.out
        have q11_ := S_12.out
        have q12_ := S_13.out
        obtain ⟨X13, hX13⟩ : ∃ X, w12.setCell ⟨w5.heap.size, 3, none⟩ (.int .i64 u) = X := ⟨_, rfl⟩
        have ht : Btn (w5.heap.size) (w5.heap.size + 1) w12 X13 := by rw [← hX13]; exact btn_set _ _ _ _
        have hB := bQ_13.out.set3 u
        rw [hX13] at hB
        have hE := grown_new E_13.out (show w.heap.size ≤ w5.heap.size by omega) (o := 3) (v := .int .i64 u)
        have hRd := R_13.out.set (show rb < w5.heap.size by omega) (o := 3) (u := .int .i64 u)
        rw [hX13] at hE hRd
        have bA_14 := Lib.hid (bA_13.out.btn ht (by omega))
        have bR_14 := Lib.hid (bR_13.out.btn ht (by omega))
        have E_14 := Lib.hid (hE)
        have R_14 := Lib.hid (hRd)
        have S_14 := Lib.hid ht.size
        clear bA_13 bR_13 E_13 R_13 ht hE hRd bQ_13 q0_ q1_ q2_ q3_ q4_ q5_ q6_ q7_ q8_ q9_ q10_ q11_ q12_
        have bQ_15 := Lib.hid hB
        clear hB
        have q0_ := S_0.out
        have q1_ := S_1.out
        have q2_ := S_2.out
        have q3_ := S_3.out
        have q4_ := S_4.out
        have q5_ := S_5.out
        have q6_ := S_6.out
        have q7_ := S_7b.out
        have q8_ := S_8.out
        have q9_ := S_9.out
        have q10_ := S_10.out
        have q11_ := S_12.out
        have q12_ := S_13.out
        have q13_ := S_14.out
        obtain ⟨Q, HQ, hdq⟩ : ∃ Q : ReqT, Box6W X13 (w5.heap.size) Q ∧ Q.data.length ≤ 49 := ⟨_, bQ_15.out, by first | exact hdt | exact hdu⟩
        obtain ⟨x0, x1, x2, x3, x4, x5, -, -, -, -, -, -⟩ := HQ
        obtain ⟨s0, s1, s2, s3, s4, s5, f0, f1, f2, f3, f4, f5⟩ := bR_14.out
        have hz : Box6W ((((((X13.setCell ⟨w.heap.size + 1, 0, none⟩ (.int .i64 Q.who)).setCell ⟨w.heap.size + 1, 1, none⟩ (.int .i64 Q.ep)).setCell ⟨w.heap.size + 1, 2, none⟩ (.int .i64 Q.num)).setCell ⟨w.heap.size + 1, 3, none⟩ (.int .i64 Q.obj)).setCell ⟨w.heap.size + 1, 4, none⟩ (.int .i64 Q.pos)).setCell ⟨w.heap.size + 1, 5, none⟩ (.string (mkB Q.data))) (w.heap.size + 1) Q := by
          have h := (((((bR_14.out.set0 Q.who).set1 Q.ep).set2 Q.num).set3 Q.obj).set4 Q.pos).set5 Q.data
          exact h
        have hE := grown_new (grown_new (grown_new (grown_new (grown_new (grown_new E_14.out (show w.heap.size ≤ w.heap.size + 1 by omega) (o := 0) (v := .int .i64 Q.who)) (show w.heap.size ≤ w.heap.size + 1 by omega) (o := 1) (v := .int .i64 Q.ep)) (show w.heap.size ≤ w.heap.size + 1 by omega) (o := 2) (v := .int .i64 Q.num)) (show w.heap.size ≤ w.heap.size + 1 by omega) (o := 3) (v := .int .i64 Q.obj)) (show w.heap.size ≤ w.heap.size + 1 by omega) (o := 4) (v := .int .i64 Q.pos)) (show w.heap.size ≤ w.heap.size + 1 by omega) (o := 5) (v := .string (mkB Q.data))
        have hRd := (((((R_14.out.set (show rb < w.heap.size + 1 by omega) (o := 0) (u := .int .i64 Q.who)).set (show rb < w.heap.size + 1 by omega) (o := 1) (u := .int .i64 Q.ep)).set (show rb < w.heap.size + 1 by omega) (o := 2) (u := .int .i64 Q.num)).set (show rb < w.heap.size + 1 by omega) (o := 3) (u := .int .i64 Q.obj)).set (show rb < w.heap.size + 1 by omega) (o := 4) (u := .int .i64 Q.pos)).set (show rb < w.heap.size + 1 by omega) (o := 5) (u := .string (mkB Q.data))
        obtain ⟨Z, hZ⟩ : ∃ X, ((((((X13.setCell ⟨w.heap.size + 1, 0, none⟩ (.int .i64 Q.who)).setCell ⟨w.heap.size + 1, 1, none⟩ (.int .i64 Q.ep)).setCell ⟨w.heap.size + 1, 2, none⟩ (.int .i64 Q.num)).setCell ⟨w.heap.size + 1, 3, none⟩ (.int .i64 Q.obj)).setCell ⟨w.heap.size + 1, 4, none⟩ (.int .i64 Q.pos)).setCell ⟨w.heap.size + 1, 5, none⟩ (.string (mkB Q.data))) = X := ⟨_, rfl⟩
        rw [hZ] at hz hE hRd
        have HE := Lib.hid hE
        have HRd := Lib.hid hRd
        have hpf : p5 ≤ p + 20 := by omega
        have HPF := Lib.hid hpf
        have HDQ := Lib.hid hdq
        clear hE hRd hpf hdq q0_ q1_ q2_ q3_ q4_ q5_ q6_ q7_ q8_ q9_ q10_ q11_ q12_ q13_
        go_wp2
        obtain ⟨t0, t1, t2, t3, t4, t5, -, -, -, -, -, -⟩ := hz
        exact bodyPost_ret (v := .agg (rqA Q)) (by simp [results, Tryd.results41, go_sem, t0, t1, t2, t3, t4, t5, rqA]) rfl ⟨Q, _, rfl, HDQ.out, HRd.out, HPF.out, HE.out⟩
      · have d1 : (cc == 1) = false := by simpa using e1
        by_cases e2 : cc = 2
        · subst e2
          go_wp2_with fail
          refine (numLA_any rb (p1 + 1 + 1 + 1) [-1, 48, 9223372036854775807] 3 (fun _ => True) w9 w9.heap.size _ _ rfl rfl rfl R_12.out (by omega) (by omega) (by omega) (by simp)).mono ?_; rintro e w14 ⟨u, p5, rfl, -, hr, hp5, hg⟩
          have q0_ := S_0.out
          have q1_ := S_1.out
          have q2_ := S_2.out
          have q3_ := S_3.out
          have q4_ := S_4.out
          have q5_ := S_5.out
          have q6_ := S_6.out
          have q7_ := S_7b.out
          have q8_ := S_8.out
          have q9_ := S_9.out
          have q10_ := S_10.out
          have q11_ := S_12.out
          have ht := grown_btn hg
          have bA_13 := Lib.hid (bA_12.out.btn ht (by omega))
          have bR_13 := Lib.hid (bR_12.out.btn ht (by omega))
          have bQ_13 := Lib.hid (bQ_12.out.btn ht (by omega))
          have E_13 := Lib.hid (grown_trans E_12.out hg)
          have R_13 := Lib.hid (hr)
          have S_13 := Lib.hid ht.size
          clear bA_12 bR_12 bQ_12 E_12 R_12 hg hr ht q0_ q1_ q2_ q3_ q4_ q5_ q6_ q7_ q8_ q9_ q10_ q11_
          have hq6 := bQ_13.out
          obtain ⟨v0', v1', v2', v3', v4', v5', w0', w1', w2', w3', w4', w5'⟩ := hq6
          have q0_ := S_0.out
          have q1_ := S_1.out
          have q2_ := S_2.out
          have q3_ := S_3.out
          have q4_ := S_4.out
          have q5_ := S_5.out
          have q6_ := S_6.out
          have q7_ := S_7b.out
          have q8_ := S_8.out
          have q9_ := S_9.out
          have q10_ := S_10.out
          have q11_ := S_12.out
          have q12_ := S_13.out
          obtain ⟨X15, hX15⟩ : ∃ X, w14.setCell ⟨w5.heap.size, 4, none⟩ (.int .i64 u) = X := ⟨_, rfl⟩
          have ht : Btn (w5.heap.size) (w5.heap.size + 1) w14 X15 := by rw [← hX15]; exact btn_set _ _ _ _
          have hB := bQ_13.out.set4 u
          rw [hX15] at hB
          have hE := grown_new E_13.out (show w.heap.size ≤ w5.heap.size by omega) (o := 4) (v := .int .i64 u)
          have hRd := R_13.out.set (show rb < w5.heap.size by omega) (o := 4) (u := .int .i64 u)
          rw [hX15] at hE hRd
          have bA_14 := Lib.hid (bA_13.out.btn ht (by omega))
          have bR_14 := Lib.hid (bR_13.out.btn ht (by omega))
          have E_14 := Lib.hid (hE)
          have R_14 := Lib.hid (hRd)
          have S_14 := Lib.hid ht.size
          clear bA_13 bR_13 E_13 R_13 ht hE hRd bQ_13 q0_ q1_ q2_ q3_ q4_ q5_ q6_ q7_ q8_ q9_ q10_ q11_ q12_
          have bQ_15 := Lib.hid hB
          clear hB
          have q0_ := S_0.out
          have q1_ := S_1.out
          have q2_ := S_2.out
          have q3_ := S_3.out
          have q4_ := S_4.out
          have q5_ := S_5.out
          have q6_ := S_6.out
          have q7_ := S_7b.out
          have q8_ := S_8.out
          have q9_ := S_9.out
          have q10_ := S_10.out
          have q11_ := S_12.out
          have q12_ := S_13.out
          have q13_ := S_14.out
          obtain ⟨Q, HQ, hdq⟩ : ∃ Q : ReqT, Box6W X15 (w5.heap.size) Q ∧ Q.data.length ≤ 49 := ⟨_, bQ_15.out, by first | exact hdt | exact hdu⟩
          obtain ⟨x0, x1, x2, x3, x4, x5, -, -, -, -, -, -⟩ := HQ
          obtain ⟨s0, s1, s2, s3, s4, s5, f0, f1, f2, f3, f4, f5⟩ := bR_14.out
          have hz : Box6W ((((((X15.setCell ⟨w.heap.size + 1, 0, none⟩ (.int .i64 Q.who)).setCell ⟨w.heap.size + 1, 1, none⟩ (.int .i64 Q.ep)).setCell ⟨w.heap.size + 1, 2, none⟩ (.int .i64 Q.num)).setCell ⟨w.heap.size + 1, 3, none⟩ (.int .i64 Q.obj)).setCell ⟨w.heap.size + 1, 4, none⟩ (.int .i64 Q.pos)).setCell ⟨w.heap.size + 1, 5, none⟩ (.string (mkB Q.data))) (w.heap.size + 1) Q := by
            have h := (((((bR_14.out.set0 Q.who).set1 Q.ep).set2 Q.num).set3 Q.obj).set4 Q.pos).set5 Q.data
            exact h
          have hE := grown_new (grown_new (grown_new (grown_new (grown_new (grown_new E_14.out (show w.heap.size ≤ w.heap.size + 1 by omega) (o := 0) (v := .int .i64 Q.who)) (show w.heap.size ≤ w.heap.size + 1 by omega) (o := 1) (v := .int .i64 Q.ep)) (show w.heap.size ≤ w.heap.size + 1 by omega) (o := 2) (v := .int .i64 Q.num)) (show w.heap.size ≤ w.heap.size + 1 by omega) (o := 3) (v := .int .i64 Q.obj)) (show w.heap.size ≤ w.heap.size + 1 by omega) (o := 4) (v := .int .i64 Q.pos)) (show w.heap.size ≤ w.heap.size + 1 by omega) (o := 5) (v := .string (mkB Q.data))
          have hRd := (((((R_14.out.set (show rb < w.heap.size + 1 by omega) (o := 0) (u := .int .i64 Q.who)).set (show rb < w.heap.size + 1 by omega) (o := 1) (u := .int .i64 Q.ep)).set (show rb < w.heap.size + 1 by omega) (o := 2) (u := .int .i64 Q.num)).set (show rb < w.heap.size + 1 by omega) (o := 3) (u := .int .i64 Q.obj)).set (show rb < w.heap.size + 1 by omega) (o := 4) (u := .int .i64 Q.pos)).set (show rb < w.heap.size + 1 by omega) (o := 5) (u := .string (mkB Q.data))
          obtain ⟨Z, hZ⟩ : ∃ X, ((((((X15.setCell ⟨w.heap.size + 1, 0, none⟩ (.int .i64 Q.who)).setCell ⟨w.heap.size + 1, 1, none⟩ (.int .i64 Q.ep)).setCell ⟨w.heap.size + 1, 2, none⟩ (.int .i64 Q.num)).setCell ⟨w.heap.size + 1, 3, none⟩ (.int .i64 Q.obj)).setCell ⟨w.heap.size + 1, 4, none⟩ (.int .i64 Q.pos)).setCell ⟨w.heap.size + 1, 5, none⟩ (.string (mkB Q.data))) = X := ⟨_, rfl⟩
          rw [hZ] at hz hE hRd
          have HE := Lib.hid hE
          have HRd := Lib.hid hRd
          have hpf : p5 ≤ p + 20 := by omega
          have HPF := Lib.hid hpf
          have HDQ := Lib.hid hdq
          clear hE hRd hpf hdq q0_ q1_ q2_ q3_ q4_ q5_ q6_ q7_ q8_ q9_ q10_ q11_ q12_ q13_
          go_wp2
          obtain ⟨t0, t1, t2, t3, t4, t5, -, -, -, -, -, -⟩ := hz
          exact bodyPost_ret (v := .agg (rqA Q)) (by simp [results, Tryd.results41, go_sem, t0, t1, t2, t3, t4, t5, rqA]) rfl ⟨Q, _, rfl, HDQ.out, HRd.out, HPF.out, HE.out⟩
        · have d2 : (cc == 2) = false := by simpa using e2
          by_cases e3 : cc = 3
          · subst e3
            go_wp2_with fail
            refine (ofL_any rb (p1 + 1 + 1 + 1) [[], [65], [97, 32, 98]] 3 (fun l => l.length ≤ 49) w9 _ _ rfl rfl R_12.out (by omega) (by omega) (by omega) (by simp)).mono ?_; rintro e w16 ⟨u, p5, rfl, hdu, hr, hp5, hg⟩
            have q0_ := S_0.out
            have q1_ := S_1.out
            have q2_ := S_2.out
            have q3_ := S_3.out
            have q4_ := S_4.out
            have q5_ := S_5.out
            have q6_ := S_6.out
            have q7_ := S_7b.out
            have q8_ := S_8.out
            have q9_ := S_9.out
            have q10_ := S_10.out
            have q11_ := S_12.out
            have ht := grown_btn hg
            have bA_13 := Lib.hid (bA_12.out.btn ht (by omega))
            have bR_13 := Lib.hid (bR_12.out.btn ht (by omega))
            have bQ_13 := Lib.hid (bQ_12.out.btn ht (by omega))
            have E_13 := Lib.hid (grown_trans E_12.out hg)
            have R_13 := Lib.hid (hr)
            have S_13 := Lib.hid ht.size
            clear bA_12 bR_12 bQ_12 E_12 R_12 hg hr ht q0_ q1_ q2_ q3_ q4_ q5_ q6_ q7_ q8_ q9_ q10_ q11_
            have hq6 := bQ_13.out
            obtain ⟨v0', v1', v2', v3', v4', v5', w0', w1', w2', w3', w4', w5'⟩ := hq6
            have q0_ := S_0.out
            have q1_ := S_1.out
            have q2_ := S_2.out
            have q3_ := S_3.out
            have q4_ := S_4.out
            have q5_ := S_5.out
            have q6_ := S_6.out
            have q7_ := S_7b.out
            have q8_ := S_8.out
            have q9_ := S_9.out
            have q10_ := S_10.out
            have q11_ := S_12.out
            have q12_ := S_13.out
            obtain ⟨X17, hX17⟩ : ∃ X, w16.setCell ⟨w5.heap.size, 5, none⟩ (.string (mkB u)) = X := ⟨_, rfl⟩
            have ht : Btn (w5.heap.size) (w5.heap.size + 1) w16 X17 := by rw [← hX17]; exact btn_set _ _ _ _
            have hB := bQ_13.out.set5 u
            rw [hX17] at hB
            have hE := grown_new E_13.out (show w.heap.size ≤ w5.heap.size by omega) (o := 5) (v := .string (mkB u))
            have hRd := R_13.out.set (show rb < w5.heap.size by omega) (o := 5) (u := .string (mkB u))
            rw [hX17] at hE hRd
            have bA_14 := Lib.hid (bA_13.out.btn ht (by omega))
            have bR_14 := Lib.hid (bR_13.out.btn ht (by omega))
            have E_14 := Lib.hid (hE)
            have R_14 := Lib.hid (hRd)
            have S_14 := Lib.hid ht.size
            clear bA_13 bR_13 E_13 R_13 ht hE hRd bQ_13 q0_ q1_ q2_ q3_ q4_ q5_ q6_ q7_ q8_ q9_ q10_ q11_ q12_
            have bQ_15 := Lib.hid hB
            clear hB
            have q0_ := S_0.out
            have q1_ := S_1.out
            have q2_ := S_2.out
            have q3_ := S_3.out
            have q4_ := S_4.out
            have q5_ := S_5.out
            have q6_ := S_6.out
            have q7_ := S_7b.out
            have q8_ := S_8.out
            have q9_ := S_9.out
            have q10_ := S_10.out
            have q11_ := S_12.out
            have q12_ := S_13.out
            have q13_ := S_14.out
            obtain ⟨Q, HQ, hdq⟩ : ∃ Q : ReqT, Box6W X17 (w5.heap.size) Q ∧ Q.data.length ≤ 49 := ⟨_, bQ_15.out, by first | exact hdt | exact hdu⟩
            obtain ⟨x0, x1, x2, x3, x4, x5, -, -, -, -, -, -⟩ := HQ
            obtain ⟨s0, s1, s2, s3, s4, s5, f0, f1, f2, f3, f4, f5⟩ := bR_14.out
            have hz : Box6W ((((((X17.setCell ⟨w.heap.size + 1, 0, none⟩ (.int .i64 Q.who)).setCell ⟨w.heap.size + 1, 1, none⟩ (.int .i64 Q.ep)).setCell ⟨w.heap.size + 1, 2, none⟩ (.int .i64 Q.num)).setCell ⟨w.heap.size + 1, 3, none⟩ (.int .i64 Q.obj)).setCell ⟨w.heap.size + 1, 4, none⟩ (.int .i64 Q.pos)).setCell ⟨w.heap.size + 1, 5, none⟩ (.string (mkB Q.data))) (w.heap.size + 1) Q := by
              have h := (((((bR_14.out.set0 Q.who).set1 Q.ep).set2 Q.num).set3 Q.obj).set4 Q.pos).set5 Q.data
              exact h
            have hE := grown_new (grown_new (grown_new (grown_new (grown_new (grown_new E_14.out (show w.heap.size ≤ w.heap.size + 1 by omega) (o := 0) (v := .int .i64 Q.who)) (show w.heap.size ≤ w.heap.size + 1 by omega) (o := 1) (v := .int .i64 Q.ep)) (show w.heap.size ≤ w.heap.size + 1 by omega) (o := 2) (v := .int .i64 Q.num)) (show w.heap.size ≤ w.heap.size + 1 by omega) (o := 3) (v := .int .i64 Q.obj)) (show w.heap.size ≤ w.heap.size + 1 by omega) (o := 4) (v := .int .i64 Q.pos)) (show w.heap.size ≤ w.heap.size + 1 by omega) (o := 5) (v := .string (mkB Q.data))
            have hRd := (((((R_14.out.set (show rb < w.heap.size + 1 by omega) (o := 0) (u := .int .i64 Q.who)).set (show rb < w.heap.size + 1 by omega) (o := 1) (u := .int .i64 Q.ep)).set (show rb < w.heap.size + 1 by omega) (o := 2) (u := .int .i64 Q.num)).set (show rb < w.heap.size + 1 by omega) (o := 3) (u := .int .i64 Q.obj)).set (show rb < w.heap.size + 1 by omega) (o := 4) (u := .int .i64 Q.pos)).set (show rb < w.heap.size + 1 by omega) (o := 5) (u := .string (mkB Q.data))
            obtain ⟨Z, hZ⟩ : ∃ X, ((((((X17.setCell ⟨w.heap.size + 1, 0, none⟩ (.int .i64 Q.who)).setCell ⟨w.heap.size + 1, 1, none⟩ (.int .i64 Q.ep)).setCell ⟨w.heap.size + 1, 2, none⟩ (.int .i64 Q.num)).setCell ⟨w.heap.size + 1, 3, none⟩ (.int .i64 Q.obj)).setCell ⟨w.heap.size + 1, 4, none⟩ (.int .i64 Q.pos)).setCell ⟨w.heap.size + 1, 5, none⟩ (.string (mkB Q.data))) = X := ⟨_, rfl⟩
            rw [hZ] at hz hE hRd
            have HE := Lib.hid hE
            have HRd := Lib.hid hRd
            have hpf : p5 ≤ p + 20 := by omega
            have HPF := Lib.hid hpf
            have HDQ := Lib.hid hdq
            clear hE hRd hpf hdq q0_ q1_ q2_ q3_ q4_ q5_ q6_ q7_ q8_ q9_ q10_ q11_ q12_ q13_
            go_wp2
            obtain ⟨t0, t1, t2, t3, t4, t5, -, -, -, -, -, -⟩ := hz
            exact bodyPost_ret (v := .agg (rqA Q)) (by simp [results, Tryd.results41, go_sem, t0, t1, t2, t3, t4, t5, rqA]) rfl ⟨Q, _, rfl, HDQ.out, HRd.out, HPF.out, HE.out⟩
          · have d3 : (cc == 3) = false := by simpa using e3
            by_cases e4 : cc = 4
            · subst e4
              go_wp2_with fail
              refine (numLA_any rb (p1 + 1 + 1 + 1) [0, -1, 1001] 3 (fun _ => True) w9 w9.heap.size _ _ rfl rfl rfl R_12.out (by omega) (by omega) (by omega) (by simp)).mono ?_; rintro e w18 ⟨u, p5, rfl, -, hr, hp5, hg⟩
              have q0_ := S_0.out
              have q1_ := S_1.out
              have q2_ := S_2.out
              have q3_ := S_3.out
              have q4_ := S_4.out
              have q5_ := S_5.out
              have q6_ := S_6.out
              have q7_ := S_7b.out
              have q8_ := S_8.out
              have q9_ := S_9.out
              have q10_ := S_10.out
              have q11_ := S_12.out
              have ht := grown_btn hg
              have bA_13 := Lib.hid (bA_12.out.btn ht (by omega))
              have bR_13 := Lib.hid (bR_12.out.btn ht (by omega))
              have bQ_13 := Lib.hid (bQ_12.out.btn ht (by omega))
              have E_13 := Lib.hid (grown_trans E_12.out hg)
              have R_13 := Lib.hid (hr)
              have S_13 := Lib.hid ht.size
              clear bA_12 bR_12 bQ_12 E_12 R_12 hg hr ht q0_ q1_ q2_ q3_ q4_ q5_ q6_ q7_ q8_ q9_ q10_ q11_
              have hq6 := bQ_13.out
              obtain ⟨v0', v1', v2', v3', v4', v5', w0', w1', w2', w3', w4', w5'⟩ := hq6
              have q0_ := S_0.out
              have q1_ := S_1.out
              have q2_ := S_2.out
              have q3_ := S_3.out
              have q4_ := S_4.out
              have q5_ := S_5.out
              have q6_ := S_6.out
              have q7_ := S_7b.out
              have q8_ := S_8.out
              have q9_ := S_9.out
              have q10_ := S_10.out
              have q11_ := S_12.out
              have q12_ := S_13.out
              obtain ⟨X19, hX19⟩ : ∃ X, w18.setCell ⟨w5.heap.size, 2, none⟩ (.int .i64 u) = X := ⟨_, rfl⟩
              have ht : Btn (w5.heap.size) (w5.heap.size + 1) w18 X19 := by rw [← hX19]; exact btn_set _ _ _ _
              have hB := bQ_13.out.set2 u
              rw [hX19] at hB
              have hE := grown_new E_13.out (show w.heap.size ≤ w5.heap.size by omega) (o := 2) (v := .int .i64 u)
              have hRd := R_13.out.set (show rb < w5.heap.size by omega) (o := 2) (u := .int .i64 u)
              rw [hX19] at hE hRd
              have bA_14 := Lib.hid (bA_13.out.btn ht (by omega))
              have bR_14 := Lib.hid (bR_13.out.btn ht (by omega))
              have E_14 := Lib.hid (hE)
              have R_14 := Lib.hid (hRd)
              have S_14 := Lib.hid ht.size
              clear bA_13 bR_13 E_13 R_13 ht hE hRd bQ_13 q0_ q1_ q2_ q3_ q4_ q5_ q6_ q7_ q8_ q9_ q10_ q11_ q12_
              have bQ_15 := Lib.hid hB
              clear hB
              have q0_ := S_0.out
              have q1_ := S_1.out
              have q2_ := S_2.out
              have q3_ := S_3.out
              have q4_ := S_4.out
              have q5_ := S_5.out
              have q6_ := S_6.out
              have q7_ := S_7b.out
              have q8_ := S_8.out
              have q9_ := S_9.out
              have q10_ := S_10.out
              have q11_ := S_12.out
              have q12_ := S_13.out
              have q13_ := S_14.out
              obtain ⟨Q, HQ, hdq⟩ : ∃ Q : ReqT, Box6W X19 (w5.heap.size) Q ∧ Q.data.length ≤ 49 := ⟨_, bQ_15.out, by first | exact hdt | exact hdu⟩
              obtain ⟨x0, x1, x2, x3, x4, x5, -, -, -, -, -, -⟩ := HQ
              obtain ⟨s0, s1, s2, s3, s4, s5, f0, f1, f2, f3, f4, f5⟩ := bR_14.out
              have hz : Box6W ((((((X19.setCell ⟨w.heap.size + 1, 0, none⟩ (.int .i64 Q.who)).setCell ⟨w.heap.size + 1, 1, none⟩ (.int .i64 Q.ep)).setCell ⟨w.heap.size + 1, 2, none⟩ (.int .i64 Q.num)).setCell ⟨w.heap.size + 1, 3, none⟩ (.int .i64 Q.obj)).setCell ⟨w.heap.size + 1, 4, none⟩ (.int .i64 Q.pos)).setCell ⟨w.heap.size + 1, 5, none⟩ (.string (mkB Q.data))) (w.heap.size + 1) Q := by
                have h := (((((bR_14.out.set0 Q.who).set1 Q.ep).set2 Q.num).set3 Q.obj).set4 Q.pos).set5 Q.data
                exact h
              have hE := grown_new (grown_new (grown_new (grown_new (grown_new (grown_new E_14.out (show w.heap.size ≤ w.heap.size + 1 by omega) (o := 0) (v := .int .i64 Q.who)) (show w.heap.size ≤ w.heap.size + 1 by omega) (o := 1) (v := .int .i64 Q.ep)) (show w.heap.size ≤ w.heap.size + 1 by omega) (o := 2) (v := .int .i64 Q.num)) (show w.heap.size ≤ w.heap.size + 1 by omega) (o := 3) (v := .int .i64 Q.obj)) (show w.heap.size ≤ w.heap.size + 1 by omega) (o := 4) (v := .int .i64 Q.pos)) (show w.heap.size ≤ w.heap.size + 1 by omega) (o := 5) (v := .string (mkB Q.data))
              have hRd := (((((R_14.out.set (show rb < w.heap.size + 1 by omega) (o := 0) (u := .int .i64 Q.who)).set (show rb < w.heap.size + 1 by omega) (o := 1) (u := .int .i64 Q.ep)).set (show rb < w.heap.size + 1 by omega) (o := 2) (u := .int .i64 Q.num)).set (show rb < w.heap.size + 1 by omega) (o := 3) (u := .int .i64 Q.obj)).set (show rb < w.heap.size + 1 by omega) (o := 4) (u := .int .i64 Q.pos)).set (show rb < w.heap.size + 1 by omega) (o := 5) (u := .string (mkB Q.data))
              obtain ⟨Z, hZ⟩ : ∃ X, ((((((X19.setCell ⟨w.heap.size + 1, 0, none⟩ (.int .i64 Q.who)).setCell ⟨w.heap.size + 1, 1, none⟩ (.int .i64 Q.ep)).setCell ⟨w.heap.size + 1, 2, none⟩ (.int .i64 Q.num)).setCell ⟨w.heap.size + 1, 3, none⟩ (.int .i64 Q.obj)).setCell ⟨w.heap.size + 1, 4, none⟩ (.int .i64 Q.pos)).setCell ⟨w.heap.size + 1, 5, none⟩ (.string (mkB Q.data))) = X := ⟨_, rfl⟩
              rw [hZ] at hz hE hRd
              have HE := Lib.hid hE
              have HRd := Lib.hid hRd
              have hpf : p5 ≤ p + 20 := by omega
              have HPF := Lib.hid hpf
              have HDQ := Lib.hid hdq
              clear hE hRd hpf hdq q0_ q1_ q2_ q3_ q4_ q5_ q6_ q7_ q8_ q9_ q10_ q11_ q12_ q13_
              go_wp2
              obtain ⟨t0, t1, t2, t3, t4, t5, -, -, -, -, -, -⟩ := hz
              exact bodyPost_ret (v := .agg (rqA Q)) (by simp [results, Tryd.results41, go_sem, t0, t1, t2, t3, t4, t5, rqA]) rfl ⟨Q, _, rfl, HDQ.out, HRd.out, HPF.out, HE.out⟩
            · have d4 : (cc == 4) = false := by simpa using e4
              by_cases e5 : cc = 5
              · subst e5
                go_wp2_with fail
                refine (numLA_any rb (p1 + 1 + 1 + 1) [-1, 101] 2 (fun _ => True) w9 w9.heap.size _ _ rfl rfl rfl R_12.out (by omega) (by omega) (by omega) (by simp)).mono ?_; rintro e w20 ⟨u, p5, rfl, -, hr, hp5, hg⟩
                have q0_ := S_0.out
                have q1_ := S_1.out
                have q2_ := S_2.out
                have q3_ := S_3.out
                have q4_ := S_4.out
                have q5_ := S_5.out
                have q6_ := S_6.out
                have q7_ := S_7b.out
                have q8_ := S_8.out
                have q9_ := S_9.out
                have q10_ := S_10.out
                have q11_ := S_12.out
                have ht := grown_btn hg
                have bA_13 := Lib.hid (bA_12.out.btn ht (by omega))
                have bR_13 := Lib.hid (bR_12.out.btn ht (by omega))
                have bQ_13 := Lib.hid (bQ_12.out.btn ht (by omega))
                have E_13 := Lib.hid (grown_trans E_12.out hg)
                have R_13 := Lib.hid (hr)
                have S_13 := Lib.hid ht.size
                clear bA_12 bR_12 bQ_12 E_12 R_12 hg hr ht q0_ q1_ q2_ q3_ q4_ q5_ q6_ q7_ q8_ q9_ q10_ q11_
                have hq6 := bQ_13.out
                obtain ⟨v0', v1', v2', v3', v4', v5', w0', w1', w2', w3', w4', w5'⟩ := hq6
                have q0_ := S_0.out
                have q1_ := S_1.out
                have q2_ := S_2.out
                have q3_ := S_3.out
                have q4_ := S_4.out
                have q5_ := S_5.out
                have q6_ := S_6.out
                have q7_ := S_7b.out
                have q8_ := S_8.out
                have q9_ := S_9.out
                have q10_ := S_10.out
                have q11_ := S_12.out
                have q12_ := S_13.out
                obtain ⟨X21, hX21⟩ : ∃ X, w20.setCell ⟨w5.heap.size, 1, none⟩ (.int .i64 u) = X := ⟨_, rfl⟩
                have ht : Btn (w5.heap.size) (w5.heap.size + 1) w20 X21 := by rw [← hX21]; exact btn_set _ _ _ _
                have hB := bQ_13.out.set1 u
                rw [hX21] at hB
                have hE := grown_new E_13.out (show w.heap.size ≤ w5.heap.size by omega) (o := 1) (v := .int .i64 u)
                have hRd := R_13.out.set (show rb < w5.heap.size by omega) (o := 1) (u := .int .i64 u)
                rw [hX21] at hE hRd
                have bA_14 := Lib.hid (bA_13.out.btn ht (by omega))
                have bR_14 := Lib.hid (bR_13.out.btn ht (by omega))
                have E_14 := Lib.hid (hE)
                have R_14 := Lib.hid (hRd)
                have S_14 := Lib.hid ht.size
                clear bA_13 bR_13 E_13 R_13 ht hE hRd bQ_13 q0_ q1_ q2_ q3_ q4_ q5_ q6_ q7_ q8_ q9_ q10_ q11_ q12_
                have bQ_15 := Lib.hid hB
                clear hB
                have q0_ := S_0.out
                have q1_ := S_1.out
                have q2_ := S_2.out
                have q3_ := S_3.out
                have q4_ := S_4.out
                have q5_ := S_5.out
                have q6_ := S_6.out
                have q7_ := S_7b.out
                have q8_ := S_8.out
                have q9_ := S_9.out
                have q10_ := S_10.out
                have q11_ := S_12.out
                have q12_ := S_13.out
                have q13_ := S_14.out
                obtain ⟨Q, HQ, hdq⟩ : ∃ Q : ReqT, Box6W X21 (w5.heap.size) Q ∧ Q.data.length ≤ 49 := ⟨_, bQ_15.out, by first | exact hdt | exact hdu⟩
                obtain ⟨x0, x1, x2, x3, x4, x5, -, -, -, -, -, -⟩ := HQ
                obtain ⟨s0, s1, s2, s3, s4, s5, f0, f1, f2, f3, f4, f5⟩ := bR_14.out
                have hz : Box6W ((((((X21.setCell ⟨w.heap.size + 1, 0, none⟩ (.int .i64 Q.who)).setCell ⟨w.heap.size + 1, 1, none⟩ (.int .i64 Q.ep)).setCell ⟨w.heap.size + 1, 2, none⟩ (.int .i64 Q.num)).setCell ⟨w.heap.size + 1, 3, none⟩ (.int .i64 Q.obj)).setCell ⟨w.heap.size + 1, 4, none⟩ (.int .i64 Q.pos)).setCell ⟨w.heap.size + 1, 5, none⟩ (.string (mkB Q.data))) (w.heap.size + 1) Q := by
                  have h := (((((bR_14.out.set0 Q.who).set1 Q.ep).set2 Q.num).set3 Q.obj).set4 Q.pos).set5 Q.data
                  exact h
                have hE := grown_new (grown_new (grown_new (grown_new (grown_new (grown_new E_14.out (show w.heap.size ≤ w.heap.size + 1 by omega) (o := 0) (v := .int .i64 Q.who)) (show w.heap.size ≤ w.heap.size + 1 by omega) (o := 1) (v := .int .i64 Q.ep)) (show w.heap.size ≤ w.heap.size + 1 by omega) (o := 2) (v := .int .i64 Q.num)) (show w.heap.size ≤ w.heap.size + 1 by omega) (o := 3) (v := .int .i64 Q.obj)) (show w.heap.size ≤ w.heap.size + 1 by omega) (o := 4) (v := .int .i64 Q.pos)) (show w.heap.size ≤ w.heap.size + 1 by omega) (o := 5) (v := .string (mkB Q.data))
                have hRd := (((((R_14.out.set (show rb < w.heap.size + 1 by omega) (o := 0) (u := .int .i64 Q.who)).set (show rb < w.heap.size + 1 by omega) (o := 1) (u := .int .i64 Q.ep)).set (show rb < w.heap.size + 1 by omega) (o := 2) (u := .int .i64 Q.num)).set (show rb < w.heap.size + 1 by omega) (o := 3) (u := .int .i64 Q.obj)).set (show rb < w.heap.size + 1 by omega) (o := 4) (u := .int .i64 Q.pos)).set (show rb < w.heap.size + 1 by omega) (o := 5) (u := .string (mkB Q.data))
                obtain ⟨Z, hZ⟩ : ∃ X, ((((((X21.setCell ⟨w.heap.size + 1, 0, none⟩ (.int .i64 Q.who)).setCell ⟨w.heap.size + 1, 1, none⟩ (.int .i64 Q.ep)).setCell ⟨w.heap.size + 1, 2, none⟩ (.int .i64 Q.num)).setCell ⟨w.heap.size + 1, 3, none⟩ (.int .i64 Q.obj)).setCell ⟨w.heap.size + 1, 4, none⟩ (.int .i64 Q.pos)).setCell ⟨w.heap.size + 1, 5, none⟩ (.string (mkB Q.data))) = X := ⟨_, rfl⟩
                rw [hZ] at hz hE hRd
                have HE := Lib.hid hE
                have HRd := Lib.hid hRd
                have hpf : p5 ≤ p + 20 := by omega
                have HPF := Lib.hid hpf
                have HDQ := Lib.hid hdq
                clear hE hRd hpf hdq q0_ q1_ q2_ q3_ q4_ q5_ q6_ q7_ q8_ q9_ q10_ q11_ q12_ q13_
                go_wp2
                obtain ⟨t0, t1, t2, t3, t4, t5, -, -, -, -, -, -⟩ := hz
                exact bodyPost_ret (v := .agg (rqA Q)) (by simp [results, Tryd.results41, go_sem, t0, t1, t2, t3, t4, t5, rqA]) rfl ⟨Q, _, rfl, HDQ.out, HRd.out, HPF.out, HE.out⟩
              · have d5 : (cc == 5) = false := by simpa using e5
                have q0_ := S_0.out
                have q1_ := S_1.out
                have q2_ := S_2.out
                have q3_ := S_3.out
                have q4_ := S_4.out
                have q5_ := S_5.out
                have q6_ := S_6.out
                have q7_ := S_7b.out
                have q8_ := S_8.out
                have q9_ := S_9.out
                have q10_ := S_10.out
                have q11_ := S_12.out
                obtain ⟨Q, HQ, hdq⟩ : ∃ Q : ReqT, Box6W w9 (w5.heap.size) Q ∧ Q.data.length ≤ 49 := ⟨_, bQ_12.out, by first | exact hdt | exact hdu⟩
                obtain ⟨x0, x1, x2, x3, x4, x5, -, -, -, -, -, -⟩ := HQ
                obtain ⟨s0, s1, s2, s3, s4, s5, f0, f1, f2, f3, f4, f5⟩ := bR_12.out
                have hz : Box6W ((((((w9.setCell ⟨w.heap.size + 1, 0, none⟩ (.int .i64 Q.who)).setCell ⟨w.heap.size + 1, 1, none⟩ (.int .i64 Q.ep)).setCell ⟨w.heap.size + 1, 2, none⟩ (.int .i64 Q.num)).setCell ⟨w.heap.size + 1, 3, none⟩ (.int .i64 Q.obj)).setCell ⟨w.heap.size + 1, 4, none⟩ (.int .i64 Q.pos)).setCell ⟨w.heap.size + 1, 5, none⟩ (.string (mkB Q.data))) (w.heap.size + 1) Q := by
                  have h := (((((bR_12.out.set0 Q.who).set1 Q.ep).set2 Q.num).set3 Q.obj).set4 Q.pos).set5 Q.data
                  exact h
                have hE := grown_new (grown_new (grown_new (grown_new (grown_new (grown_new E_12.out (show w.heap.size ≤ w.heap.size + 1 by omega) (o := 0) (v := .int .i64 Q.who)) (show w.heap.size ≤ w.heap.size + 1 by omega) (o := 1) (v := .int .i64 Q.ep)) (show w.heap.size ≤ w.heap.size + 1 by omega) (o := 2) (v := .int .i64 Q.num)) (show w.heap.size ≤ w.heap.size + 1 by omega) (o := 3) (v := .int .i64 Q.obj)) (show w.heap.size ≤ w.heap.size + 1 by omega) (o := 4) (v := .int .i64 Q.pos)) (show w.heap.size ≤ w.heap.size + 1 by omega) (o := 5) (v := .string (mkB Q.data))
                have hRd := (((((R_12.out.set (show rb < w.heap.size + 1 by omega) (o := 0) (u := .int .i64 Q.who)).set (show rb < w.heap.size + 1 by omega) (o := 1) (u := .int .i64 Q.ep)).set (show rb < w.heap.size + 1 by omega) (o := 2) (u := .int .i64 Q.num)).set (show rb < w.heap.size + 1 by omega) (o := 3) (u := .int .i64 Q.obj)).set (show rb < w.heap.size + 1 by omega) (o := 4) (u := .int .i64 Q.pos)).set (show rb < w.heap.size + 1 by omega) (o := 5) (u := .string (mkB Q.data))
                obtain ⟨Z, hZ⟩ : ∃ X, ((((((w9.setCell ⟨w.heap.size + 1, 0, none⟩ (.int .i64 Q.who)).setCell ⟨w.heap.size + 1, 1, none⟩ (.int .i64 Q.ep)).setCell ⟨w.heap.size + 1, 2, none⟩ (.int .i64 Q.num)).setCell ⟨w.heap.size + 1, 3, none⟩ (.int .i64 Q.obj)).setCell ⟨w.heap.size + 1, 4, none⟩ (.int .i64 Q.pos)).setCell ⟨w.heap.size + 1, 5, none⟩ (.string (mkB Q.data))) = X := ⟨_, rfl⟩
                rw [hZ] at hz hE hRd
                have HE := Lib.hid hE
                have HRd := Lib.hid hRd
                have hpf : p1 + 1 + 1 + 1 ≤ p + 20 := by omega
                have HPF := Lib.hid hpf
                have HDQ := Lib.hid hdq
                clear hE hRd hpf hdq q0_ q1_ q2_ q3_ q4_ q5_ q6_ q7_ q8_ q9_ q10_ q11_
                go_wp2
                obtain ⟨t0, t1, t2, t3, t4, t5, -, -, -, -, -, -⟩ := hz
                exact bodyPost_ret (v := .agg (rqA Q)) (by simp [results, Tryd.results41, go_sem, t0, t1, t2, t3, t4, t5, rqA]) rfl ⟨Q, _, rfl, HDQ.out, HRd.out, HPF.out, HE.out⟩
  · have df : decide (0 < fl) = false := by simpa using ef
    go_wp2_with fail
    refine (pick_any rb (p1 + 1) 50 _ R_8.out (by omega) (by omega) (by omega)).mono ?_; rintro e w22 ⟨cc, rfl, cc0, cc1, hr, hg⟩
    have q0_ := S_0.out
    have q1_ := S_1.out
    have q2_ := S_2.out
    have q3_ := S_3.out
    have q4_ := S_4.out
    have q5_ := S_5.out
    have q6_ := S_6.out
    have q7_ := S_7b.out
    have q8_ := S_8.out
    have ht := grown_btn hg
    have bA_9 := Lib.hid (bA_8.out.btn ht (by omega))
    have bR_9 := Lib.hid (bR_8.out.btn ht (by omega))
    have bQ_9 := Lib.hid (bQ_8.out.btn ht (by omega))
    have E_9 := Lib.hid (grown_trans E_8.out hg)
    have R_9 := Lib.hid (hr)
    have S_9 := Lib.hid ht.size
    clear bA_8 bR_8 bQ_8 E_8 R_8 hg hr ht q0_ q1_ q2_ q3_ q4_ q5_ q6_ q7_ q8_
    replace cc1 := cc1 (by omega)
    by_cases e0 : cc = 0
    · subst e0
      go_wp2_with fail
      refine (l4WhoDraw_any rb (p1 + 1 + 1) _ R_9.out (by omega)).mono ?_; rintro e w23 ⟨u, p5, rfl, -, hr, hp5, hg⟩
      have q0_ := S_0.out
      have q1_ := S_1.out
      have q2_ := S_2.out
      have q3_ := S_3.out
      have q4_ := S_4.out
      have q5_ := S_5.out
      have q6_ := S_6.out
      have q7_ := S_7b.out
      have q8_ := S_8.out
      have q9_ := S_9.out
      have ht := grown_btn hg
      have bA_10 := Lib.hid (bA_9.out.btn ht (by omega))
      have bR_10 := Lib.hid (bR_9.out.btn ht (by omega))
      have bQ_10 := Lib.hid (bQ_9.out.btn ht (by omega))
      have E_10 := Lib.hid (grown_trans E_9.out hg)
      have R_10 := Lib.hid (hr)
      have S_10 := Lib.hid ht.size
      clear bA_9 bR_9 bQ_9 E_9 R_9 hg hr ht q0_ q1_ q2_ q3_ q4_ q5_ q6_ q7_ q8_ q9_
      have hq6 := bQ_10.out
      obtain ⟨v0', v1', v2', v3', v4', v5', w0', w1', w2', w3', w4', w5'⟩ := hq6
      have q0_ := S_0.out
      have q1_ := S_1.out
      have q2_ := S_2.out
      have q3_ := S_3.out
      have q4_ := S_4.out
      have q5_ := S_5.out
      have q6_ := S_6.out
      have q7_ := S_7b.out
      have q8_ := S_8.out
      have q9_ := S_9.out
      have q10_ := S_10.out
      obtain ⟨X24, hX24⟩ : ∃ X, w23.setCell ⟨w5.heap.size, 0, none⟩ (.int .i64 u) = X := ⟨_, rfl⟩
      have ht : Btn (w5.heap.size) (w5.heap.size + 1) w23 X24 := by rw [← hX24]; exact btn_set _ _ _ _
      have hB := bQ_10.out.set0 u
      rw [hX24] at hB
      have hE := grown_new E_10.out (show w.heap.size ≤ w5.heap.size by omega) (o := 0) (v := .int .i64 u)
      have hRd := R_10.out.set (show rb < w5.heap.size by omega) (o := 0) (u := .int .i64 u)
      rw [hX24] at hE hRd
      have bA_11 := Lib.hid (bA_10.out.btn ht (by omega))
      have bR_11 := Lib.hid (bR_10.out.btn ht (by omega))
      have E_11 := Lib.hid (hE)
      have R_11 := Lib.hid (hRd)
      have S_11 := Lib.hid ht.size
      clear bA_10 bR_10 E_10 R_10 ht hE hRd bQ_10 q0_ q1_ q2_ q3_ q4_ q5_ q6_ q7_ q8_ q9_ q10_
      have bQ_12 := Lib.hid hB
      clear hB
      have q0_ := S_0.out
      have q1_ := S_1.out
      have q2_ := S_2.out
      have q3_ := S_3.out
      have q4_ := S_4.out
      have q5_ := S_5.out
      have q6_ := S_6.out
      have q7_ := S_7b.out
      have q8_ := S_8.out
      have q9_ := S_9.out
      have q10_ := S_10.out
      have q11_ := S_11.out
      obtain ⟨Q, HQ, hdq⟩ : ∃ Q : ReqT, Box6W X24 (w5.heap.size) Q ∧ Q.data.length ≤ 49 := ⟨_, bQ_12.out, by first | exact hdt | exact hdu⟩
      obtain ⟨x0, x1, x2, x3, x4, x5, -, -, -, -, -, -⟩ := HQ
      obtain ⟨s0, s1, s2, s3, s4, s5, f0, f1, f2, f3, f4, f5⟩ := bR_11.out
      have hz : Box6W ((((((X24.setCell ⟨w.heap.size + 1, 0, none⟩ (.int .i64 Q.who)).setCell ⟨w.heap.size + 1, 1, none⟩ (.int .i64 Q.ep)).setCell ⟨w.heap.size + 1, 2, none⟩ (.int .i64 Q.num)).setCell ⟨w.heap.size + 1, 3, none⟩ (.int .i64 Q.obj)).setCell ⟨w.heap.size + 1, 4, none⟩ (.int .i64 Q.pos)).setCell ⟨w.heap.size + 1, 5, none⟩ (.string (mkB Q.data))) (w.heap.size + 1) Q := by
        have h := (((((bR_11.out.set0 Q.who).set1 Q.ep).set2 Q.num).set3 Q.obj).set4 Q.pos).set5 Q.data
        exact h
      have hE := grown_new (grown_new (grown_new (grown_new (grown_new (grown_new E_11.out (show w.heap.size ≤ w.heap.size + 1 by omega) (o := 0) (v := .int .i64 Q.who)) (show w.heap.size ≤ w.heap.size + 1 by omega) (o := 1) (v := .int .i64 Q.ep)) (show w.heap.size ≤ w.heap.size + 1 by omega) (o := 2) (v := .int .i64 Q.num)) (show w.heap.size ≤ w.heap.size + 1 by omega) (o := 3) (v := .int .i64 Q.obj)) (show w.heap.size ≤ w.heap.size + 1 by omega) (o := 4) (v := .int .i64 Q.pos)) (show w.heap.size ≤ w.heap.size + 1 by omega) (o := 5) (v := .string (mkB Q.data))
      have hRd := (((((R_11.out.set (show rb < w.heap.size + 1 by omega) (o := 0) (u := .int .i64 Q.who)).set (show rb < w.heap.size + 1 by omega) (o := 1) (u := .int .i64 Q.ep)).set (show rb < w.heap.size + 1 by omega) (o := 2) (u := .int .i64 Q.num)).set (show rb < w.heap.size + 1 by omega) (o := 3) (u := .int .i64 Q.obj)).set (show rb < w.heap.size + 1 by omega) (o := 4) (u := .int .i64 Q.pos)).set (show rb < w.heap.size + 1 by omega) (o := 5) (u := .string (mkB Q.data))
      obtain ⟨Z, hZ⟩ : ∃ X, ((((((X24.setCell ⟨w.heap.size + 1, 0, none⟩ (.int .i64 Q.who)).setCell ⟨w.heap.size + 1, 1, none⟩ (.int .i64 Q.ep)).setCell ⟨w.heap.size + 1, 2, none⟩ (.int .i64 Q.num)).setCell ⟨w.heap.size + 1, 3, none⟩ (.int .i64 Q.obj)).setCell ⟨w.heap.size + 1, 4, none⟩ (.int .i64 Q.pos)).setCell ⟨w.heap.size + 1, 5, none⟩ (.string (mkB Q.data))) = X := ⟨_, rfl⟩
      rw [hZ] at hz hE hRd
      have HE := Lib.hid hE
      have HRd := Lib.hid hRd
      have hpf : p5 ≤ p + 20 := by omega
      have HPF := Lib.hid hpf
      have HDQ := Lib.hid hdq
      clear hE hRd hpf hdq q0_ q1_ q2_ q3_ q4_ q5_ q6_ q7_ q8_ q9_ q10_ q11_
      go_wp2
      obtain ⟨t0, t1, t2, t3, t4, t5, -, -, -, -, -, -⟩ := hz
      exact bodyPost_ret (v := .agg (rqA Q)) (by simp [results, Tryd.results41, go_sem, t0, t1, t2, t3, t4, t5, rqA]) rfl ⟨Q, _, rfl, HDQ.out, HRd.out, HPF.out, HE.out⟩
    · have d0 : (cc == 0) = false := by simpa using e0
      by_cases e1 : cc = 1
      · subst e1
        go_wp2_with fail
        refine (numLA_any rb (p1 + 1 + 1) [-1, 3] 2 (fun _ => True) w22 w22.heap.size _ _ rfl rfl rfl R_9.out (by omega) (by omega) (by omega) (by simp)).mono ?_; rintro e w25 ⟨u, p5, rfl, -, hr, hp5, hg⟩
        have q0_ := S_0.out
        have q1_ := S_1.out
        have q2_ := S_2.out
        have q3_ := S_3.out
        have q4_ := S_4.out
        have q5_ := S_5.out
        have q6_ := S_6.out
        have q7_ := S_7b.out
        have q8_ := S_8.out
        have q9_ := S_9.out
        have ht := grown_btn hg
        have bA_10 := Lib.hid (bA_9.out.btn ht (by omega))
        have bR_10 := Lib.hid (bR_9.out.btn ht (by omega))
        have bQ_10 := Lib.hid (bQ_9.out.btn ht (by omega))
        have E_10 := Lib.hid (grown_trans E_9.out hg)
        have R_10 := Lib.hid (hr)
        have S_10 := Lib.hid ht.size
        clear bA_9 bR_9 bQ_9 E_9 R_9 hg hr ht q0_ q1_ q2_ q3_ q4_ q5_ q6_ q7_ q8_ q9_
        have hq6 := bQ_10.out
        obtain ⟨v0', v1', v2', v3', v4', v5', w0', w1', w2', w3', w4', w5'⟩ := hq6
        have q0_ := S_0.out
        have q1_ := S_1.out
        have q2_ := S_2.out
        have q3_ := S_3.out
        have q4_ := S_4.out
        have q5_ := S_5.out
        have q6_ := S_6.out
        have q7_ := S_7b.out
        have q8_ := S_8.out
        have q9_ := S_9.out
        have q10_ := S_10.out
        obtain ⟨X26, hX26⟩ : ∃ X, w25.setCell ⟨w5.heap.size, 3, none⟩ (.int .i64 u) = X := ⟨_, rfl⟩
        have ht : Btn (w5.heap.size) (w5.heap.size + 1) w25 X26 := by rw [← hX26]; exact btn_set _ _ _ _
        have hB := bQ_10.out.set3 u
        rw [hX26] at hB
        have hE := grown_new E_10.out (show w.heap.size ≤ w5.heap.size by omega) (o := 3) (v := .int .i64 u)
        have hRd := R_10.out.set (show rb < w5.heap.size by omega) (o := 3) (u := .int .i64 u)
        rw [hX26] at hE hRd
        have bA_11 := Lib.hid (bA_10.out.btn ht (by omega))
        have bR_11 := Lib.hid (bR_10.out.btn ht (by omega))
        have E_11 := Lib.hid (hE)
        have R_11 := Lib.hid (hRd)
        have S_11 := Lib.hid ht.size
        clear bA_10 bR_10 E_10 R_10 ht hE hRd bQ_10 q0_ q1_ q2_ q3_ q4_ q5_ q6_ q7_ q8_ q9_ q10_
        have bQ_12 := Lib.hid hB
        clear hB
        have q0_ := S_0.out
        have q1_ := S_1.out
        have q2_ := S_2.out
        have q3_ := S_3.out
        have q4_ := S_4.out
        have q5_ := S_5.out
        have q6_ := S_6.out
        have q7_ := S_7b.out
        have q8_ := S_8.out
        have q9_ := S_9.out
        have q10_ := S_10.out
        have q11_ := S_11.out
        obtain ⟨Q, HQ, hdq⟩ : ∃ Q : ReqT, Box6W X26 (w5.heap.size) Q ∧ Q.data.length ≤ 49 := ⟨_, bQ_12.out, by first | exact hdt | exact hdu⟩
        obtain ⟨x0, x1, x2, x3, x4, x5, -, -, -, -, -, -⟩ := HQ
        obtain ⟨s0, s1, s2, s3, s4, s5, f0, f1, f2, f3, f4, f5⟩ := bR_11.out
        have hz : Box6W ((((((X26.setCell ⟨w.heap.size + 1, 0, none⟩ (.int .i64 Q.who)).setCell ⟨w.heap.size + 1, 1, none⟩ (.int .i64 Q.ep)).setCell ⟨w.heap.size + 1, 2, none⟩ (.int .i64 Q.num)).setCell ⟨w.heap.size + 1, 3, none⟩ (.int .i64 Q.obj)).setCell ⟨w.heap.size + 1, 4, none⟩ (.int .i64 Q.pos)).setCell ⟨w.heap.size + 1, 5, none⟩ (.string (mkB Q.data))) (w.heap.size + 1) Q := by
          have h := (((((bR_11.out.set0 Q.who).set1 Q.ep).set2 Q.num).set3 Q.obj).set4 Q.pos).set5 Q.data
          exact h
        have hE := grown_new (grown_new (grown_new (grown_new (grown_new (grown_new E_11.out (show w.heap.size ≤ w.heap.size + 1 by omega) (o := 0) (v := .int .i64 Q.who)) (show w.heap.size ≤ w.heap.size + 1 by omega) (o := 1) (v := .int .i64 Q.ep)) (show w.heap.size ≤ w.heap.size + 1 by omega) (o := 2) (v := .int .i64 Q.num)) (show w.heap.size ≤ w.heap.size + 1 by omega) (o := 3) (v := .int .i64 Q.obj)) (show w.heap.size ≤ w.heap.size + 1 by omega) (o := 4) (v := .int .i64 Q.pos)) (show w.heap.size ≤ w.heap.size + 1 by omega) (o := 5) (v := .string (mkB Q.data))
        have hRd := (((((R_11.out.set (show rb < w.heap.size + 1 by omega) (o := 0) (u := .int .i64 Q.who)).set (show rb < w.heap.size + 1 by omega) (o := 1) (u := .int .i64 Q.ep)).set (show rb < w.heap.size + 1 by omega) (o := 2) (u := .int .i64 Q.num)).set (show rb < w.heap.size + 1 by omega) (o := 3) (u := .int .i64 Q.obj)).set (show rb < w.heap.size + 1 by omega) (o := 4) (u := .int .i64 Q.pos)).set (show rb < w.heap.size + 1 by omega) (o := 5) (u := .string (mkB Q.data))
        obtain ⟨Z, hZ⟩ : ∃ X, ((((((X26.setCell ⟨w.heap.size + 1, 0, none⟩ (.int .i64 Q.who)).setCell ⟨w.heap.size + 1, 1, none⟩ (.int .i64 Q.ep)).setCell ⟨w.heap.size + 1, 2, none⟩ (.int .i64 Q.num)).setCell ⟨w.heap.size + 1, 3, none⟩ (.int .i64 Q.obj)).setCell ⟨w.heap.size + 1, 4, none⟩ (.int .i64 Q.pos)).setCell ⟨w.heap.size + 1, 5, none⟩ (.string (mkB Q.data))) = X := ⟨_, rfl⟩
        rw [hZ] at hz hE hRd
        have HE := Lib.hid hE
        have HRd := Lib.hid hRd
        have hpf : p5 ≤ p + 20 := by omega
        have HPF := Lib.hid hpf
        have HDQ := Lib.hid hdq
        clear hE hRd hpf hdq q0_ q1_ q2_ q3_ q4_ q5_ q6_ q7_ q8_ q9_ q10_ q11_
        go_wp2
        obtain ⟨t0, t1, t2, t3, t4, t5, -, -, -, -, -, -⟩ := hz
        exact bodyPost_ret (v := .agg (rqA Q)) (by simp [results, Tryd.results41, go_sem, t0, t1, t2, t3, t4, t5, rqA]) rfl ⟨Q, _, rfl, HDQ.out, HRd.out, HPF.out, HE.out⟩
      · have d1 : (cc == 1) = false := by simpa using e1
        by_cases e2 : cc = 2
        · subst e2
          go_wp2_with fail
          refine (numLA_any rb (p1 + 1 + 1) [-1, 48, 9223372036854775807] 3 (fun _ => True) w22 w22.heap.size _ _ rfl rfl rfl R_9.out (by omega) (by omega) (by omega) (by simp)).mono ?_; rintro e w27 ⟨u, p5, rfl, -, hr, hp5, hg⟩
          have q0_ := S_0.out
          have q1_ := S_1.out
          have q2_ := S_2.out
          have q3_ := S_3.out
          have q4_ := S_4.out
          have q5_ := S_5.out
          have q6_ := S_6.out
          have q7_ := S_7b.out
          have q8_ := S_8.out
          have q9_ := S_9.out
          have ht := grown_btn hg
          have bA_10 := Lib.hid (bA_9.out.btn ht (by omega))
          have bR_10 := Lib.hid (bR_9.out.btn ht (by omega))
          have bQ_10 := Lib.hid (bQ_9.out.btn ht (by omega))
          have E_10 := Lib.hid (grown_trans E_9.out hg)
          have R_10 := Lib.hid (hr)
          have S_10 := Lib.hid ht.size
          clear bA_9 bR_9 bQ_9 E_9 R_9 hg hr ht q0_ q1_ q2_ q3_ q4_ q5_ q6_ q7_ q8_ q9_
          have hq6 := bQ_10.out
          obtain ⟨v0', v1', v2', v3', v4', v5', w0', w1', w2', w3', w4', w5'⟩ := hq6
          have q0_ := S_0.out
          have q1_ := S_1.out
          have q2_ := S_2.out
          have q3_ := S_3.out
          have q4_ := S_4.out
          have q5_ := S_5.out
          have q6_ := S_6.out
          have q7_ := S_7b.out
          have q8_ := S_8.out
          have q9_ := S_9.out
          have q10_ := S_10.out
          obtain ⟨X28, hX28⟩ : ∃ X, w27.setCell ⟨w5.heap.size, 4, none⟩ (.int .i64 u) = X := ⟨_, rfl⟩
          have ht : Btn (w5.heap.size) (w5.heap.size + 1) w27 X28 := by rw [← hX28]; exact btn_set _ _ _ _
          have hB := bQ_10.out.set4 u
          rw [hX28] at hB
          have hE := grown_new E_10.out (show w.heap.size ≤ w5.heap.size by omega) (o := 4) (v := .int .i64 u)
          have hRd := R_10.out.set (show rb < w5.heap.size by omega) (o := 4) (u := .int .i64 u)
          rw [hX28] at hE hRd
          have bA_11 := Lib.hid (bA_10.out.btn ht (by omega))
          have bR_11 := Lib.hid (bR_10.out.btn ht (by omega))
          have E_11 := Lib.hid (hE)
          have R_11 := Lib.hid (hRd)
          have S_11 := Lib.hid ht.size
          clear bA_10 bR_10 E_10 R_10 ht hE hRd bQ_10 q0_ q1_ q2_ q3_ q4_ q5_ q6_ q7_ q8_ q9_ q10_
          have bQ_12 := Lib.hid hB
          clear hB
          have q0_ := S_0.out
          have q1_ := S_1.out
          have q2_ := S_2.out
          have q3_ := S_3.out
          have q4_ := S_4.out
          have q5_ := S_5.out
          have q6_ := S_6.out
          have q7_ := S_7b.out
          have q8_ := S_8.out
          have q9_ := S_9.out
          have q10_ := S_10.out
          have q11_ := S_11.out
          obtain ⟨Q, HQ, hdq⟩ : ∃ Q : ReqT, Box6W X28 (w5.heap.size) Q ∧ Q.data.length ≤ 49 := ⟨_, bQ_12.out, by first | exact hdt | exact hdu⟩
          obtain ⟨x0, x1, x2, x3, x4, x5, -, -, -, -, -, -⟩ := HQ
          obtain ⟨s0, s1, s2, s3, s4, s5, f0, f1, f2, f3, f4, f5⟩ := bR_11.out
          have hz : Box6W ((((((X28.setCell ⟨w.heap.size + 1, 0, none⟩ (.int .i64 Q.who)).setCell ⟨w.heap.size + 1, 1, none⟩ (.int .i64 Q.ep)).setCell ⟨w.heap.size + 1, 2, none⟩ (.int .i64 Q.num)).setCell ⟨w.heap.size + 1, 3, none⟩ (.int .i64 Q.obj)).setCell ⟨w.heap.size + 1, 4, none⟩ (.int .i64 Q.pos)).setCell ⟨w.heap.size + 1, 5, none⟩ (.string (mkB Q.data))) (w.heap.size + 1) Q := by
            have h := (((((bR_11.out.set0 Q.who).set1 Q.ep).set2 Q.num).set3 Q.obj).set4 Q.pos).set5 Q.data
            exact h
          have hE := grown_new (grown_new (grown_new (grown_new (grown_new (grown_new E_11.out (show w.heap.size ≤ w.heap.size + 1 by omega) (o := 0) (v := .int .i64 Q.who)) (show w.heap.size ≤ w.heap.size + 1 by omega) (o := 1) (v := .int .i64 Q.ep)) (show w.heap.size ≤ w.heap.size + 1 by omega) (o := 2) (v := .int .i64 Q.num)) (show w.heap.size ≤ w.heap.size + 1 by omega) (o := 3) (v := .int .i64 Q.obj)) (show w.heap.size ≤ w.heap.size + 1 by omega) (o := 4) (v := .int .i64 Q.pos)) (show w.heap.size ≤ w.heap.size + 1 by omega) (o := 5) (v := .string (mkB Q.data))
          have hRd := (((((R_11.out.set (show rb < w.heap.size + 1 by omega) (o := 0) (u := .int .i64 Q.who)).set (show rb < w.heap.size + 1 by omega) (o := 1) (u := .int .i64 Q.ep)).set (show rb < w.heap.size + 1 by omega) (o := 2) (u := .int .i64 Q.num)).set (show rb < w.heap.size + 1 by omega) (o := 3) (u := .int .i64 Q.obj)).set (show rb < w.heap.size + 1 by omega) (o := 4) (u := .int .i64 Q.pos)).set (show rb < w.heap.size + 1 by omega) (o := 5) (u := .string (mkB Q.data))
          obtain ⟨Z, hZ⟩ : ∃ X, ((((((X28.setCell ⟨w.heap.size + 1, 0, none⟩ (.int .i64 Q.who)).setCell ⟨w.heap.size + 1, 1, none⟩ (.int .i64 Q.ep)).setCell ⟨w.heap.size + 1, 2, none⟩ (.int .i64 Q.num)).setCell ⟨w.heap.size + 1, 3, none⟩ (.int .i64 Q.obj)).setCell ⟨w.heap.size + 1, 4, none⟩ (.int .i64 Q.pos)).setCell ⟨w.heap.size + 1, 5, none⟩ (.string (mkB Q.data))) = X := ⟨_, rfl⟩
          rw [hZ] at hz hE hRd
          have HE := Lib.hid hE
          have HRd := Lib.hid hRd
          have hpf : p5 ≤ p + 20 := by omega
          have HPF := Lib.hid hpf
          have HDQ := Lib.hid hdq
          clear hE hRd hpf hdq q0_ q1_ q2_ q3_ q4_ q5_ q6_ q7_ q8_ q9_ q10_ q11_
          go_wp2
          obtain ⟨t0, t1, t2, t3, t4, t5, -, -, -, -, -, -⟩ := hz
          exact bodyPost_ret (v := .agg (rqA Q)) (by simp [results, Tryd.results41, go_sem, t0, t1, t2, t3, t4, t5, rqA]) rfl ⟨Q, _, rfl, HDQ.out, HRd.out, HPF.out, HE.out⟩
        · have d2 : (cc == 2) = false := by simpa using e2
          by_cases e3 : cc = 3
          · subst e3
            go_wp2_with fail
            refine (ofL_any rb (p1 + 1 + 1) [[], [65], [97, 32, 98]] 3 (fun l => l.length ≤ 49) w22 _ _ rfl rfl R_9.out (by omega) (by omega) (by omega) (by simp)).mono ?_; rintro e w29 ⟨u, p5, rfl, hdu, hr, hp5, hg⟩
            have q0_ := S_0.out
            have q1_ := S_1.out
            have q2_ := S_2.out
            have q3_ := S_3.out
            have q4_ := S_4.out
            have q5_ := S_5.out
            have q6_ := S_6.out
            have q7_ := S_7b.out
            have q8_ := S_8.out
            have q9_ := S_9.out
            have ht := grown_btn hg
            have bA_10 := Lib.hid (bA_9.out.btn ht (by omega))
            have bR_10 := Lib.hid (bR_9.out.btn ht (by omega))
            have bQ_10 := Lib.hid (bQ_9.out.btn ht (by omega))
            have E_10 := Lib.hid (grown_trans E_9.out hg)
            have R_10 := Lib.hid (hr)
            have S_10 := Lib.hid ht.size
            clear bA_9 bR_9 bQ_9 E_9 R_9 hg hr ht q0_ q1_ q2_ q3_ q4_ q5_ q6_ q7_ q8_ q9_
            have hq6 := bQ_10.out
            obtain ⟨v0', v1', v2', v3', v4', v5', w0', w1', w2', w3', w4', w5'⟩ := hq6
            have q0_ := S_0.out
            have q1_ := S_1.out
            have q2_ := S_2.out
            have q3_ := S_3.out
            have q4_ := S_4.out
            have q5_ := S_5.out
            have q6_ := S_6.out
            have q7_ := S_7b.out
            have q8_ := S_8.out
            have q9_ := S_9.out
            have q10_ := S_10.out
            obtain ⟨X30, hX30⟩ : ∃ X, w29.setCell ⟨w5.heap.size, 5, none⟩ (.string (mkB u)) = X := ⟨_, rfl⟩
            have ht : Btn (w5.heap.size) (w5.heap.size + 1) w29 X30 := by rw [← hX30]; exact btn_set _ _ _ _
            have hB := bQ_10.out.set5 u
            rw [hX30] at hB
            have hE := grown_new E_10.out (show w.heap.size ≤ w5.heap.size by omega) (o := 5) (v := .string (mkB u))
            have hRd := R_10.out.set (show rb < w5.heap.size by omega) (o := 5) (u := .string (mkB u))
            rw [hX30] at hE hRd
            have bA_11 := Lib.hid (bA_10.out.btn ht (by omega))
            have bR_11 := Lib.hid (bR_10.out.btn ht (by omega))
            have E_11 := Lib.hid (hE)
            have R_11 := Lib.hid (hRd)
            have S_11 := Lib.hid ht.size
            clear bA_10 bR_10 E_10 R_10 ht hE hRd bQ_10 q0_ q1_ q2_ q3_ q4_ q5_ q6_ q7_ q8_ q9_ q10_
            have bQ_12 := Lib.hid hB
            clear hB
            have q0_ := S_0.out
            have q1_ := S_1.out
            have q2_ := S_2.out
            have q3_ := S_3.out
            have q4_ := S_4.out
            have q5_ := S_5.out
            have q6_ := S_6.out
            have q7_ := S_7b.out
            have q8_ := S_8.out
            have q9_ := S_9.out
            have q10_ := S_10.out
            have q11_ := S_11.out
            obtain ⟨Q, HQ, hdq⟩ : ∃ Q : ReqT, Box6W X30 (w5.heap.size) Q ∧ Q.data.length ≤ 49 := ⟨_, bQ_12.out, by first | exact hdt | exact hdu⟩
            obtain ⟨x0, x1, x2, x3, x4, x5, -, -, -, -, -, -⟩ := HQ
            obtain ⟨s0, s1, s2, s3, s4, s5, f0, f1, f2, f3, f4, f5⟩ := bR_11.out
            have hz : Box6W ((((((X30.setCell ⟨w.heap.size + 1, 0, none⟩ (.int .i64 Q.who)).setCell ⟨w.heap.size + 1, 1, none⟩ (.int .i64 Q.ep)).setCell ⟨w.heap.size + 1, 2, none⟩ (.int .i64 Q.num)).setCell ⟨w.heap.size + 1, 3, none⟩ (.int .i64 Q.obj)).setCell ⟨w.heap.size + 1, 4, none⟩ (.int .i64 Q.pos)).setCell ⟨w.heap.size + 1, 5, none⟩ (.string (mkB Q.data))) (w.heap.size + 1) Q := by
              have h := (((((bR_11.out.set0 Q.who).set1 Q.ep).set2 Q.num).set3 Q.obj).set4 Q.pos).set5 Q.data
              exact h
            have hE := grown_new (grown_new (grown_new (grown_new (grown_new (grown_new E_11.out (show w.heap.size ≤ w.heap.size + 1 by omega) (o := 0) (v := .int .i64 Q.who)) (show w.heap.size ≤ w.heap.size + 1 by omega) (o := 1) (v := .int .i64 Q.ep)) (show w.heap.size ≤ w.heap.size + 1 by omega) (o := 2) (v := .int .i64 Q.num)) (show w.heap.size ≤ w.heap.size + 1 by omega) (o := 3) (v := .int .i64 Q.obj)) (show w.heap.size ≤ w.heap.size + 1 by omega) (o := 4) (v := .int .i64 Q.pos)) (show w.heap.size ≤ w.heap.size + 1 by omega) (o := 5) (v := .string (mkB Q.data))
            have hRd := (((((R_11.out.set (show rb < w.heap.size + 1 by omega) (o := 0) (u := .int .i64 Q.who)).set (show rb < w.heap.size + 1 by omega) (o := 1) (u := .int .i64 Q.ep)).set (show rb < w.heap.size + 1 by omega) (o := 2) (u := .int .i64 Q.num)).set (show rb < w.heap.size + 1 by omega) (o := 3) (u := .int .i64 Q.obj)).set (show rb < w.heap.size + 1 by omega) (o := 4) (u := .int .i64 Q.pos)).set (show rb < w.heap.size + 1 by omega) (o := 5) (u := .string (mkB Q.data))
            obtain ⟨Z, hZ⟩ : ∃ X, ((((((X30.setCell ⟨w.heap.size + 1, 0, none⟩ (.int .i64 Q.who)).setCell ⟨w.heap.size + 1, 1, none⟩ (.int .i64 Q.ep)).setCell ⟨w.heap.size + 1, 2, none⟩ (.int .i64 Q.num)).setCell ⟨w.heap.size + 1, 3, none⟩ (.int .i64 Q.obj)).setCell ⟨w.heap.size + 1, 4, none⟩ (.int .i64 Q.pos)).setCell ⟨w.heap.size + 1, 5, none⟩ (.string (mkB Q.data))) = X := ⟨_, rfl⟩
            rw [hZ] at hz hE hRd
            have HE := Lib.hid hE
            have HRd := Lib.hid hRd
            have hpf : p5 ≤ p + 20 := by omega
            have HPF := Lib.hid hpf
            have HDQ := Lib.hid hdq
            clear hE hRd hpf hdq q0_ q1_ q2_ q3_ q4_ q5_ q6_ q7_ q8_ q9_ q10_ q11_
            go_wp2
            obtain ⟨t0, t1, t2, t3, t4, t5, -, -, -, -, -, -⟩ := hz
            exact bodyPost_ret (v := .agg (rqA Q)) (by simp [results, Tryd.results41, go_sem, t0, t1, t2, t3, t4, t5, rqA]) rfl ⟨Q, _, rfl, HDQ.out, HRd.out, HPF.out, HE.out⟩
          · have d3 : (cc == 3) = false := by simpa using e3
            by_cases e4 : cc = 4
            · subst e4
              go_wp2_with fail
              refine (numLA_any rb (p1 + 1 + 1) [0, -1, 1001] 3 (fun _ => True) w22 w22.heap.size _ _ rfl rfl rfl R_9.out (by omega) (by omega) (by omega) (by simp)).mono ?_; rintro e w31 ⟨u, p5, rfl, -, hr, hp5, hg⟩
              have q0_ := S_0.out
              have q1_ := S_1.out
              have q2_ := S_2.out
              have q3_ := S_3.out
              have q4_ := S_4.out
              have q5_ := S_5.out
              have q6_ := S_6.out
              have q7_ := S_7b.out
              have q8_ := S_8.out
              have q9_ := S_9.out
              have ht := grown_btn hg
              have bA_10 := Lib.hid (bA_9.out.btn ht (by omega))
              have bR_10 := Lib.hid (bR_9.out.btn ht (by omega))
              have bQ_10 := Lib.hid (bQ_9.out.btn ht (by omega))
              have E_10 := Lib.hid (grown_trans E_9.out hg)
              have R_10 := Lib.hid (hr)
              have S_10 := Lib.hid ht.size
              clear bA_9 bR_9 bQ_9 E_9 R_9 hg hr ht q0_ q1_ q2_ q3_ q4_ q5_ q6_ q7_ q8_ q9_
              have hq6 := bQ_10.out
              obtain ⟨v0', v1', v2', v3', v4', v5', w0', w1', w2', w3', w4', w5'⟩ := hq6
              have q0_ := S_0.out
              have q1_ := S_1.out
              have q2_ := S_2.out
              have q3_ := S_3.out
              have q4_ := S_4.out
              have q5_ := S_5.out
              have q6_ := S_6.out
              have q7_ := S_7b.out
              have q8_ := S_8.out
              have q9_ := S_9.out
              have q10_ := S_10.out
              obtain ⟨X32, hX32⟩ : ∃ X, w31.setCell ⟨w5.heap.size, 2, none⟩ (.int .i64 u) = X := ⟨_, rfl⟩
              have ht : Btn (w5.heap.size) (w5.heap.size + 1) w31 X32 := by rw [← hX32]; exact btn_set _ _ _ _
              have hB := bQ_10.out.set2 u
              rw [hX32] at hB
              have hE := grown_new E_10.out (show w.heap.size ≤ w5.heap.size by omega) (o := 2) (v := .int .i64 u)
              have hRd := R_10.out.set (show rb < w5.heap.size by omega) (o := 2) (u := .int .i64 u)
              rw [hX32] at hE hRd
              have bA_11 := Lib.hid (bA_10.out.btn ht (by omega))
              have bR_11 := Lib.hid (bR_10.out.btn ht (by omega))
              have E_11 := Lib.hid (hE)
              have R_11 := Lib.hid (hRd)
              have S_11 := Lib.hid ht.size
              clear bA_10 bR_10 E_10 R_10 ht hE hRd bQ_10 q0_ q1_ q2_ q3_ q4_ q5_ q6_ q7_ q8_ q9_ q10_
              have bQ_12 := Lib.hid hB
              clear hB
              have q0_ := S_0.out
              have q1_ := S_1.out
              have q2_ := S_2.out
              have q3_ := S_3.out
              have q4_ := S_4.out
              have q5_ := S_5.out
              have q6_ := S_6.out
              have q7_ := S_7b.out
              have q8_ := S_8.out
              have q9_ := S_9.out
              have q10_ := S_10.out
              have q11_ := S_11.out
              obtain ⟨Q, HQ, hdq⟩ : ∃ Q : ReqT, Box6W X32 (w5.heap.size) Q ∧ Q.data.length ≤ 49 := ⟨_, bQ_12.out, by first | exact hdt | exact hdu⟩
              obtain ⟨x0, x1, x2, x3, x4, x5, -, -, -, -, -, -⟩ := HQ
              obtain ⟨s0, s1, s2, s3, s4, s5, f0, f1, f2, f3, f4, f5⟩ := bR_11.out
              have hz : Box6W ((((((X32.setCell ⟨w.heap.size + 1, 0, none⟩ (.int .i64 Q.who)).setCell ⟨w.heap.size + 1, 1, none⟩ (.int .i64 Q.ep)).setCell ⟨w.heap.size + 1, 2, none⟩ (.int .i64 Q.num)).setCell ⟨w.heap.size + 1, 3, none⟩ (.int .i64 Q.obj)).setCell ⟨w.heap.size + 1, 4, none⟩ (.int .i64 Q.pos)).setCell ⟨w.heap.size + 1, 5, none⟩ (.string (mkB Q.data))) (w.heap.size + 1) Q := by
                have h := (((((bR_11.out.set0 Q.who).set1 Q.ep).set2 Q.num).set3 Q.obj).set4 Q.pos).set5 Q.data
                exact h
              have hE := grown_new (grown_new (grown_new (grown_new (grown_new (grown_new E_11.out (show w.heap.size ≤ w.heap.size + 1 by omega) (o := 0) (v := .int .i64 Q.who)) (show w.heap.size ≤ w.heap.size + 1 by omega) (o := 1) (v := .int .i64 Q.ep)) (show w.heap.size ≤ w.heap.size + 1 by omega) (o := 2) (v := .int .i64 Q.num)) (show w.heap.size ≤ w.heap.size + 1 by omega) (o := 3) (v := .int .i64 Q.obj)) (show w.heap.size ≤ w.heap.size + 1 by omega) (o := 4) (v := .int .i64 Q.pos)) (show w.heap.size ≤ w.heap.size + 1 by omega) (o := 5) (v := .string (mkB Q.data))
              have hRd := (((((R_11.out.set (show rb < w.heap.size + 1 by omega) (o := 0) (u := .int .i64 Q.who)).set (show rb < w.heap.size + 1 by omega) (o := 1) (u := .int .i64 Q.ep)).set (show rb < w.heap.size + 1 by omega) (o := 2) (u := .int .i64 Q.num)).set (show rb < w.heap.size + 1 by omega) (o := 3) (u := .int .i64 Q.obj)).set (show rb < w.heap.size + 1 by omega) (o := 4) (u := .int .i64 Q.pos)).set (show rb < w.heap.size + 1 by omega) (o := 5) (u := .string (mkB Q.data))
              obtain ⟨Z, hZ⟩ : ∃ X, ((((((X32.setCell ⟨w.heap.size + 1, 0, none⟩ (.int .i64 Q.who)).setCell ⟨w.heap.size + 1, 1, none⟩ (.int .i64 Q.ep)).setCell ⟨w.heap.size + 1, 2, none⟩ (.int .i64 Q.num)).setCell ⟨w.heap.size + 1, 3, none⟩ (.int .i64 Q.obj)).setCell ⟨w.heap.size + 1, 4, none⟩ (.int .i64 Q.pos)).setCell ⟨w.heap.size + 1, 5, none⟩ (.string (mkB Q.data))) = X := ⟨_, rfl⟩
              rw [hZ] at hz hE hRd
              have HE := Lib.hid hE
              have HRd := Lib.hid hRd
              have hpf : p5 ≤ p + 20 := by omega
              have HPF := Lib.hid hpf
              have HDQ := Lib.hid hdq
              clear hE hRd hpf hdq q0_ q1_ q2_ q3_ q4_ q5_ q6_ q7_ q8_ q9_ q10_ q11_
              go_wp2
              obtain ⟨t0, t1, t2, t3, t4, t5, -, -, -, -, -, -⟩ := hz
              exact bodyPost_ret (v := .agg (rqA Q)) (by simp [results, Tryd.results41, go_sem, t0, t1, t2, t3, t4, t5, rqA]) rfl ⟨Q, _, rfl, HDQ.out, HRd.out, HPF.out, HE.out⟩
            · have d4 : (cc == 4) = false := by simpa using e4
              by_cases e5 : cc = 5
              · subst e5
                go_wp2_with fail
                refine (numLA_any rb (p1 + 1 + 1) [-1, 101] 2 (fun _ => True) w22 w22.heap.size _ _ rfl rfl rfl R_9.out (by omega) (by omega) (by omega) (by simp)).mono ?_; rintro e w33 ⟨u, p5, rfl, -, hr, hp5, hg⟩
                have q0_ := S_0.out
                have q1_ := S_1.out
                have q2_ := S_2.out
                have q3_ := S_3.out
                have q4_ := S_4.out
                have q5_ := S_5.out
                have q6_ := S_6.out
                have q7_ := S_7b.out
                have q8_ := S_8.out
                have q9_ := S_9.out
                have ht := grown_btn hg
                have bA_10 := Lib.hid (bA_9.out.btn ht (by omega))
                have bR_10 := Lib.hid (bR_9.out.btn ht (by omega))
                have bQ_10 := Lib.hid (bQ_9.out.btn ht (by omega))
                have E_10 := Lib.hid (grown_trans E_9.out hg)
                have R_10 := Lib.hid (hr)
                have S_10 := Lib.hid ht.size
                clear bA_9 bR_9 bQ_9 E_9 R_9 hg hr ht q0_ q1_ q2_ q3_ q4_ q5_ q6_ q7_ q8_ q9_
                have hq6 := bQ_10.out
                obtain ⟨v0', v1', v2', v3', v4', v5', w0', w1', w2', w3', w4', w5'⟩ := hq6
                have q0_ := S_0.out
                have q1_ := S_1.out
                have q2_ := S_2.out
                have q3_ := S_3.out
                have q4_ := S_4.out
                have q5_ := S_5.out
                have q6_ := S_6.out
                have q7_ := S_7b.out
                have q8_ := S_8.out
                have q9_ := S_9.out
                have q10_ := S_10.out
                obtain ⟨X34, hX34⟩ : ∃ X, w33.setCell ⟨w5.heap.size, 1, none⟩ (.int .i64 u) = X := ⟨_, rfl⟩
                have ht : Btn (w5.heap.size) (w5.heap.size + 1) w33 X34 := by rw [← hX34]; exact btn_set _ _ _ _
                have hB := bQ_10.out.set1 u
                rw [hX34] at hB
                have hE := grown_new E_10.out (show w.heap.size ≤ w5.heap.size by omega) (o := 1) (v := .int .i64 u)
                have hRd := R_10.out.set (show rb < w5.heap.size by omega) (o := 1) (u := .int .i64 u)
                rw [hX34] at hE hRd
                have bA_11 := Lib.hid (bA_10.out.btn ht (by omega))
                have bR_11 := Lib.hid (bR_10.out.btn ht (by omega))
                have E_11 := Lib.hid (hE)
                have R_11 := Lib.hid (hRd)
                have S_11 := Lib.hid ht.size
                clear bA_10 bR_10 E_10 R_10 ht hE hRd bQ_10 q0_ q1_ q2_ q3_ q4_ q5_ q6_ q7_ q8_ q9_ q10_
                have bQ_12 := Lib.hid hB
                clear hB
                have q0_ := S_0.out
                have q1_ := S_1.out
                have q2_ := S_2.out
                have q3_ := S_3.out
                have q4_ := S_4.out
                have q5_ := S_5.out
                have q6_ := S_6.out
                have q7_ := S_7b.out
                have q8_ := S_8.out
                have q9_ := S_9.out
                have q10_ := S_10.out
                have q11_ := S_11.out
                obtain ⟨Q, HQ, hdq⟩ : ∃ Q : ReqT, Box6W X34 (w5.heap.size) Q ∧ Q.data.length ≤ 49 := ⟨_, bQ_12.out, by first | exact hdt | exact hdu⟩
                obtain ⟨x0, x1, x2, x3, x4, x5, -, -, -, -, -, -⟩ := HQ
                obtain ⟨s0, s1, s2, s3, s4, s5, f0, f1, f2, f3, f4, f5⟩ := bR_11.out
                have hz : Box6W ((((((X34.setCell ⟨w.heap.size + 1, 0, none⟩ (.int .i64 Q.who)).setCell ⟨w.heap.size + 1, 1, none⟩ (.int .i64 Q.ep)).setCell ⟨w.heap.size + 1, 2, none⟩ (.int .i64 Q.num)).setCell ⟨w.heap.size + 1, 3, none⟩ (.int .i64 Q.obj)).setCell ⟨w.heap.size + 1, 4, none⟩ (.int .i64 Q.pos)).setCell ⟨w.heap.size + 1, 5, none⟩ (.string (mkB Q.data))) (w.heap.size + 1) Q := by
                  have h := (((((bR_11.out.set0 Q.who).set1 Q.ep).set2 Q.num).set3 Q.obj).set4 Q.pos).set5 Q.data
                  exact h
                have hE := grown_new (grown_new (grown_new (grown_new (grown_new (grown_new E_11.out (show w.heap.size ≤ w.heap.size + 1 by omega) (o := 0) (v := .int .i64 Q.who)) (show w.heap.size ≤ w.heap.size + 1 by omega) (o := 1) (v := .int .i64 Q.ep)) (show w.heap.size ≤ w.heap.size + 1 by omega) (o := 2) (v := .int .i64 Q.num)) (show w.heap.size ≤ w.heap.size + 1 by omega) (o := 3) (v := .int .i64 Q.obj)) (show w.heap.size ≤ w.heap.size + 1 by omega) (o := 4) (v := .int .i64 Q.pos)) (show w.heap.size ≤ w.heap.size + 1 by omega) (o := 5) (v := .string (mkB Q.data))
                have hRd := (((((R_11.out.set (show rb < w.heap.size + 1 by omega) (o := 0) (u := .int .i64 Q.who)).set (show rb < w.heap.size + 1 by omega) (o := 1) (u := .int .i64 Q.ep)).set (show rb < w.heap.size + 1 by omega) (o := 2) (u := .int .i64 Q.num)).set (show rb < w.heap.size + 1 by omega) (o := 3) (u := .int .i64 Q.obj)).set (show rb < w.heap.size + 1 by omega) (o := 4) (u := .int .i64 Q.pos)).set (show rb < w.heap.size + 1 by omega) (o := 5) (u := .string (mkB Q.data))
                obtain ⟨Z, hZ⟩ : ∃ X, ((((((X34.setCell ⟨w.heap.size + 1, 0, none⟩ (.int .i64 Q.who)).setCell ⟨w.heap.size + 1, 1, none⟩ (.int .i64 Q.ep)).setCell ⟨w.heap.size + 1, 2, none⟩ (.int .i64 Q.num)).setCell ⟨w.heap.size + 1, 3, none⟩ (.int .i64 Q.obj)).setCell ⟨w.heap.size + 1, 4, none⟩ (.int .i64 Q.pos)).setCell ⟨w.heap.size + 1, 5, none⟩ (.string (mkB Q.data))) = X := ⟨_, rfl⟩
                rw [hZ] at hz hE hRd
                have HE := Lib.hid hE
                have HRd := Lib.hid hRd
                have hpf : p5 ≤ p + 20 := by omega
                have HPF := Lib.hid hpf
                have HDQ := Lib.hid hdq
                clear hE hRd hpf hdq q0_ q1_ q2_ q3_ q4_ q5_ q6_ q7_ q8_ q9_ q10_ q11_
                go_wp2
                obtain ⟨t0, t1, t2, t3, t4, t5, -, -, -, -, -, -⟩ := hz
                exact bodyPost_ret (v := .agg (rqA Q)) (by simp [results, Tryd.results41, go_sem, t0, t1, t2, t3, t4, t5, rqA]) rfl ⟨Q, _, rfl, HDQ.out, HRd.out, HPF.out, HE.out⟩
              · have d5 : (cc == 5) = false := by simpa using e5
                have q0_ := S_0.out
                have q1_ := S_1.out
                have q2_ := S_2.out
                have q3_ := S_3.out
                have q4_ := S_4.out
                have q5_ := S_5.out
                have q6_ := S_6.out
                have q7_ := S_7b.out
                have q8_ := S_8.out
                have q9_ := S_9.out
                obtain ⟨Q, HQ, hdq⟩ : ∃ Q : ReqT, Box6W w22 (w5.heap.size) Q ∧ Q.data.length ≤ 49 := ⟨_, bQ_9.out, by first | exact hdt | exact hdu⟩
                obtain ⟨x0, x1, x2, x3, x4, x5, -, -, -, -, -, -⟩ := HQ
                obtain ⟨s0, s1, s2, s3, s4, s5, f0, f1, f2, f3, f4, f5⟩ := bR_9.out
                have hz : Box6W ((((((w22.setCell ⟨w.heap.size + 1, 0, none⟩ (.int .i64 Q.who)).setCell ⟨w.heap.size + 1, 1, none⟩ (.int .i64 Q.ep)).setCell ⟨w.heap.size + 1, 2, none⟩ (.int .i64 Q.num)).setCell ⟨w.heap.size + 1, 3, none⟩ (.int .i64 Q.obj)).setCell ⟨w.heap.size + 1, 4, none⟩ (.int .i64 Q.pos)).setCell ⟨w.heap.size + 1, 5, none⟩ (.string (mkB Q.data))) (w.heap.size + 1) Q := by
                  have h := (((((bR_9.out.set0 Q.who).set1 Q.ep).set2 Q.num).set3 Q.obj).set4 Q.pos).set5 Q.data
                  exact h
                have hE := grown_new (grown_new (grown_new (grown_new (grown_new (grown_new E_9.out (show w.heap.size ≤ w.heap.size + 1 by omega) (o := 0) (v := .int .i64 Q.who)) (show w.heap.size ≤ w.heap.size + 1 by omega) (o := 1) (v := .int .i64 Q.ep)) (show w.heap.size ≤ w.heap.size + 1 by omega) (o := 2) (v := .int .i64 Q.num)) (show w.heap.size ≤ w.heap.size + 1 by omega) (o := 3) (v := .int .i64 Q.obj)) (show w.heap.size ≤ w.heap.size + 1 by omega) (o := 4) (v := .int .i64 Q.pos)) (show w.heap.size ≤ w.heap.size + 1 by omega) (o := 5) (v := .string (mkB Q.data))
                have hRd := (((((R_9.out.set (show rb < w.heap.size + 1 by omega) (o := 0) (u := .int .i64 Q.who)).set (show rb < w.heap.size + 1 by omega) (o := 1) (u := .int .i64 Q.ep)).set (show rb < w.heap.size + 1 by omega) (o := 2) (u := .int .i64 Q.num)).set (show rb < w.heap.size + 1 by omega) (o := 3) (u := .int .i64 Q.obj)).set (show rb < w.heap.size + 1 by omega) (o := 4) (u := .int .i64 Q.pos)).set (show rb < w.heap.size + 1 by omega) (o := 5) (u := .string (mkB Q.data))
                obtain ⟨Z, hZ⟩ : ∃ X, ((((((w22.setCell ⟨w.heap.size + 1, 0, none⟩ (.int .i64 Q.who)).setCell ⟨w.heap.size + 1, 1, none⟩ (.int .i64 Q.ep)).setCell ⟨w.heap.size + 1, 2, none⟩ (.int .i64 Q.num)).setCell ⟨w.heap.size + 1, 3, none⟩ (.int .i64 Q.obj)).setCell ⟨w.heap.size + 1, 4, none⟩ (.int .i64 Q.pos)).setCell ⟨w.heap.size + 1, 5, none⟩ (.string (mkB Q.data))) = X := ⟨_, rfl⟩
                rw [hZ] at hz hE hRd
                have HE := Lib.hid hE
                have HRd := Lib.hid hRd
                have hpf : p1 + 1 + 1 ≤ p + 20 := by omega
                have HPF := Lib.hid hpf
                have HDQ := Lib.hid hdq
                clear hE hRd hpf hdq q0_ q1_ q2_ q3_ q4_ q5_ q6_ q7_ q8_ q9_
                go_wp2
                obtain ⟨t0, t1, t2, t3, t4, t5, -, -, -, -, -, -⟩ := hz
                exact bodyPost_ret (v := .agg (rqA Q)) (by simp [results, Tryd.results41, go_sem, t0, t1, t2, t3, t4, t5, rqA]) rfl ⟨Q, _, rfl, HDQ.out, HRd.out, HPF.out, HE.out⟩

end Go.Proofs.YtadoihddmbbjoaaDoor

namespace Go.Proofs.YtadoihddmbbjoaaDoor
open Go.RowKit

set_option maxRecDepth 100000 in
set_option maxHeartbeats 8000000 in
theorem l5Ask_c (rb p : Nat) (v0 v1 v2 v3 v4 : Value) (S : StT) (w : World) (h : Rd w rb p) (hp : p ≤ 600000000) (hst : ∀ w1, w.grownBy w1 (some rb) → Sto w1 v0 v1 v2 v3 v4 S) (hl3 : S.last.length ≠ 3) (hf3 : S.floors.length ≠ 3) :
    Calls Tryd.prog 41 #[.pointer (some ⟨rb, 0, none⟩), .agg #[v0, v1, v2, v3, v4]] w (Rqd w rb p 20) := by
  have hst0 := hst w ⟨rfl, rfl, rfl, Nat.le_refl _, fun _ _ _ => rfl⟩
  obtain ⟨a0, c0, rfl⟩ := hst0.now.form
  obtain ⟨a1, c1, rfl⟩ := hst0.sure.form
  obtain ⟨a3, c3, rfl⟩ := hst0.slast.form
  obtain ⟨a2, c2, rfl⟩ := hst0.last.form
  obtain ⟨nl, hnl⟩ : ∃ n, S.last.length = n := ⟨_, rfl⟩
  rw [hnl] at hst ⊢ hl3
  have d2 : ((nl : Int) == 3) = false := by simp; omega
  obtain ⟨a4, c4, rfl⟩ := hst0.floors.form
  obtain ⟨nf, hnf⟩ : ∃ n, S.floors.length = n := ⟨_, rfl⟩
  rw [hnf] at hst ⊢ hf3
  have d4 : ((nf : Int) == 3) = false := by simp; omega
  clear hst0
  have hrb := h.lt'
  obtain ⟨W, hW⟩ : ∃ W, (w.alloc (.cells #[.slice a0 S.now.length c0, .slice a1 S.sure.length c1, .slice a2 nl c2, .slice a3 S.slast.length c3, .slice a4 nf c4] 30)).alloc (.cells #[.int .i64 0, .int .i64 0, .int .i64 0, .int .i64 0, .int .i64 0, .string ⟨#[]⟩] 34) = W := ⟨_, rfl⟩
  have hal : Below w.heap.size w W := by rw [← hW]; exact ((Below.refl _ _).alloc (Nat.le_refl _) _).alloc (by simp) _
  have A0 : Box5 W w.heap.size (.slice a0 S.now.length c0) (.slice a1 S.sure.length c1) (.slice a2 nl c2) (.slice a3 S.slast.length c3) (.slice a4 nf c4) := by rw [← hW]; exact (new_box5 w _ _ _ _ _ _).keep ((Below.refl _ _).alloc (Nat.le_refl _) _)
  have R0 : Box6W W (w.heap.size + 1) ⟨0, 0, 0, 0, 0, []⟩ := by
    rw [← hW, show w.heap.size + 1 = (w.alloc (.cells #[.slice a0 S.now.length c0, .slice a1 S.sure.length c1, .slice a2 nl c2, .slice a3 S.slast.length c3, .slice a4 nf c4] 30)).heap.size by simp]
    exact new_box6W _ ⟨0, 0, 0, 0, 0, []⟩ _
  have hl : w.heap.size + 1 < W.heap.size := by rw [← hW]; simp
  have E_0 := Lib.hid (grown_below hal (some rb))
  have R_0 := Lib.hid (h.keep hal)
  have S_0 := Lib.hid hl
  have bA_0 := Lib.hid A0
  have bR_0 := Lib.hid R0
  have HST := Lib.hid hst
  have HL3 := Lib.hid hl3
  have HF3 := Lib.hid hf3
  clear hal A0 R0 hl h hst hl3 hf3 hnf hnl
  go_enter Tryd.func41, Tryd.ntmps41
  go_wp2_with fail
  refine (pick_any rb (p) 3 _ R_0.out (by omega) (by omega) (by omega)).mono ?_; rintro e w1 ⟨k, rfl, k0, k1, hr, hg⟩
  clear hW
  have q0_ := S_0.out
  have ht := grown_btn hg
  have bA_1 := Lib.hid (bA_0.out.btn ht (by omega))
  have bR_1 := Lib.hid (bR_0.out.btn ht (by omega))
  have E_1 := Lib.hid (grown_trans E_0.out hg)
  have R_1 := Lib.hid (hr)
  have S_1 := Lib.hid ht.size
  clear bA_0 bR_0 E_0 R_0 hg hr ht q0_
  replace k1 := k1 (by omega)
  obtain ⟨k, rfl⟩ : ∃ m : Nat, k = m := ⟨k.toNat, by omega⟩
  have k3 : k < 3 := by omega
  go_wp2_with fail
  refine (pick_any rb (p + 1) 4 _ R_1.out (by omega) (by omega) (by omega)).mono ?_; rintro e w2 ⟨ep, rfl, ep0, ep1, hr, hg⟩
  have q0_ := S_0.out
  have q1_ := S_1.out
  have ht := grown_btn hg
  have bA_2 := Lib.hid (bA_1.out.btn ht (by omega))
  have bR_2 := Lib.hid (bR_1.out.btn ht (by omega))
  have E_2 := Lib.hid (grown_trans E_1.out hg)
  have R_2 := Lib.hid (hr)
  have S_2 := Lib.hid ht.size
  clear bA_1 bR_1 E_1 R_1 hg hr ht q0_ q1_
  replace ep1 := ep1 (by omega)
  go_wp2_with fail
  refine (pick_any rb (p + 1 + 1) 3 _ R_2.out (by omega) (by omega) (by omega)).mono ?_; rintro e w3 ⟨ob, rfl, ob0, ob1, hr, hg⟩
  have q0_ := S_0.out
  have q1_ := S_1.out
  have q2_ := S_2.out
  have ht := grown_btn hg
  have bA_3 := Lib.hid (bA_2.out.btn ht (by omega))
  have bR_3 := Lib.hid (bR_2.out.btn ht (by omega))
  have E_3 := Lib.hid (grown_trans E_2.out hg)
  have R_3 := Lib.hid (hr)
  have S_3 := Lib.hid ht.size
  clear bA_2 bR_2 E_2 R_2 hg hr ht q0_ q1_ q2_
  replace ob1 := ob1 (by omega)
  go_wp2_with fail
  refine (pick_any rb (p + 1 + 1 + 1) 16 _ R_3.out (by omega) (by omega) (by omega)).mono ?_; rintro e w4 ⟨at_, rfl, at_0, at_1, hr, hg⟩
  have q0_ := S_0.out
  have q1_ := S_1.out
  have q2_ := S_2.out
  have q3_ := S_3.out
  have ht := grown_btn hg
  have bA_4 := Lib.hid (bA_3.out.btn ht (by omega))
  have bR_4 := Lib.hid (bR_3.out.btn ht (by omega))
  have E_4 := Lib.hid (grown_trans E_3.out hg)
  have R_4 := Lib.hid (hr)
  have S_4 := Lib.hid ht.size
  clear bA_3 bR_3 E_3 R_3 hg hr ht q0_ q1_ q2_ q3_
  replace at_1 := at_1 (by omega)
  go_wp2_with fail
  refine (ofL_any rb (p + 1 + 1 + 1 + 1) [[120], [97, 98], [113, 55, 46], [109, 110, 111, 112]] 4 (fun l => l.length ≤ 49) w4 _ _ rfl rfl R_4.out (by omega) (by omega) (by omega) (by simp)).mono ?_; rintro e w5 ⟨dt, p1, rfl, hdt, hr, hp1, hg⟩
  have q0_ := S_0.out
  have q1_ := S_1.out
  have q2_ := S_2.out
  have q3_ := S_3.out
  have q4_ := S_4.out
  have ht := grown_btn hg
  have bA_5 := Lib.hid (bA_4.out.btn ht (by omega))
  have bR_5 := Lib.hid (bR_4.out.btn ht (by omega))
  have E_5 := Lib.hid (grown_trans E_4.out hg)
  have R_5 := Lib.hid (hr)
  have S_5 := Lib.hid ht.size
  clear bA_4 bR_4 E_4 R_4 hg hr ht q0_ q1_ q2_ q3_ q4_
  obtain ⟨X6, hX6⟩ : ∃ X, w5.alloc (.cells #[.int .i64 k, .int .i64 ep, .int .i64 1, .int .i64 ob, .int .i64 at_, .string (mkB dt)] 34) = X := ⟨_, rfl⟩
  have hb : Below w5.heap.size w5 X6 := by rw [← hX6]; exact (Below.refl _ _).alloc (Nat.le_refl _) _
  have hB : Box6W X6 w5.heap.size ⟨k, ep, 1, ob, at_, dt⟩ := by rw [← hX6]; exact new_box6W w5 ⟨k, ep, 1, ob, at_, dt⟩ _
  have hl : w5.heap.size < X6.heap.size := by rw [← hX6]; simp
  have bA_6 := Lib.hid (bA_5.out.keep hb)
  have bR_6 := Lib.hid (bR_5.out.keep hb)
  have E_6 := Lib.hid (grown_trans E_5.out (grown_below hb _))
  have R_6 := Lib.hid (R_5.out.keep hb)
  have S_6 := Lib.hid hb.size
  clear bA_5 bR_5 E_5 R_5 hb
  have bQ_7 := Lib.hid hB
  have S_7b := Lib.hid hl
  clear hB hl
  obtain ⟨x0_0, x0_1, x0_2, x0_3, x0_4⟩ := bA_6.out
  go_wp2_with fail
  refine (pick_any rb (p1) 50 _ R_6.out (by omega) (by omega) (by omega)).mono ?_; rintro e w7 ⟨cc, rfl, cc0, cc1, hr, hg⟩
  clear hX6
  have q0_ := S_0.out
  have q1_ := S_1.out
  have q2_ := S_2.out
  have q3_ := S_3.out
  have q4_ := S_4.out
  have q5_ := S_5.out
  have q6_ := S_6.out
  have q7_ := S_7b.out
  have ht := grown_btn hg
  have bA_8 := Lib.hid (bA_6.out.btn ht (by omega))
  have bR_8 := Lib.hid (bR_6.out.btn ht (by omega))
  have bQ_8 := Lib.hid (bQ_7.out.btn ht (by omega))
  have E_8 := Lib.hid (grown_trans E_6.out hg)
  have R_8 := Lib.hid (hr)
  have S_8 := Lib.hid ht.size
  clear x0_0 x0_1 x0_2 x0_3 x0_4
  clear bA_6 bR_6 bQ_7 E_6 R_6 hg hr ht q0_ q1_ q2_ q3_ q4_ q5_ q6_ q7_
  replace cc1 := cc1 (by omega)
  by_cases e0 : cc = 0
  · subst e0
    go_wp2_with fail
    refine (l4WhoDraw_any rb (p1 + 1) _ R_8.out (by omega)).mono ?_; rintro e w8 ⟨u, p5, rfl, -, hr, hp5, hg⟩
    have q0_ := S_0.out
    have q1_ := S_1.out
    have q2_ := S_2.out
    have q3_ := S_3.out
    have q4_ := S_4.out
    have q5_ := S_5.out
    have q6_ := S_6.out
    have q7_ := S_7b.out
    have q8_ := S_8.out
    have ht := grown_btn hg
    have bA_9 := Lib.hid (bA_8.out.btn ht (by omega))
    have bR_9 := Lib.hid (bR_8.out.btn ht (by omega))
    have bQ_9 := Lib.hid (bQ_8.out.btn ht (by omega))
    have E_9 := Lib.hid (grown_trans E_8.out hg)
    have R_9 := Lib.hid (hr)
    have S_9 := Lib.hid ht.size
    clear bA_8 bR_8 bQ_8 E_8 R_8 hg hr ht q0_ q1_ q2_ q3_ q4_ q5_ q6_ q7_ q8_
    have hq6 := bQ_9.out
    obtain ⟨v0', v1', v2', v3', v4', v5', w0', w1', w2', w3', w4', w5'⟩ := hq6
    have q0_ := S_0.out
    have q1_ := S_1.out
    have q2_ := S_2.out
    have q3_ := S_3.out
    have q4_ := S_4.out
    have q5_ := S_5.out
    have q6_ := S_6.out
    have q7_ := S_7b.out
    have q8_ := S_8.out
    have q9_ := S_9.out
    obtain ⟨X9, hX9⟩ : ∃ X, w8.setCell ⟨w5.heap.size, 0, none⟩ (.int .i64 u) = X := ⟨_, rfl⟩
    have ht : Btn (w5.heap.size) (w5.heap.size + 1) w8 X9 := by rw [← hX9]; exact btn_set _ _ _ _
    have hB := bQ_9.out.set0 u
    rw [hX9] at hB
    have hE := grown_new E_9.out (show w.heap.size ≤ w5.heap.size by omega) (o := 0) (v := .int .i64 u)
    have hRd := R_9.out.set (show rb < w5.heap.size by omega) (o := 0) (u := .int .i64 u)
    rw [hX9] at hE hRd
    have bA_10 := Lib.hid (bA_9.out.btn ht (by omega))
    have bR_10 := Lib.hid (bR_9.out.btn ht (by omega))
    have E_10 := Lib.hid (hE)
    have R_10 := Lib.hid (hRd)
    have S_10 := Lib.hid ht.size
    clear bA_9 bR_9 E_9 R_9 ht hE hRd bQ_9 q0_ q1_ q2_ q3_ q4_ q5_ q6_ q7_ q8_ q9_
    have bQ_11 := Lib.hid hB
    clear hB
    have q0_ := S_0.out
    have q1_ := S_1.out
    have q2_ := S_2.out
    have q3_ := S_3.out
    have q4_ := S_4.out
    have q5_ := S_5.out
    have q6_ := S_6.out
    have q7_ := S_7b.out
    have q8_ := S_8.out
    have q9_ := S_9.out
    have q10_ := S_10.out
    obtain ⟨Q, HQ, hdq⟩ : ∃ Q : ReqT, Box6W X9 (w5.heap.size) Q ∧ Q.data.length ≤ 49 := ⟨_, bQ_11.out, by first | exact hdt | exact hdu⟩
    obtain ⟨x0, x1, x2, x3, x4, x5, -, -, -, -, -, -⟩ := HQ
    obtain ⟨s0, s1, s2, s3, s4, s5, f0, f1, f2, f3, f4, f5⟩ := bR_10.out
    have hz : Box6W ((((((X9.setCell ⟨w.heap.size + 1, 0, none⟩ (.int .i64 Q.who)).setCell ⟨w.heap.size + 1, 1, none⟩ (.int .i64 Q.ep)).setCell ⟨w.heap.size + 1, 2, none⟩ (.int .i64 Q.num)).setCell ⟨w.heap.size + 1, 3, none⟩ (.int .i64 Q.obj)).setCell ⟨w.heap.size + 1, 4, none⟩ (.int .i64 Q.pos)).setCell ⟨w.heap.size + 1, 5, none⟩ (.string (mkB Q.data))) (w.heap.size + 1) Q := by
      have h := (((((bR_10.out.set0 Q.who).set1 Q.ep).set2 Q.num).set3 Q.obj).set4 Q.pos).set5 Q.data
      exact h
    have hE := grown_new (grown_new (grown_new (grown_new (grown_new (grown_new E_10.out (show w.heap.size ≤ w.heap.size + 1 by omega) (o := 0) (v := .int .i64 Q.who)) (show w.heap.size ≤ w.heap.size + 1 by omega) (o := 1) (v := .int .i64 Q.ep)) (show w.heap.size ≤ w.heap.size + 1 by omega) (o := 2) (v := .int .i64 Q.num)) (show w.heap.size ≤ w.heap.size + 1 by omega) (o := 3) (v := .int .i64 Q.obj)) (show w.heap.size ≤ w.heap.size + 1 by omega) (o := 4) (v := .int .i64 Q.pos)) (show w.heap.size ≤ w.heap.size + 1 by omega) (o := 5) (v := .string (mkB Q.data))
    have hRd := (((((R_10.out.set (show rb < w.heap.size + 1 by omega) (o := 0) (u := .int .i64 Q.who)).set (show rb < w.heap.size + 1 by omega) (o := 1) (u := .int .i64 Q.ep)).set (show rb < w.heap.size + 1 by omega) (o := 2) (u := .int .i64 Q.num)).set (show rb < w.heap.size + 1 by omega) (o := 3) (u := .int .i64 Q.obj)).set (show rb < w.heap.size + 1 by omega) (o := 4) (u := .int .i64 Q.pos)).set (show rb < w.heap.size + 1 by omega) (o := 5) (u := .string (mkB Q.data))
    obtain ⟨Z, hZ⟩ : ∃ X, ((((((X9.setCell ⟨w.heap.size + 1, 0, none⟩ (.int .i64 Q.who)).setCell ⟨w.heap.size + 1, 1, none⟩ (.int .i64 Q.ep)).setCell ⟨w.heap.size + 1, 2, none⟩ (.int .i64 Q.num)).setCell ⟨w.heap.size + 1, 3, none⟩ (.int .i64 Q.obj)).setCell ⟨w.heap.size + 1, 4, none⟩ (.int .i64 Q.pos)).setCell ⟨w.heap.size + 1, 5, none⟩ (.string (mkB Q.data))) = X := ⟨_, rfl⟩
    rw [hZ] at hz hE hRd
    have HE := Lib.hid hE
    have HRd := Lib.hid hRd
    have hpf : p5 ≤ p + 20 := by omega
    have HPF := Lib.hid hpf
    have HDQ := Lib.hid hdq
    clear hE hRd hpf hdq q0_ q1_ q2_ q3_ q4_ q5_ q6_ q7_ q8_ q9_ q10_
    go_wp2
    obtain ⟨t0, t1, t2, t3, t4, t5, -, -, -, -, -, -⟩ := hz
    exact bodyPost_ret (v := .agg (rqA Q)) (by simp [results, Tryd.results41, go_sem, t0, t1, t2, t3, t4, t5, rqA]) rfl ⟨Q, _, rfl, HDQ.out, HRd.out, HPF.out, HE.out⟩
  · have d0 : (cc == 0) = false := by simpa using e0
    by_cases e1 : cc = 1
    · subst e1
      go_wp2_with fail
      refine (numLA_any rb (p1 + 1) [-1, 3] 2 (fun _ => True) w7 w7.heap.size _ _ rfl rfl rfl R_8.out (by omega) (by omega) (by omega) (by simp)).mono ?_; rintro e w10 ⟨u, p5, rfl, -, hr, hp5, hg⟩
      have q0_ := S_0.out
      have q1_ := S_1.out
      have q2_ := S_2.out
      have q3_ := S_3.out
      have q4_ := S_4.out
      have q5_ := S_5.out
      have q6_ := S_6.out
      have q7_ := S_7b.out
      have q8_ := S_8.out
      have ht := grown_btn hg
      have bA_9 := Lib.hid (bA_8.out.btn ht (by omega))
      have bR_9 := Lib.hid (bR_8.out.btn ht (by omega))
      have bQ_9 := Lib.hid (bQ_8.out.btn ht (by omega))
      have E_9 := Lib.hid (grown_trans E_8.out hg)
      have R_9 := Lib.hid (hr)
      have S_9 := Lib.hid ht.size
      clear bA_8 bR_8 bQ_8 E_8 R_8 hg hr ht q0_ q1_ q2_ q3_ q4_ q5_ q6_ q7_ q8_
      have hq6 := bQ_9.out
      obtain ⟨v0', v1', v2', v3', v4', v5', w0', w1', w2', w3', w4', w5'⟩ := hq6
      have q0_ := S_0.out
      have q1_ := S_1.out
      have q2_ := S_2.out
      have q3_ := S_3.out
      have q4_ := S_4.out
      have q5_ := S_5.out
      have q6_ := S_6.out
      have q7_ := S_7b.out
      have q8_ := S_8.out
      have q9_ := S_9.out
      obtain ⟨X11, hX11⟩ : ∃ X, w10.setCell ⟨w5.heap.size, 3, none⟩ (.int .i64 u) = X := ⟨_, rfl⟩
      have ht : Btn (w5.heap.size) (w5.heap.size + 1) w10 X11 := by rw [← hX11]; exact btn_set _ _ _ _
      have hB := bQ_9.out.set3 u
      rw [hX11] at hB
      have hE := grown_new E_9.out (show w.heap.size ≤ w5.heap.size by omega) (o := 3) (v := .int .i64 u)
      have hRd := R_9.out.set (show rb < w5.heap.size by omega) (o := 3) (u := .int .i64 u)
      rw [hX11] at hE hRd
      have bA_10 := Lib.hid (bA_9.out.btn ht (by omega))
      have bR_10 := Lib.hid (bR_9.out.btn ht (by omega))
      have E_10 := Lib.hid (hE)
      have R_10 := Lib.hid (hRd)
      have S_10 := Lib.hid ht.size
      clear bA_9 bR_9 E_9 R_9 ht hE hRd bQ_9 q0_ q1_ q2_ q3_ q4_ q5_ q6_ q7_ q8_ q9_
      have bQ_11 := Lib.hid hB
      clear hB
      have q0_ := S_0.out
      have q1_ := S_1.out
      have q2_ := S_2.out
      have q3_ := S_3.out
      have q4_ := S_4.out
      have q5_ := S_5.out
      have q6_ := S_6.out
      have q7_ := S_7b.out
      have q8_ := S_8.out
      have q9_ := S_9.out
      have q10_ := S_10.out
      obtain ⟨Q, HQ, hdq⟩ : ∃ Q : ReqT, Box6W X11 (w5.heap.size) Q ∧ Q.data.length ≤ 49 := ⟨_, bQ_11.out, by first | exact hdt | exact hdu⟩
      obtain ⟨x0, x1, x2, x3, x4, x5, -, -, -, -, -, -⟩ := HQ
      obtain ⟨s0, s1, s2, s3, s4, s5, f0, f1, f2, f3, f4, f5⟩ := bR_10.out
      have hz : Box6W ((((((X11.setCell ⟨w.heap.size + 1, 0, none⟩ (.int .i64 Q.who)).setCell ⟨w.heap.size + 1, 1, none⟩ (.int .i64 Q.ep)).setCell ⟨w.heap.size + 1, 2, none⟩ (.int .i64 Q.num)).setCell ⟨w.heap.size + 1, 3, none⟩ (.int .i64 Q.obj)).setCell ⟨w.heap.size + 1, 4, none⟩ (.int .i64 Q.pos)).setCell ⟨w.heap.size + 1, 5, none⟩ (.string (mkB Q.data))) (w.heap.size + 1) Q := by
        have h := (((((bR_10.out.set0 Q.who).set1 Q.ep).set2 Q.num).set3 Q.obj).set4 Q.pos).set5 Q.data
        exact h
      have hE := grown_new (grown_new (grown_new (grown_new (grown_new (grown_new E_10.out (show w.heap.size ≤ w.heap.size + 1 by omega) (o := 0) (v := .int .i64 Q.who)) (show w.heap.size ≤ w.heap.size + 1 by omega) (o := 1) (v := .int .i64 Q.ep)) (show w.heap.size ≤ w.heap.size + 1 by omega) (o := 2) (v := .int .i64 Q.num)) (show w.heap.size ≤ w.heap.size + 1 by omega) (o := 3) (v := .int .i64 Q.obj)) (show w.heap.size ≤ w.heap.size + 1 by omega) (o := 4) (v := .int .i64 Q.pos)) (show w.heap.size ≤ w.heap.size + 1 by omega) (o := 5) (v := .string (mkB Q.data))
      have hRd := (((((R_10.out.set (show rb < w.heap.size + 1 by omega) (o := 0) (u := .int .i64 Q.who)).set (show rb < w.heap.size + 1 by omega) (o := 1) (u := .int .i64 Q.ep)).set (show rb < w.heap.size + 1 by omega) (o := 2) (u := .int .i64 Q.num)).set (show rb < w.heap.size + 1 by omega) (o := 3) (u := .int .i64 Q.obj)).set (show rb < w.heap.size + 1 by omega) (o := 4) (u := .int .i64 Q.pos)).set (show rb < w.heap.size + 1 by omega) (o := 5) (u := .string (mkB Q.data))
      obtain ⟨Z, hZ⟩ : ∃ X, ((((((X11.setCell ⟨w.heap.size + 1, 0, none⟩ (.int .i64 Q.who)).setCell ⟨w.heap.size + 1, 1, none⟩ (.int .i64 Q.ep)).setCell ⟨w.heap.size + 1, 2, none⟩ (.int .i64 Q.num)).setCell ⟨w.heap.size + 1, 3, none⟩ (.int .i64 Q.obj)).setCell ⟨w.heap.size + 1, 4, none⟩ (.int .i64 Q.pos)).setCell ⟨w.heap.size + 1, 5, none⟩ (.string (mkB Q.data))) = X := ⟨_, rfl⟩
      rw [hZ] at hz hE hRd
      have HE := Lib.hid hE
      have HRd := Lib.hid hRd
      have hpf : p5 ≤ p + 20 := by omega
      have HPF := Lib.hid hpf
      have HDQ := Lib.hid hdq
      clear hE hRd hpf hdq q0_ q1_ q2_ q3_ q4_ q5_ q6_ q7_ q8_ q9_ q10_
      go_wp2
      obtain ⟨t0, t1, t2, t3, t4, t5, -, -, -, -, -, -⟩ := hz
      exact bodyPost_ret (v := .agg (rqA Q)) (by simp [results, Tryd.results41, go_sem, t0, t1, t2, t3, t4, t5, rqA]) rfl ⟨Q, _, rfl, HDQ.out, HRd.out, HPF.out, HE.out⟩
    · have d1 : (cc == 1) = false := by simpa using e1
      by_cases e2 : cc = 2
      · subst e2
        go_wp2_with fail
        refine (numLA_any rb (p1 + 1) [-1, 48, 9223372036854775807] 3 (fun _ => True) w7 w7.heap.size _ _ rfl rfl rfl R_8.out (by omega) (by omega) (by omega) (by simp)).mono ?_; rintro e w12 ⟨u, p5, rfl, -, hr, hp5, hg⟩
        have q0_ := S_0.out
        have q1_ := S_1.out
        have q2_ := S_2.out
        have q3_ := S_3.out
        have q4_ := S_4.out
        have q5_ := S_5.out
        have q6_ := S_6.out
        have q7_ := S_7b.out
        have q8_ := S_8.out
        have ht := grown_btn hg
        have bA_9 := Lib.hid (bA_8.out.btn ht (by omega))
        have bR_9 := Lib.hid (bR_8.out.btn ht (by omega))
        have bQ_9 := Lib.hid (bQ_8.out.btn ht (by omega))
        have E_9 := Lib.hid (grown_trans E_8.out hg)
        have R_9 := Lib.hid (hr)
        have S_9 := Lib.hid ht.size
        clear bA_8 bR_8 bQ_8 E_8 R_8 hg hr ht q0_ q1_ q2_ q3_ q4_ q5_ q6_ q7_ q8_
        have hq6 := bQ_9.out
        obtain ⟨v0', v1', v2', v3', v4', v5', w0', w1', w2', w3', w4', w5'⟩ := hq6
        have q0_ := S_0.out
        have q1_ := S_1.out
        have q2_ := S_2.out
        have q3_ := S_3.out
        have q4_ := S_4.out
        have q5_ := S_5.out
        have q6_ := S_6.out
        have q7_ := S_7b.out
        have q8_ := S_8.out
        have q9_ := S_9.out
        obtain ⟨X13, hX13⟩ : ∃ X, w12.setCell ⟨w5.heap.size, 4, none⟩ (.int .i64 u) = X := ⟨_, rfl⟩
        have ht : Btn (w5.heap.size) (w5.heap.size + 1) w12 X13 := by rw [← hX13]; exact btn_set _ _ _ _
        have hB := bQ_9.out.set4 u
        rw [hX13] at hB
        have hE := grown_new E_9.out (show w.heap.size ≤ w5.heap.size by omega) (o := 4) (v := .int .i64 u)
        have hRd := R_9.out.set (show rb < w5.heap.size by omega) (o := 4) (u := .int .i64 u)
        rw [hX13] at hE hRd
        have bA_10 := Lib.hid (bA_9.out.btn ht (by omega))
        have bR_10 := Lib.hid (bR_9.out.btn ht (by omega))
        have E_10 := Lib.hid (hE)
        have R_10 := Lib.hid (hRd)
        have S_10 := Lib.hid ht.size
        clear bA_9 bR_9 E_9 R_9 ht hE hRd bQ_9 q0_ q1_ q2_ q3_ q4_ q5_ q6_ q7_ q8_ q9_
        have bQ_11 := Lib.hid hB
        clear hB
        have q0_ := S_0.out
        have q1_ := S_1.out
        have q2_ := S_2.out
        have q3_ := S_3.out
        have q4_ := S_4.out
        have q5_ := S_5.out
        have q6_ := S_6.out
        have q7_ := S_7b.out
        have q8_ := S_8.out
        have q9_ := S_9.out
        have q10_ := S_10.out
        obtain ⟨Q, HQ, hdq⟩ : ∃ Q : ReqT, Box6W X13 (w5.heap.size) Q ∧ Q.data.length ≤ 49 := ⟨_, bQ_11.out, by first | exact hdt | exact hdu⟩
        obtain ⟨x0, x1, x2, x3, x4, x5, -, -, -, -, -, -⟩ := HQ
        obtain ⟨s0, s1, s2, s3, s4, s5, f0, f1, f2, f3, f4, f5⟩ := bR_10.out
        have hz : Box6W ((((((X13.setCell ⟨w.heap.size + 1, 0, none⟩ (.int .i64 Q.who)).setCell ⟨w.heap.size + 1, 1, none⟩ (.int .i64 Q.ep)).setCell ⟨w.heap.size + 1, 2, none⟩ (.int .i64 Q.num)).setCell ⟨w.heap.size + 1, 3, none⟩ (.int .i64 Q.obj)).setCell ⟨w.heap.size + 1, 4, none⟩ (.int .i64 Q.pos)).setCell ⟨w.heap.size + 1, 5, none⟩ (.string (mkB Q.data))) (w.heap.size + 1) Q := by
          have h := (((((bR_10.out.set0 Q.who).set1 Q.ep).set2 Q.num).set3 Q.obj).set4 Q.pos).set5 Q.data
          exact h
        have hE := grown_new (grown_new (grown_new (grown_new (grown_new (grown_new E_10.out (show w.heap.size ≤ w.heap.size + 1 by omega) (o := 0) (v := .int .i64 Q.who)) (show w.heap.size ≤ w.heap.size + 1 by omega) (o := 1) (v := .int .i64 Q.ep)) (show w.heap.size ≤ w.heap.size + 1 by omega) (o := 2) (v := .int .i64 Q.num)) (show w.heap.size ≤ w.heap.size + 1 by omega) (o := 3) (v := .int .i64 Q.obj)) (show w.heap.size ≤ w.heap.size + 1 by omega) (o := 4) (v := .int .i64 Q.pos)) (show w.heap.size ≤ w.heap.size + 1 by omega) (o := 5) (v := .string (mkB Q.data))
        have hRd := (((((R_10.out.set (show rb < w.heap.size + 1 by omega) (o := 0) (u := .int .i64 Q.who)).set (show rb < w.heap.size + 1 by omega) (o := 1) (u := .int .i64 Q.ep)).set (show rb < w.heap.size + 1 by omega) (o := 2) (u := .int .i64 Q.num)).set (show rb < w.heap.size + 1 by omega) (o := 3) (u := .int .i64 Q.obj)).set (show rb < w.heap.size + 1 by omega) (o := 4) (u := .int .i64 Q.pos)).set (show rb < w.heap.size + 1 by omega) (o := 5) (u := .string (mkB Q.data))
        obtain ⟨Z, hZ⟩ : ∃ X, ((((((X13.setCell ⟨w.heap.size + 1, 0, none⟩ (.int .i64 Q.who)).setCell ⟨w.heap.size + 1, 1, none⟩ (.int .i64 Q.ep)).setCell ⟨w.heap.size + 1, 2, none⟩ (.int .i64 Q.num)).setCell ⟨w.heap.size + 1, 3, none⟩ (.int .i64 Q.obj)).setCell ⟨w.heap.size + 1, 4, none⟩ (.int .i64 Q.pos)).setCell ⟨w.heap.size + 1, 5, none⟩ (.string (mkB Q.data))) = X := ⟨_, rfl⟩
        rw [hZ] at hz hE hRd
        have HE := Lib.hid hE
        have HRd := Lib.hid hRd
        have hpf : p5 ≤ p + 20 := by omega
        have HPF := Lib.hid hpf
        have HDQ := Lib.hid hdq
        clear hE hRd hpf hdq q0_ q1_ q2_ q3_ q4_ q5_ q6_ q7_ q8_ q9_ q10_
        go_wp2
        obtain ⟨t0, t1, t2, t3, t4, t5, -, -, -, -, -, -⟩ := hz
        exact bodyPost_ret (v := .agg (rqA Q)) (by simp [results, Tryd.results41, go_sem, t0, t1, t2, t3, t4, t5, rqA]) rfl ⟨Q, _, rfl, HDQ.out, HRd.out, HPF.out, HE.out⟩
      · have d2 : (cc == 2) = false := by simpa using e2
        by_cases e3 : cc = 3
        · subst e3
          go_wp2_with fail
          refine (ofL_any rb (p1 + 1) [[], [65], [97, 32, 98]] 3 (fun l => l.length ≤ 49) w7 _ _ rfl rfl R_8.out (by omega) (by omega) (by omega) (by simp)).mono ?_; rintro e w14 ⟨u, p5, rfl, hdu, hr, hp5, hg⟩
          have q0_ := S_0.out
          have q1_ := S_1.out
          have q2_ := S_2.out
          have q3_ := S_3.out
          have q4_ := S_4.out
          have q5_ := S_5.out
          have q6_ := S_6.out
          have q7_ := S_7b.out
          have q8_ := S_8.out
          have ht := grown_btn hg
          have bA_9 := Lib.hid (bA_8.out.btn ht (by omega))
          have bR_9 := Lib.hid (bR_8.out.btn ht (by omega))
          have bQ_9 := Lib.hid (bQ_8.out.btn ht (by omega))
          have E_9 := Lib.hid (grown_trans E_8.out hg)
          have R_9 := Lib.hid (hr)
          have S_9 := Lib.hid ht.size
          clear bA_8 bR_8 bQ_8 E_8 R_8 hg hr ht q0_ q1_ q2_ q3_ q4_ q5_ q6_ q7_ q8_
          have hq6 := bQ_9.out
          obtain ⟨v0', v1', v2', v3', v4', v5', w0', w1', w2', w3', w4', w5'⟩ := hq6
          have q0_ := S_0.out
          have q1_ := S_1.out
          have q2_ := S_2.out
          have q3_ := S_3.out
          have q4_ := S_4.out
          have q5_ := S_5.out
          have q6_ := S_6.out
          have q7_ := S_7b.out
          have q8_ := S_8.out
          have q9_ := S_9.out
          obtain ⟨X15, hX15⟩ : ∃ X, w14.setCell ⟨w5.heap.size, 5, none⟩ (.string (mkB u)) = X := ⟨_, rfl⟩
          have ht : Btn (w5.heap.size) (w5.heap.size + 1) w14 X15 := by rw [← hX15]; exact btn_set _ _ _ _
          have hB := bQ_9.out.set5 u
          rw [hX15] at hB
          have hE := grown_new E_9.out (show w.heap.size ≤ w5.heap.size by omega) (o := 5) (v := .string (mkB u))
          have hRd := R_9.out.set (show rb < w5.heap.size by omega) (o := 5) (u := .string (mkB u))
          rw [hX15] at hE hRd
          have bA_10 := Lib.hid (bA_9.out.btn ht (by omega))
          have bR_10 := Lib.hid (bR_9.out.btn ht (by omega))
          have E_10 := Lib.hid (hE)
          have R_10 := Lib.hid (hRd)
          have S_10 := Lib.hid ht.size
          clear bA_9 bR_9 E_9 R_9 ht hE hRd bQ_9 q0_ q1_ q2_ q3_ q4_ q5_ q6_ q7_ q8_ q9_
          have bQ_11 := Lib.hid hB
          clear hB
          have q0_ := S_0.out
          have q1_ := S_1.out
          have q2_ := S_2.out
          have q3_ := S_3.out
          have q4_ := S_4.out
          have q5_ := S_5.out
          have q6_ := S_6.out
          have q7_ := S_7b.out
          have q8_ := S_8.out
          have q9_ := S_9.out
          have q10_ := S_10.out
          obtain ⟨Q, HQ, hdq⟩ : ∃ Q : ReqT, Box6W X15 (w5.heap.size) Q ∧ Q.data.length ≤ 49 := ⟨_, bQ_11.out, by first | exact hdt | exact hdu⟩
          obtain ⟨x0, x1, x2, x3, x4, x5, -, -, -, -, -, -⟩ := HQ
          obtain ⟨s0, s1, s2, s3, s4, s5, f0, f1, f2, f3, f4, f5⟩ := bR_10.out
          have hz : Box6W ((((((X15.setCell ⟨w.heap.size + 1, 0, none⟩ (.int .i64 Q.who)).setCell ⟨w.heap.size + 1, 1, none⟩ (.int .i64 Q.ep)).setCell ⟨w.heap.size + 1, 2, none⟩ (.int .i64 Q.num)).setCell ⟨w.heap.size + 1, 3, none⟩ (.int .i64 Q.obj)).setCell ⟨w.heap.size + 1, 4, none⟩ (.int .i64 Q.pos)).setCell ⟨w.heap.size + 1, 5, none⟩ (.string (mkB Q.data))) (w.heap.size + 1) Q := by
            have h := (((((bR_10.out.set0 Q.who).set1 Q.ep).set2 Q.num).set3 Q.obj).set4 Q.pos).set5 Q.data
            exact h
          have hE := grown_new (grown_new (grown_new (grown_new (grown_new (grown_new E_10.out (show w.heap.size ≤ w.heap.size + 1 by omega) (o := 0) (v := .int .i64 Q.who)) (show w.heap.size ≤ w.heap.size + 1 by omega) (o := 1) (v := .int .i64 Q.ep)) (show w.heap.size ≤ w.heap.size + 1 by omega) (o := 2) (v := .int .i64 Q.num)) (show w.heap.size ≤ w.heap.size + 1 by omega) (o := 3) (v := .int .i64 Q.obj)) (show w.heap.size ≤ w.heap.size + 1 by omega) (o := 4) (v := .int .i64 Q.pos)) (show w.heap.size ≤ w.heap.size + 1 by omega) (o := 5) (v := .string (mkB Q.data))
          have hRd := (((((R_10.out.set (show rb < w.heap.size + 1 by omega) (o := 0) (u := .int .i64 Q.who)).set (show rb < w.heap.size + 1 by omega) (o := 1) (u := .int .i64 Q.ep)).set (show rb < w.heap.size + 1 by omega) (o := 2) (u := .int .i64 Q.num)).set (show rb < w.heap.size + 1 by omega) (o := 3) (u := .int .i64 Q.obj)).set (show rb < w.heap.size + 1 by omega) (o := 4) (u := .int .i64 Q.pos)).set (show rb < w.heap.size + 1 by omega) (o := 5) (u := .string (mkB Q.data))
          obtain ⟨Z, hZ⟩ : ∃ X, ((((((X15.setCell ⟨w.heap.size + 1, 0, none⟩ (.int .i64 Q.who)).setCell ⟨w.heap.size + 1, 1, none⟩ (.int .i64 Q.ep)).setCell ⟨w.heap.size + 1, 2, none⟩ (.int .i64 Q.num)).setCell ⟨w.heap.size + 1, 3, none⟩ (.int .i64 Q.obj)).setCell ⟨w.heap.size + 1, 4, none⟩ (.int .i64 Q.pos)).setCell ⟨w.heap.size + 1, 5, none⟩ (.string (mkB Q.data))) = X := ⟨_, rfl⟩
          rw [hZ] at hz hE hRd
          have HE := Lib.hid hE
          have HRd := Lib.hid hRd
          have hpf : p5 ≤ p + 20 := by omega
          have HPF := Lib.hid hpf
          have HDQ := Lib.hid hdq
          clear hE hRd hpf hdq q0_ q1_ q2_ q3_ q4_ q5_ q6_ q7_ q8_ q9_ q10_
          go_wp2
          obtain ⟨t0, t1, t2, t3, t4, t5, -, -, -, -, -, -⟩ := hz
          exact bodyPost_ret (v := .agg (rqA Q)) (by simp [results, Tryd.results41, go_sem, t0, t1, t2, t3, t4, t5, rqA]) rfl ⟨Q, _, rfl, HDQ.out, HRd.out, HPF.out, HE.out⟩
        · have d3 : (cc == 3) = false := by simpa using e3
          by_cases e4 : cc = 4
          · subst e4
            go_wp2_with fail
            refine (numLA_any rb (p1 + 1) [0, -1, 1001] 3 (fun _ => True) w7 w7.heap.size _ _ rfl rfl rfl R_8.out (by omega) (by omega) (by omega) (by simp)).mono ?_; rintro e w16 ⟨u, p5, rfl, -, hr, hp5, hg⟩
            have q0_ := S_0.out
            have q1_ := S_1.out
            have q2_ := S_2.out
            have q3_ := S_3.out
            have q4_ := S_4.out
            have q5_ := S_5.out
            have q6_ := S_6.out
            have q7_ := S_7b.out
            have q8_ := S_8.out
            have ht := grown_btn hg
            have bA_9 := Lib.hid (bA_8.out.btn ht (by omega))
            have bR_9 := Lib.hid (bR_8.out.btn ht (by omega))
            have bQ_9 := Lib.hid (bQ_8.out.btn ht (by omega))
            have E_9 := Lib.hid (grown_trans E_8.out hg)
            have R_9 := Lib.hid (hr)
            have S_9 := Lib.hid ht.size
            clear bA_8 bR_8 bQ_8 E_8 R_8 hg hr ht q0_ q1_ q2_ q3_ q4_ q5_ q6_ q7_ q8_
            have hq6 := bQ_9.out
            obtain ⟨v0', v1', v2', v3', v4', v5', w0', w1', w2', w3', w4', w5'⟩ := hq6
            have q0_ := S_0.out
            have q1_ := S_1.out
            have q2_ := S_2.out
            have q3_ := S_3.out
            have q4_ := S_4.out
            have q5_ := S_5.out
            have q6_ := S_6.out
            have q7_ := S_7b.out
            have q8_ := S_8.out
            have q9_ := S_9.out
            obtain ⟨X17, hX17⟩ : ∃ X, w16.setCell ⟨w5.heap.size, 2, none⟩ (.int .i64 u) = X := ⟨_, rfl⟩
            have ht : Btn (w5.heap.size) (w5.heap.size + 1) w16 X17 := by rw [← hX17]; exact btn_set _ _ _ _
            have hB := bQ_9.out.set2 u
            rw [hX17] at hB
            have hE := grown_new E_9.out (show w.heap.size ≤ w5.heap.size by omega) (o := 2) (v := .int .i64 u)
            have hRd := R_9.out.set (show rb < w5.heap.size by omega) (o := 2) (u := .int .i64 u)
            rw [hX17] at hE hRd
            have bA_10 := Lib.hid (bA_9.out.btn ht (by omega))
            have bR_10 := Lib.hid (bR_9.out.btn ht (by omega))
            have E_10 := Lib.hid (hE)
            have R_10 := Lib.hid (hRd)
            have S_10 := Lib.hid ht.size
            clear bA_9 bR_9 E_9 R_9 ht hE hRd bQ_9 q0_ q1_ q2_ q3_ q4_ q5_ q6_ q7_ q8_ q9_
            have bQ_11 := Lib.hid hB
            clear hB
            have q0_ := S_0.out
            have q1_ := S_1.out
            have q2_ := S_2.out
            have q3_ := S_3.out
            have q4_ := S_4.out
            have q5_ := S_5.out
            have q6_ := S_6.out
            have q7_ := S_7b.out
            have q8_ := S_8.out
            have q9_ := S_9.out
            have q10_ := S_10.out
            obtain ⟨Q, HQ, hdq⟩ : ∃ Q : ReqT, Box6W X17 (w5.heap.size) Q ∧ Q.data.length ≤ 49 := ⟨_, bQ_11.out, by first | exact hdt | exact hdu⟩
            obtain ⟨x0, x1, x2, x3, x4, x5, -, -, -, -, -, -⟩ := HQ
            obtain ⟨s0, s1, s2, s3, s4, s5, f0, f1, f2, f3, f4, f5⟩ := bR_10.out
            have hz : Box6W ((((((X17.setCell ⟨w.heap.size + 1, 0, none⟩ (.int .i64 Q.who)).setCell ⟨w.heap.size + 1, 1, none⟩ (.int .i64 Q.ep)).setCell ⟨w.heap.size + 1, 2, none⟩ (.int .i64 Q.num)).setCell ⟨w.heap.size + 1, 3, none⟩ (.int .i64 Q.obj)).setCell ⟨w.heap.size + 1, 4, none⟩ (.int .i64 Q.pos)).setCell ⟨w.heap.size + 1, 5, none⟩ (.string (mkB Q.data))) (w.heap.size + 1) Q := by
              have h := (((((bR_10.out.set0 Q.who).set1 Q.ep).set2 Q.num).set3 Q.obj).set4 Q.pos).set5 Q.data
              exact h
            have hE := grown_new (grown_new (grown_new (grown_new (grown_new (grown_new E_10.out (show w.heap.size ≤ w.heap.size + 1 by omega) (o := 0) (v := .int .i64 Q.who)) (show w.heap.size ≤ w.heap.size + 1 by omega) (o := 1) (v := .int .i64 Q.ep)) (show w.heap.size ≤ w.heap.size + 1 by omega) (o := 2) (v := .int .i64 Q.num)) (show w.heap.size ≤ w.heap.size + 1 by omega) (o := 3) (v := .int .i64 Q.obj)) (show w.heap.size ≤ w.heap.size + 1 by omega) (o := 4) (v := .int .i64 Q.pos)) (show w.heap.size ≤ w.heap.size + 1 by omega) (o := 5) (v := .string (mkB Q.data))
            have hRd := (((((R_10.out.set (show rb < w.heap.size + 1 by omega) (o := 0) (u := .int .i64 Q.who)).set (show rb < w.heap.size + 1 by omega) (o := 1) (u := .int .i64 Q.ep)).set (show rb < w.heap.size + 1 by omega) (o := 2) (u := .int .i64 Q.num)).set (show rb < w.heap.size + 1 by omega) (o := 3) (u := .int .i64 Q.obj)).set (show rb < w.heap.size + 1 by omega) (o := 4) (u := .int .i64 Q.pos)).set (show rb < w.heap.size + 1 by omega) (o := 5) (u := .string (mkB Q.data))
            obtain ⟨Z, hZ⟩ : ∃ X, ((((((X17.setCell ⟨w.heap.size + 1, 0, none⟩ (.int .i64 Q.who)).setCell ⟨w.heap.size + 1, 1, none⟩ (.int .i64 Q.ep)).setCell ⟨w.heap.size + 1, 2, none⟩ (.int .i64 Q.num)).setCell ⟨w.heap.size + 1, 3, none⟩ (.int .i64 Q.obj)).setCell ⟨w.heap.size + 1, 4, none⟩ (.int .i64 Q.pos)).setCell ⟨w.heap.size + 1, 5, none⟩ (.string (mkB Q.data))) = X := ⟨_, rfl⟩
            rw [hZ] at hz hE hRd
            have HE := Lib.hid hE
            have HRd := Lib.hid hRd
            have hpf : p5 ≤ p + 20 := by omega
            have HPF := Lib.hid hpf
            have HDQ := Lib.hid hdq
            clear hE hRd hpf hdq q0_ q1_ q2_ q3_ q4_ q5_ q6_ q7_ q8_ q9_ q10_
            go_wp2
            obtain ⟨t0, t1, t2, t3, t4, t5, -, -, -, -, -, -⟩ := hz
            exact bodyPost_ret (v := .agg (rqA Q)) (by simp [results, Tryd.results41, go_sem, t0, t1, t2, t3, t4, t5, rqA]) rfl ⟨Q, _, rfl, HDQ.out, HRd.out, HPF.out, HE.out⟩
          · have d4 : (cc == 4) = false := by simpa using e4
            by_cases e5 : cc = 5
            · subst e5
              go_wp2_with fail
              refine (numLA_any rb (p1 + 1) [-1, 101] 2 (fun _ => True) w7 w7.heap.size _ _ rfl rfl rfl R_8.out (by omega) (by omega) (by omega) (by simp)).mono ?_; rintro e w18 ⟨u, p5, rfl, -, hr, hp5, hg⟩
              have q0_ := S_0.out
              have q1_ := S_1.out
              have q2_ := S_2.out
              have q3_ := S_3.out
              have q4_ := S_4.out
              have q5_ := S_5.out
              have q6_ := S_6.out
              have q7_ := S_7b.out
              have q8_ := S_8.out
              have ht := grown_btn hg
              have bA_9 := Lib.hid (bA_8.out.btn ht (by omega))
              have bR_9 := Lib.hid (bR_8.out.btn ht (by omega))
              have bQ_9 := Lib.hid (bQ_8.out.btn ht (by omega))
              have E_9 := Lib.hid (grown_trans E_8.out hg)
              have R_9 := Lib.hid (hr)
              have S_9 := Lib.hid ht.size
              clear bA_8 bR_8 bQ_8 E_8 R_8 hg hr ht q0_ q1_ q2_ q3_ q4_ q5_ q6_ q7_ q8_
              have hq6 := bQ_9.out
              obtain ⟨v0', v1', v2', v3', v4', v5', w0', w1', w2', w3', w4', w5'⟩ := hq6
              have q0_ := S_0.out
              have q1_ := S_1.out
              have q2_ := S_2.out
              have q3_ := S_3.out
              have q4_ := S_4.out
              have q5_ := S_5.out
              have q6_ := S_6.out
              have q7_ := S_7b.out
              have q8_ := S_8.out
              have q9_ := S_9.out
              obtain ⟨X19, hX19⟩ : ∃ X, w18.setCell ⟨w5.heap.size, 1, none⟩ (.int .i64 u) = X := ⟨_, rfl⟩
              have ht : Btn (w5.heap.size) (w5.heap.size + 1) w18 X19 := by rw [← hX19]; exact btn_set _ _ _ _
              have hB := bQ_9.out.set1 u
              rw [hX19] at hB
              have hE := grown_new E_9.out (show w.heap.size ≤ w5.heap.size by omega) (o := 1) (v := .int .i64 u)
              have hRd := R_9.out.set (show rb < w5.heap.size by omega) (o := 1) (u := .int .i64 u)
              rw [hX19] at hE hRd
              have bA_10 := Lib.hid (bA_9.out.btn ht (by omega))
              have bR_10 := Lib.hid (bR_9.out.btn ht (by omega))
              have E_10 := Lib.hid (hE)
              have R_10 := Lib.hid (hRd)
              have S_10 := Lib.hid ht.size
              clear bA_9 bR_9 E_9 R_9 ht hE hRd bQ_9 q0_ q1_ q2_ q3_ q4_ q5_ q6_ q7_ q8_ q9_
              have bQ_11 := Lib.hid hB
              clear hB
              have q0_ := S_0.out
              have q1_ := S_1.out
              have q2_ := S_2.out
              have q3_ := S_3.out
              have q4_ := S_4.out
              have q5_ := S_5.out
              have q6_ := S_6.out
              have q7_ := S_7b.out
              have q8_ := S_8.out
              have q9_ := S_9.out
              have q10_ := S_10.out
              obtain ⟨Q, HQ, hdq⟩ : ∃ Q : ReqT, Box6W X19 (w5.heap.size) Q ∧ Q.data.length ≤ 49 := ⟨_, bQ_11.out, by first | exact hdt | exact hdu⟩
              obtain ⟨x0, x1, x2, x3, x4, x5, -, -, -, -, -, -⟩ := HQ
              obtain ⟨s0, s1, s2, s3, s4, s5, f0, f1, f2, f3, f4, f5⟩ := bR_10.out
              have hz : Box6W ((((((X19.setCell ⟨w.heap.size + 1, 0, none⟩ (.int .i64 Q.who)).setCell ⟨w.heap.size + 1, 1, none⟩ (.int .i64 Q.ep)).setCell ⟨w.heap.size + 1, 2, none⟩ (.int .i64 Q.num)).setCell ⟨w.heap.size + 1, 3, none⟩ (.int .i64 Q.obj)).setCell ⟨w.heap.size + 1, 4, none⟩ (.int .i64 Q.pos)).setCell ⟨w.heap.size + 1, 5, none⟩ (.string (mkB Q.data))) (w.heap.size + 1) Q := by
                have h := (((((bR_10.out.set0 Q.who).set1 Q.ep).set2 Q.num).set3 Q.obj).set4 Q.pos).set5 Q.data
                exact h
              have hE := grown_new (grown_new (grown_new (grown_new (grown_new (grown_new E_10.out (show w.heap.size ≤ w.heap.size + 1 by omega) (o := 0) (v := .int .i64 Q.who)) (show w.heap.size ≤ w.heap.size + 1 by omega) (o := 1) (v := .int .i64 Q.ep)) (show w.heap.size ≤ w.heap.size + 1 by omega) (o := 2) (v := .int .i64 Q.num)) (show w.heap.size ≤ w.heap.size + 1 by omega) (o := 3) (v := .int .i64 Q.obj)) (show w.heap.size ≤ w.heap.size + 1 by omega) (o := 4) (v := .int .i64 Q.pos)) (show w.heap.size ≤ w.heap.size + 1 by omega) (o := 5) (v := .string (mkB Q.data))
              have hRd := (((((R_10.out.set (show rb < w.heap.size + 1 by omega) (o := 0) (u := .int .i64 Q.who)).set (show rb < w.heap.size + 1 by omega) (o := 1) (u := .int .i64 Q.ep)).set (show rb < w.heap.size + 1 by omega) (o := 2) (u := .int .i64 Q.num)).set (show rb < w.heap.size + 1 by omega) (o := 3) (u := .int .i64 Q.obj)).set (show rb < w.heap.size + 1 by omega) (o := 4) (u := .int .i64 Q.pos)).set (show rb < w.heap.size + 1 by omega) (o := 5) (u := .string (mkB Q.data))
              obtain ⟨Z, hZ⟩ : ∃ X, ((((((X19.setCell ⟨w.heap.size + 1, 0, none⟩ (.int .i64 Q.who)).setCell ⟨w.heap.size + 1, 1, none⟩ (.int .i64 Q.ep)).setCell ⟨w.heap.size + 1, 2, none⟩ (.int .i64 Q.num)).setCell ⟨w.heap.size + 1, 3, none⟩ (.int .i64 Q.obj)).setCell ⟨w.heap.size + 1, 4, none⟩ (.int .i64 Q.pos)).setCell ⟨w.heap.size + 1, 5, none⟩ (.string (mkB Q.data))) = X := ⟨_, rfl⟩
              rw [hZ] at hz hE hRd
              have HE := Lib.hid hE
              have HRd := Lib.hid hRd
              have hpf : p5 ≤ p + 20 := by omega
              have HPF := Lib.hid hpf
              have HDQ := Lib.hid hdq
              clear hE hRd hpf hdq q0_ q1_ q2_ q3_ q4_ q5_ q6_ q7_ q8_ q9_ q10_
              go_wp2
              obtain ⟨t0, t1, t2, t3, t4, t5, -, -, -, -, -, -⟩ := hz
              exact bodyPost_ret (v := .agg (rqA Q)) (by simp [results, Tryd.results41, go_sem, t0, t1, t2, t3, t4, t5, rqA]) rfl ⟨Q, _, rfl, HDQ.out, HRd.out, HPF.out, HE.out⟩
            · have d5 : (cc == 5) = false := by simpa using e5
              have q0_ := S_0.out
              have q1_ := S_1.out
              have q2_ := S_2.out
              have q3_ := S_3.out
              have q4_ := S_4.out
              have q5_ := S_5.out
              have q6_ := S_6.out
              have q7_ := S_7b.out
              have q8_ := S_8.out
              obtain ⟨Q, HQ, hdq⟩ : ∃ Q : ReqT, Box6W w7 (w5.heap.size) Q ∧ Q.data.length ≤ 49 := ⟨_, bQ_8.out, by first | exact hdt | exact hdu⟩
              obtain ⟨x0, x1, x2, x3, x4, x5, -, -, -, -, -, -⟩ := HQ
              obtain ⟨s0, s1, s2, s3, s4, s5, f0, f1, f2, f3, f4, f5⟩ := bR_8.out
              have hz : Box6W ((((((w7.setCell ⟨w.heap.size + 1, 0, none⟩ (.int .i64 Q.who)).setCell ⟨w.heap.size + 1, 1, none⟩ (.int .i64 Q.ep)).setCell ⟨w.heap.size + 1, 2, none⟩ (.int .i64 Q.num)).setCell ⟨w.heap.size + 1, 3, none⟩ (.int .i64 Q.obj)).setCell ⟨w.heap.size + 1, 4, none⟩ (.int .i64 Q.pos)).setCell ⟨w.heap.size + 1, 5, none⟩ (.string (mkB Q.data))) (w.heap.size + 1) Q := by
                have h := (((((bR_8.out.set0 Q.who).set1 Q.ep).set2 Q.num).set3 Q.obj).set4 Q.pos).set5 Q.data
                exact h
              have hE := grown_new (grown_new (grown_new (grown_new (grown_new (grown_new E_8.out (show w.heap.size ≤ w.heap.size + 1 by omega) (o := 0) (v := .int .i64 Q.who)) (show w.heap.size ≤ w.heap.size + 1 by omega) (o := 1) (v := .int .i64 Q.ep)) (show w.heap.size ≤ w.heap.size + 1 by omega) (o := 2) (v := .int .i64 Q.num)) (show w.heap.size ≤ w.heap.size + 1 by omega) (o := 3) (v := .int .i64 Q.obj)) (show w.heap.size ≤ w.heap.size + 1 by omega) (o := 4) (v := .int .i64 Q.pos)) (show w.heap.size ≤ w.heap.size + 1 by omega) (o := 5) (v := .string (mkB Q.data))
              have hRd := (((((R_8.out.set (show rb < w.heap.size + 1 by omega) (o := 0) (u := .int .i64 Q.who)).set (show rb < w.heap.size + 1 by omega) (o := 1) (u := .int .i64 Q.ep)).set (show rb < w.heap.size + 1 by omega) (o := 2) (u := .int .i64 Q.num)).set (show rb < w.heap.size + 1 by omega) (o := 3) (u := .int .i64 Q.obj)).set (show rb < w.heap.size + 1 by omega) (o := 4) (u := .int .i64 Q.pos)).set (show rb < w.heap.size + 1 by omega) (o := 5) (u := .string (mkB Q.data))
              obtain ⟨Z, hZ⟩ : ∃ X, ((((((w7.setCell ⟨w.heap.size + 1, 0, none⟩ (.int .i64 Q.who)).setCell ⟨w.heap.size + 1, 1, none⟩ (.int .i64 Q.ep)).setCell ⟨w.heap.size + 1, 2, none⟩ (.int .i64 Q.num)).setCell ⟨w.heap.size + 1, 3, none⟩ (.int .i64 Q.obj)).setCell ⟨w.heap.size + 1, 4, none⟩ (.int .i64 Q.pos)).setCell ⟨w.heap.size + 1, 5, none⟩ (.string (mkB Q.data))) = X := ⟨_, rfl⟩
              rw [hZ] at hz hE hRd
              have HE := Lib.hid hE
              have HRd := Lib.hid hRd
              have hpf : p1 + 1 ≤ p + 20 := by omega
              have HPF := Lib.hid hpf
              have HDQ := Lib.hid hdq
              clear hE hRd hpf hdq q0_ q1_ q2_ q3_ q4_ q5_ q6_ q7_ q8_
              go_wp2
              obtain ⟨t0, t1, t2, t3, t4, t5, -, -, -, -, -, -⟩ := hz
              exact bodyPost_ret (v := .agg (rqA Q)) (by simp [results, Tryd.results41, go_sem, t0, t1, t2, t3, t4, t5, rqA]) rfl ⟨Q, _, rfl, HDQ.out, HRd.out, HPF.out, HE.out⟩

end Go.Proofs.YtadoihddmbbjoaaDoor

namespace Go.Proofs.YtadoihddmbbjoaaDoor

theorem l5Ask_any (rb p : Nat) (v0 v1 v2 v3 v4 : Value) (S : StT) (w : World) (h : Rd w rb p) (hp : p ≤ 600000000) (hst : ∀ w1, w.grownBy w1 (some rb) → Sto w1 v0 v1 v2 v3 v4 S) :
    Calls Tryd.prog 41 #[.pointer (some ⟨rb, 0, none⟩), .agg #[v0, v1, v2, v3, v4]] w (Rqd w rb p 20) := by
  by_cases h1 : S.last.length = 3
  · by_cases h2 : S.floors.length = 3
    · exact l5Ask_3 rb p _ _ _ _ _ S w h hp hst h1 h2
    · exact l5Ask_a rb p _ _ _ _ _ S w h hp hst h1 h2
  · by_cases h2 : S.floors.length = 3
    · exact l5Ask_b rb p _ _ _ _ _ S w h hp hst h1 h2
    · exact l5Ask_c rb p _ _ _ _ _ S w h hp hst h1 h2

end Go.Proofs.YtadoihddmbbjoaaDoor
