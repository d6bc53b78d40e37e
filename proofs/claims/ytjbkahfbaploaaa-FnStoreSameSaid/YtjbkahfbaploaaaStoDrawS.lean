/-
  Two stores drawn, one or nearly: spec.DrawStoreSame.
-/
import Derived.Test.YtjbkahfbaploaaaStoDraw
namespace Go.Proofs.Ytjbkahfbaploaaa
open Go.RowKit

/-- What a draw of two stores leaves. -/
def Dss (w : World) (e : Ending) (w' : World) : Prop :=
  ∃ (S T : StT) (v0 v1 v2 v3 v4 u0 u1 u2 u3 u4 : Value), e = .returned (.tuple #[.agg #[v0, v1, v2, v3, v4], .agg #[u0, u1, u2, u3, u4]]) ∧ szT S ∧ S.n5.le ∧ szT T ∧ T.n5.le ∧ Hid (∀ w1, Btn 0 w.heap.size w' w1 → Sto w1 v0 v1 v2 v3 v4 S) ∧ Hid (∀ w1, Btn 0 w.heap.size w' w1 → Sto w1 u0 u1 u2 u3 u4 T) ∧ Below w.heap.size w w'

/-- While x, _ := StoreDo(s, l5Ask(r, s)) comes up, in whatever order: ahead of the store. -/
structure Rf (w4 : World) (rb P : Nat) (AG : Value) (S : StT) (L : Nat → Bool) (x : Nat → Value) (w' : World) : Prop where
  g : w4.grownBy w' (some rb)
  l0 : L 0 = true → x 0 = AG
  l1 : L 1 = true → x 1 = .pointer (some ⟨rb, 0, none⟩)
  l2 : L 2 = true → x 2 = AG
  rd : L 3 = false → Rd w' rb P
  l3 : L 3 = true → ∃ q : ReqT, x 3 = .agg (rqA q) ∧ q.data.length ≤ 49
  l4 : L 4 = true → ∃ (q : ReqT) (lo hi : Nat) (u0 u1 u2 u3 u4 : Value), x 4 = .tuple #[.agg #[u0, u1, u2, u3, u4], .int .i64 (doK S q)] ∧ w4.heap.size ≤ lo ∧ hi ≤ w'.heap.size ∧ Hid (M5 w' lo hi u0 u1 u2 u3 u4 (doT S q).n5 (doT S q).f5) ∧ (L 8 = true → ∀ g, x 8 = .pointer (some ⟨g, 0, none⟩) → g < lo ∨ hi ≤ g)
  l5 : L 5 = true → x 5 = x 4
  l6 : L 6 = true → x 6 = tupAt (x 4) 0
  l7 : L 7 = true → x 7 = tupAt (x 4) 1
  l8 : L 8 = true → ∃ g, x 8 = .pointer (some ⟨g, 0, none⟩) ∧ w4.heap.size ≤ g ∧ Box5W w' g (.slice none 0 0) (.slice none 0 0) (.slice none 0 0) (.slice none 0 0) (.slice none 0 0)
  d3 : L 4 = true → L 3 = true
  d5 : L 5 = true → L 4 = true
  d6 : L 6 = true → L 4 = true
  d7 : L 7 = true → L 4 = true
/-- .. and behind it. -/
structure Rg (w4 : World) (rb : Nat) (S : StT) (L : Nat → Bool) (x : Nat → Value) (w' : World) : Prop where
  g : w4.grownBy w' (some rb)
  l4 : ∃ (q : ReqT) (lo hi g : Nat) (u0 u1 u2 u3 u4 : Value), x 4 = .tuple #[.agg #[u0, u1, u2, u3, u4], .int .i64 (doK S q)] ∧ w4.heap.size ≤ lo ∧ Hid (M5 w' lo hi u0 u1 u2 u3 u4 (doT S q).n5 (doT S q).f5) ∧ x 8 = .pointer (some ⟨g, 0, none⟩) ∧ w4.heap.size ≤ g ∧ Box5W w' g u0 u1 u2 u3 u4
  l5 : x 5 = x 4
  l7 : L 7 = true → x 7 = tupAt (x 4) 1
theorem cell_far5d {w : World} {b o R : Nat} {v u0 u1 u2 u3 u4 : Value} (h : w.cell? ⟨b, o, none⟩ = some v) (hne : b ≠ R) : (((((w.setCell ⟨R, 0, none⟩ u0).setCell ⟨R, 1, none⟩ u1).setCell ⟨R, 2, none⟩ u2).setCell ⟨R, 3, none⟩ u3).setCell ⟨R, 4, none⟩ u4).drew.cell? ⟨b, o, none⟩ = some v := by rw [World.cell?_drew]; exact cell_far5 h hne
theorem btn_undrew {lo hi : Nat} {w w1 : World} (h : Btn lo hi w.drew w1) : Btn lo hi w w1 := ⟨h.os, h.tape, h.output, h.size, h.block⟩
theorem lset_no {L : Nat → Bool} {i j : Nat} (h : j ≠ i) : (if j = i then true else L j) = L j := if_neg h

set_option maxRecDepth 100000 in
set_option maxHeartbeats 16000000 in
theorem drawStoreSame_any (v : Value) (len : Nat) (w : World) (h : Byt w v len) : Calls Try.prog 14 #[v] w (Dss w) := by
  obtain ⟨W, hW⟩ : ∃ W, (w.alloc (.cells #[.slice none 0 0, .slice none 0 0, .slice none 0 0, .slice none 0 0, .slice none 0 0] 42)).alloc (.cells #[.slice none 0 0, .slice none 0 0, .slice none 0 0, .slice none 0 0, .slice none 0 0] 42) = W := ⟨_, rfl⟩
  have hal : Below w.heap.size w W := by rw [← hW]; exact ((Below.refl _ _).alloc (Nat.le_refl _) _).alloc (by simp) _
  have R0 : Box5W W (w.heap.size) (.slice none 0 0) (.slice none 0 0) (.slice none 0 0) (.slice none 0 0) (.slice none 0 0) := by rw [← hW]; exact (new_box5W w _ _ _ _ _ _).keep ((Below.refl _ _).alloc (Nat.le_refl _) _)
  have P0 : Box5W W (w.heap.size + 1) (.slice none 0 0) (.slice none 0 0) (.slice none 0 0) (.slice none 0 0) (.slice none 0 0) := by
    rw [← hW]
    have := new_box5W (w.alloc (.cells #[.slice none 0 0, .slice none 0 0, .slice none 0 0, .slice none 0 0, .slice none 0 0] 42)) (.slice none 0 0) (.slice none 0 0) (.slice none 0 0) (.slice none 0 0) (.slice none 0 0) 42
    simpa using this
  have hl : w.heap.size + 1 < W.heap.size := by rw [← hW]; simp
  have HO := Lib.hid (open_any v len W (h.keep hal))
  have R0 := Lib.hid R0
  have P0 := Lib.hid P0
  have hal := Lib.hid hal
  clear h
  go_enter Try.func14, Try.ntmps14
  go_wp2_with fail
  clear hW
  refine HO.out.mono ?_; rintro e w1 ⟨rb, rfl, hrb, hr, hb⟩
  have HR1 := Lib.hid (R0.out.keep hb)
  have HP1 := Lib.hid (P0.out.keep hb)
  have HE1 := Lib.hid (hal.out.trans (hb.mono hal.out.size))
  have HRd := Lib.hid hr
  have s1 := hb.size
  clear hb hr R0 P0 HO hal
  go_wp2_with fail
  refine (l5Some_any rb 0 w1 HRd.out (by omega)).mono ?_; rintro e w2 ⟨S, u0, u1, u2, u3, u4, lo, hi, p1, rfl, hok, hlo, hhi, M, hr, hp1, hg⟩
  have HR2 := Lib.hid (HR1.out.btn (grown_btn hg) (.inl (by omega)))
  have HP2 := Lib.hid (HP1.out.btn (grown_btn hg) (.inl (by omega)))
  have HE2 := Lib.hid (HE1.out.trans (below_grown hg (by omega) HE1.out.size))
  have hrl := HRd.out.lt'
  have HRd2 := Lib.hid hr
  have HOK := Lib.hid hok
  have s2 := hg.size
  clear hg hr hok HR1 HP1 HE1 HRd
  obtain ⟨f0, d0, rfl⟩ := M.out.a.vls.form
  obtain ⟨f1, d1, rfl⟩ := M.out.b.vls.form
  obtain ⟨f2, d2, rfl⟩ := M.out.c.vls.form
  obtain ⟨f3, d3, rfl⟩ := M.out.d.vls.form
  obtain ⟨f4, d4, rfl⟩ := M.out.e.vls.form
  obtain ⟨X, hX⟩ : ∃ X, w2.alloc (.cells #[.slice f0 S.n5.a d0, .slice f1 S.n5.b d1, .slice f2 S.n5.c d2, .slice f3 S.n5.d d3, .slice f4 S.n5.e d4] 42) = X := ⟨_, rfl⟩
  have hb : Below w2.heap.size w2 X := by rw [← hX]; exact (Below.refl _ _).alloc (Nat.le_refl _) _
  have HB4 : Hid (Box5W X w2.heap.size (.slice f0 S.n5.a d0) (.slice f1 S.n5.b d1) (.slice f2 S.n5.c d2) (.slice f3 S.n5.d d3) (.slice f4 S.n5.e d4)) := by rw [← hX]; exact new_box5W _ _ _ _ _ _ _
  have sX : w2.heap.size < X.heap.size := by rw [← hX]; simp
  have HR4 := Lib.hid (HR2.out.keep hb)
  have HP4 := Lib.hid (HP2.out.keep hb)
  have HE4 := Lib.hid (HE2.out.trans (hb.mono HE2.out.size))
  have HRd4 := Lib.hid (HRd2.out.keep hb)
  have HM4 := Lib.hid (M.out.keep hb)
  clear hb HR2 HP2 HE2 HRd2 M
  go_wp2_with fail
  clear hX
  refine (pick_any rb p1 2 _ HRd4.out (by omega) (by omega) (by omega)).mono ?_; rintro e w4 ⟨c, rfl, c0', -, hr, hg⟩
  have ht := grown_btn hg
  have HR5 := Lib.hid (HR4.out.btn ht (.inl (by omega)))
  have HP5 := Lib.hid (HP4.out.btn ht (.inl (by omega)))
  have HB5 := Lib.hid (HB4.out.btn ht (.inr (by omega)))
  have HE5 := Lib.hid (HE4.out.trans (below_grown hg (by omega) HE4.out.size))
  have HRd5 := Lib.hid hr
  have HM5 := Lib.hid (HM4.out.btn ht (.inr (by omega)))
  have s50 := hg.size
  clear ht hg hr HR4 HP4 HB4 HE4 HRd4 HM4
  by_cases e0 : c = 0
  · subst e0
    clear c0'
    have hlr : rb + 1 ≤ lo := by omega
    have hbr : rb + 1 ≤ w2.heap.size := by omega
    have hh4 : hi ≤ w4.heap.size := by omega
    go_wp2_with fail
    refine wp_region_inv (by kernel_rfl) (by kernel_rfl) (fun L a w' => ∃ x : Nat → Value, a = (fun x : Nat → Value => ({ tmps := #[v, undef, .pointer (some ⟨w.heap.size, 0, none⟩), .pointer (some ⟨w.heap.size + 1, 0, none⟩), .pointer (some ⟨rb, 0, none⟩), .pointer (some ⟨w2.heap.size, 0, none⟩), x 8, x 10, v, .pointer (some ⟨rb, 0, none⟩), .pointer (some ⟨rb, 0, none⟩), .agg #[.slice f0 S.n5.a d0, .slice f1 S.n5.b d1, .slice f2 S.n5.c d2, .slice f3 S.n5.d d3, .slice f4 S.n5.e d4], .pointer (some ⟨rb, 0, none⟩), .int .i64 0, .bool true, x 5, x 0, x 1, x 2, x 3, x 4, x 6, x 7, undef, undef, undef, undef, undef, undef, undef, undef, undef, undef], defers := [] } : Act)) x ∧ ((L 9 = false ∧ L 10 = false ∧ Rf w4 rb (p1 + 1) (.agg #[.slice f0 S.n5.a d0, .slice f1 S.n5.b d1, .slice f2 S.n5.c d2, .slice f3 S.n5.d d3, .slice f4 S.n5.e d4]) S L x w') ∨ (L 9 = true ∧ (∀ j, j < 9 → j ≠ 7 → L j = true) ∧ Rg w4 rb S L x w'))) ?_ ?_ ?_
    · refine ⟨fun _ => undef, rfl, .inl ⟨rfl, rfl, ⟨grown_below (Below.refl _ _).drew _, (fun h => by cases h), (fun h => by cases h), (fun h => by cases h), (fun _ => HRd5.out.keep (Below.refl _ _).drew), (fun h => by cases h), (fun h => by cases h), (fun h => by cases h), (fun h => by cases h), (fun h => by cases h), (fun h => by cases h), (fun h => by cases h), (fun h => by cases h), (fun h => by cases h), (fun h => by cases h)⟩⟩⟩
    · rintro L a w' i oi ⟨x, rfl, hI⟩ ho hl hall
      have hi11 : i < 11 := (Array.getElem?_eq_some_iff.1 ho).1
      obtain rfl | rfl | rfl | rfl | rfl | rfl | rfl | rfl | rfl | rfl | rfl : i = 0 ∨ i = 1 ∨ i = 2 ∨ i = 3 ∨ i = 4 ∨ i = 5 ∨ i = 6 ∨ i = 7 ∨ i = 8 ∨ i = 9 ∨ i = 10 := by omega
      · obtain rfl := Option.some.inj ho
        rw [if_pos (by rfl)]
        obtain ⟨j9, j10, hC⟩ : L 9 = false ∧ L 10 = false ∧ Rf w4 rb (p1 + 1) (.agg #[.slice f0 S.n5.a d0, .slice f1 S.n5.b d1, .slice f2 S.n5.c d2, .slice f3 S.n5.d d3, .slice f4 S.n5.e d4]) S L x w' := by
          rcases hI with h | ⟨h9, hj, -⟩
          · exact h
          · rw [hj 0 (by omega) (by omega)] at hl; cases hl
        obtain ⟨k0, k1, k2, k3, k4, -, -, -, -, -⟩ := HB5.out.btn (grown_btn hC.g) (.inr hbr)
        refine wp_value (v := .agg #[.slice f0 S.n5.a d0, .slice f1 S.n5.b d1, .slice f2 S.n5.c d2, .slice f3 S.n5.d d3, .slice f4 S.n5.e d4]) (w' := w') ?_ ⟨upd x 0 (.agg #[.slice f0 S.n5.a d0, .slice f1 S.n5.b d1, .slice f2 S.n5.c d2, .slice f3 S.n5.d d3, .slice f4 S.n5.e d4]), rfl, .inl ⟨j9, j10, ⟨hC.g, (fun _ => rfl), (fun h => hC.l1 h), (fun h => hC.l2 h), (fun h => hC.rd h), (fun h => hC.l3 h), (fun h => hC.l4 h), (fun h => hC.l5 h), (fun h => hC.l6 h), (fun h => hC.l7 h), (fun h => hC.l8 h), (fun h => hC.d3 h), (fun h => hC.d5 h), (fun h => hC.d6 h), (fun h => hC.d7 h)⟩⟩⟩
        go_simp
      · obtain rfl := Option.some.inj ho
        rw [if_pos (by rfl)]
        obtain ⟨j9, j10, hC⟩ : L 9 = false ∧ L 10 = false ∧ Rf w4 rb (p1 + 1) (.agg #[.slice f0 S.n5.a d0, .slice f1 S.n5.b d1, .slice f2 S.n5.c d2, .slice f3 S.n5.d d3, .slice f4 S.n5.e d4]) S L x w' := by
          rcases hI with h | ⟨h9, hj, -⟩
          · exact h
          · rw [hj 1 (by omega) (by omega)] at hl; cases hl
        refine wp_value (v := .pointer (some ⟨rb, 0, none⟩)) (w' := w') ?_ ⟨upd x 1 (.pointer (some ⟨rb, 0, none⟩)), rfl, .inl ⟨j9, j10, ⟨hC.g, (fun h => hC.l0 h), (fun _ => rfl), (fun h => hC.l2 h), (fun h => hC.rd h), (fun h => hC.l3 h), (fun h => hC.l4 h), (fun h => hC.l5 h), (fun h => hC.l6 h), (fun h => hC.l7 h), (fun h => hC.l8 h), (fun h => hC.d3 h), (fun h => hC.d5 h), (fun h => hC.d6 h), (fun h => hC.d7 h)⟩⟩⟩
        go_simp
      · obtain rfl := Option.some.inj ho
        rw [if_pos (by rfl)]
        obtain ⟨j9, j10, hC⟩ : L 9 = false ∧ L 10 = false ∧ Rf w4 rb (p1 + 1) (.agg #[.slice f0 S.n5.a d0, .slice f1 S.n5.b d1, .slice f2 S.n5.c d2, .slice f3 S.n5.d d3, .slice f4 S.n5.e d4]) S L x w' := by
          rcases hI with h | ⟨h9, hj, -⟩
          · exact h
          · rw [hj 2 (by omega) (by omega)] at hl; cases hl
        obtain ⟨k0, k1, k2, k3, k4, -, -, -, -, -⟩ := HB5.out.btn (grown_btn hC.g) (.inr hbr)
        refine wp_value (v := .agg #[.slice f0 S.n5.a d0, .slice f1 S.n5.b d1, .slice f2 S.n5.c d2, .slice f3 S.n5.d d3, .slice f4 S.n5.e d4]) (w' := w') ?_ ⟨upd x 2 (.agg #[.slice f0 S.n5.a d0, .slice f1 S.n5.b d1, .slice f2 S.n5.c d2, .slice f3 S.n5.d d3, .slice f4 S.n5.e d4]), rfl, .inl ⟨j9, j10, ⟨hC.g, (fun h => hC.l0 h), (fun h => hC.l1 h), (fun _ => rfl), (fun h => hC.rd h), (fun h => hC.l3 h), (fun h => hC.l4 h), (fun h => hC.l5 h), (fun h => hC.l6 h), (fun h => hC.l7 h), (fun h => hC.l8 h), (fun h => hC.d3 h), (fun h => hC.d5 h), (fun h => hC.d6 h), (fun h => hC.d7 h)⟩⟩⟩
        go_simp
      · obtain rfl := Option.some.inj ho
        rw [if_pos (by rfl)]
        obtain ⟨j9, j10, hC⟩ : L 9 = false ∧ L 10 = false ∧ Rf w4 rb (p1 + 1) (.agg #[.slice f0 S.n5.a d0, .slice f1 S.n5.b d1, .slice f2 S.n5.c d2, .slice f3 S.n5.d d3, .slice f4 S.n5.e d4]) S L x w' := by
          rcases hI with h | ⟨h9, hj, -⟩
          · exact h
          · rw [hj 3 (by omega) (by omega)] at hl; cases hl
        have g1 : L 1 = true := hall _ (Array.mem_of_getElem? (i := 0) rfl) rfl
        have g2 : L 2 = true := hall _ (Array.mem_of_getElem? (i := 1) rfl) rfl
        have e1 := hC.l1 g1
        have e2 := hC.l2 g2
        refine wp_enter 34 #[.pointer (some ⟨rb, 0, none⟩), .agg #[.slice f0 S.n5.a d0, .slice f1 S.n5.b d1, .slice f2 S.n5.c d2, .slice f3 S.n5.d d3, .slice f4 S.n5.e d4]] ?_ ((l5Ask_3 rb (p1 + 1) _ _ _ _ _ S w' (hC.rd hl) (by omega) (fun w1 hg => (HM5.out.btn (grown_btn (grown_trans hC.g hg)) (.inr hlr)).sto) (stOk_lens HOK.out).2.2.1 (stOk_lens HOK.out).2.2.2.2).mono fun e' wz ⟨qz, pz, he, hd, hr, hP', hg⟩ => ⟨_, he, ⟨upd x 3 (.agg (rqA qz)), rfl, .inl ⟨j9, j10, ⟨grown_trans hC.g hg, (fun h => hC.l0 h), (fun h => hC.l1 h), (fun h => hC.l2 h), (fun h => by simp at h), (fun _ => ⟨qz, rfl, hd⟩), (fun h => absurd (hC.d3 h) (by rw [hl]; simp)), (fun h => hC.l5 h), (fun h => hC.l6 h), (fun h => hC.l7 h), (fun h => by obtain ⟨g, hg1, hg2, hg3⟩ := hC.l8 h; exact ⟨g, hg1, hg2, hg3.btn (grown_btn hg) (.inr (by omega))⟩), (fun h => rfl), (fun h => hC.d5 h), (fun h => hC.d6 h), (fun h => hC.d7 h)⟩⟩⟩⟩)
        go_simp
      · obtain rfl := Option.some.inj ho
        rw [if_pos (by rfl)]
        obtain ⟨j9, j10, hC⟩ : L 9 = false ∧ L 10 = false ∧ Rf w4 rb (p1 + 1) (.agg #[.slice f0 S.n5.a d0, .slice f1 S.n5.b d1, .slice f2 S.n5.c d2, .slice f3 S.n5.d d3, .slice f4 S.n5.e d4]) S L x w' := by
          rcases hI with h | ⟨h9, hj, -⟩
          · exact h
          · rw [hj 4 (by omega) (by omega)] at hl; cases hl
        have g0 : L 0 = true := hall _ (Array.mem_of_getElem? (i := 0) rfl) rfl
        have g3 : L 3 = true := hall _ (Array.mem_of_getElem? (i := 1) rfl) rfl
        have e0 := hC.l0 g0
        obtain ⟨qc, e3, hqd⟩ := hC.l3 g3
        refine wp_enter 33 #[.agg #[.slice f0 S.n5.a d0, .slice f1 S.n5.b d1, .slice f2 S.n5.c d2, .slice f3 S.n5.d d3, .slice f4 S.n5.e d4], .agg (rqA qc)] ?_ ((specDo_any _ _ _ _ _ S qc w' (HM5.out.btn (grown_btn hC.g) (.inr hlr)).sto (szT_of HOK.out) (le_of HOK.out) (by omega)).mono fun e' wz ⟨z0, z1, z2, z3, z4, he, hM, hb⟩ => ⟨_, he, ⟨upd x 4 (.tuple #[.agg #[z0, z1, z2, z3, z4], .int .i64 (doK S qc)]), rfl, .inl ⟨j9, j10, ⟨grown_trans hC.g (grown_below hb _), (fun h => hC.l0 h), (fun h => hC.l1 h), (fun h => hC.l2 h), (fun h => (hC.rd h).keep hb), (fun h => hC.l3 h), (fun _ => ⟨qc, w'.heap.size, wz.heap.size, z0, z1, z2, z3, z4, rfl, hC.g.size, Nat.le_refl _, hM, fun h8 g hg => .inl (by obtain ⟨g', hg', -, hbx⟩ := hC.l8 h8; have hee : Value.pointer (some ⟨g', 0, none⟩) = .pointer (some ⟨g, 0, none⟩) := hg'.symm.trans hg; injection hee with h1; injection h1 with h2; injection h2 with h3; rw [← h3]; exact World.block_lt_of_cell? w' _ hbx.c0)⟩), (fun h => absurd (hC.d5 h) (by rw [hl]; simp)), (fun h => absurd (hC.d6 h) (by rw [hl]; simp)), (fun h => absurd (hC.d7 h) (by rw [hl]; simp)), (fun h => by obtain ⟨g, hg1, hg2, hg3⟩ := hC.l8 h; exact ⟨g, hg1, hg2, hg3.keep hb⟩), (fun _ => g3), (fun h => rfl), (fun h => rfl), (fun h => rfl)⟩⟩⟩⟩)
        go_simp
      · obtain rfl := Option.some.inj ho
        rw [if_pos (by rfl)]
        obtain ⟨j9, j10, hC⟩ : L 9 = false ∧ L 10 = false ∧ Rf w4 rb (p1 + 1) (.agg #[.slice f0 S.n5.a d0, .slice f1 S.n5.b d1, .slice f2 S.n5.c d2, .slice f3 S.n5.d d3, .slice f4 S.n5.e d4]) S L x w' := by
          rcases hI with h | ⟨h9, hj, -⟩
          · exact h
          · rw [hj 5 (by omega) (by omega)] at hl; cases hl
        have g4 : L 4 = true := hall _ (Array.mem_of_getElem? (i := 0) rfl) rfl
        refine wp_value (v := x 4) (w' := w') ?_ ⟨upd x 5 (x 4), rfl, .inl ⟨j9, j10, ⟨hC.g, (fun h => hC.l0 h), (fun h => hC.l1 h), (fun h => hC.l2 h), (fun h => hC.rd h), (fun h => hC.l3 h), (fun h => hC.l4 h), (fun _ => rfl), (fun h => hC.l6 h), (fun h => hC.l7 h), (fun h => hC.l8 h), (fun h => hC.d3 h), (fun _ => g4), (fun h => hC.d6 h), (fun h => hC.d7 h)⟩⟩⟩
        go_simp
      · obtain rfl := Option.some.inj ho
        rw [if_pos (by rfl)]
        obtain ⟨j9, j10, hC⟩ : L 9 = false ∧ L 10 = false ∧ Rf w4 rb (p1 + 1) (.agg #[.slice f0 S.n5.a d0, .slice f1 S.n5.b d1, .slice f2 S.n5.c d2, .slice f3 S.n5.d d3, .slice f4 S.n5.e d4]) S L x w' := by
          rcases hI with h | ⟨h9, hj, -⟩
          · exact h
          · rw [hj 6 (by omega) (by omega)] at hl; cases hl
        have g5 : L 5 = true := hall _ (Array.mem_of_getElem? (i := 0) rfl) rfl
        have g4 := hC.d5 g5
        obtain ⟨q, -, -, u0, u1, u2, u3, u4, e4, -⟩ := hC.l4 g4
        have e5 := (hC.l5 g5).trans e4
        have hv : tupAt (x 4) 0 = .agg #[u0, u1, u2, u3, u4] := by rw [e4]; rfl
        refine wp_value (v := tupAt (x 4) 0) (w' := w') ?_ ⟨upd x 6 (tupAt (x 4) 0), rfl, .inl ⟨j9, j10, ⟨hC.g, (fun h => hC.l0 h), (fun h => hC.l1 h), (fun h => hC.l2 h), (fun h => hC.rd h), (fun h => hC.l3 h), (fun h => hC.l4 h), (fun h => hC.l5 h), (fun _ => rfl), (fun h => hC.l7 h), (fun h => hC.l8 h), (fun h => hC.d3 h), (fun h => hC.d5 h), (fun _ => g4), (fun h => hC.d7 h)⟩⟩⟩
        rw [hv]
        clear hv hI
        go_simp
      · obtain rfl := Option.some.inj ho
        rw [if_pos (by rfl)]
        have g5 : L 5 = true := hall _ (Array.mem_of_getElem? (i := 0) rfl) rfl
        rcases hI with ⟨j9, j10, hC⟩ | ⟨h9, hj, hG⟩
        · have g4 := hC.d5 g5
          obtain ⟨q, -, -, u0, u1, u2, u3, u4, e4, -⟩ := hC.l4 g4
          have e5 := (hC.l5 g5).trans e4
          have hv : tupAt (x 4) 1 = .int .i64 (doK S q) := by rw [e4]; rfl
          refine wp_value (v := tupAt (x 4) 1) (w' := w') ?_ ⟨upd x 7 (tupAt (x 4) 1), rfl, .inl ⟨j9, j10, ⟨hC.g, (fun h => hC.l0 h), (fun h => hC.l1 h), (fun h => hC.l2 h), (fun h => hC.rd h), (fun h => hC.l3 h), (fun h => hC.l4 h), (fun h => hC.l5 h), (fun h => hC.l6 h), (fun _ => rfl), (fun h => hC.l8 h), (fun h => hC.d3 h), (fun h => hC.d5 h), (fun h => hC.d6 h), (fun _ => g4)⟩⟩⟩
          rw [hv]
          clear hv
          go_simp
        · obtain ⟨q, -, -, -, u0, u1, u2, u3, u4, e4, -⟩ := hG.l4
          have e5 := hG.l5.trans e4
          have hv : tupAt (x 4) 1 = .int .i64 (doK S q) := by rw [e4]; rfl
          refine wp_value (v := tupAt (x 4) 1) (w' := w') ?_ ⟨upd x 7 (tupAt (x 4) 1), rfl, .inr ⟨h9, fun j h1 h2 => lset_mono (hj j h1 h2), ⟨hG.g, hG.l4, hG.l5, fun _ => rfl⟩⟩⟩
          rw [hv]
          clear hv
          go_simp
      · obtain rfl := Option.some.inj ho
        rw [if_pos (by rfl)]
        obtain ⟨j9, j10, hC⟩ : L 9 = false ∧ L 10 = false ∧ Rf w4 rb (p1 + 1) (.agg #[.slice f0 S.n5.a d0, .slice f1 S.n5.b d1, .slice f2 S.n5.c d2, .slice f3 S.n5.d d3, .slice f4 S.n5.e d4]) S L x w' := by
          rcases hI with h | ⟨h9, hj, -⟩
          · exact h
          · rw [hj 8 (by omega) (by omega)] at hl; cases hl
        have hb : Below w'.heap.size w' (w'.alloc (.cells #[.slice none 0 0, .slice none 0 0, .slice none 0 0, .slice none 0 0, .slice none 0 0] 42)) := (Below.refl _ _).alloc (Nat.le_refl _) _
        refine wp_value (v := .pointer (some ⟨w'.heap.size, 0, none⟩)) (w' := w'.alloc (.cells #[.slice none 0 0, .slice none 0 0, .slice none 0 0, .slice none 0 0, .slice none 0 0] 42)) ?_ ?_
        · go_simp
        · exact ⟨upd x 8 (Value.pointer (some ⟨w'.heap.size, 0, none⟩)), rfl, .inl ⟨j9, j10, ⟨grown_trans hC.g (grown_below hb _), (fun h => hC.l0 h), (fun h => hC.l1 h), (fun h => hC.l2 h), (fun h => (hC.rd h).keep hb), (fun h => hC.l3 h), (fun h => by
            obtain ⟨q, lo2, hi2, u0, u1, u2, u3, u4, e4, a1, a2, hM, -⟩ := hC.l4 h
            refine ⟨q, lo2, hi2, u0, u1, u2, u3, u4, e4, a1, Nat.le_trans a2 hb.size, Lib.hid (hM.out.keep hb), fun _ g hg => .inr ?_⟩
            have hee : Value.pointer (some ⟨w'.heap.size, 0, none⟩) = .pointer (some ⟨g, 0, none⟩) := hg
            injection hee with h1; injection h1 with h2; injection h2 with h3
            omega), (fun h => hC.l5 h), (fun h => hC.l6 h), (fun h => hC.l7 h), (fun _ => ⟨w'.heap.size, rfl, hC.g.size, new_box5W _ _ _ _ _ _ _⟩), (fun h => hC.d3 h), (fun h => hC.d5 h), (fun h => hC.d6 h), (fun h => hC.d7 h)⟩⟩⟩
      · obtain rfl := Option.some.inj ho
        rw [if_pos (by rfl)]
        obtain ⟨j9, j10, hC⟩ : L 9 = false ∧ L 10 = false ∧ Rf w4 rb (p1 + 1) (.agg #[.slice f0 S.n5.a d0, .slice f1 S.n5.b d1, .slice f2 S.n5.c d2, .slice f3 S.n5.d d3, .slice f4 S.n5.e d4]) S L x w' := by
          rcases hI with h | ⟨h9, hj, -⟩
          · exact h
          · rw [h9] at hl; cases hl
        have g8 : L 8 = true := hall _ (Array.mem_of_getElem? (i := 0) rfl) rfl
        have g6 : L 6 = true := hall _ (Array.mem_of_getElem? (i := 1) rfl) rfl
        have g4 : L 4 = true := hall _ (Array.mem_of_getElem? (i := 2) rfl) rfl
        have g0 : L 0 = true := hall _ (Array.mem_of_getElem? (i := 3) rfl) rfl
        have g1 : L 1 = true := hall _ (Array.mem_of_getElem? (i := 4) rfl) rfl
        have g2 : L 2 = true := hall _ (Array.mem_of_getElem? (i := 5) rfl) rfl
        have g3 : L 3 = true := hall _ (Array.mem_of_getElem? (i := 6) rfl) rfl
        have g5 : L 5 = true := hall _ (Array.mem_of_getElem? (i := 8) rfl) rfl
        obtain ⟨q, lo2, hi2, u0, u1, u2, u3, u4, e4, a1, a2, hM, hdj⟩ := hC.l4 g4
        obtain ⟨g, e8, b1, hbx⟩ := hC.l8 g8
        have hd := hdj g8 g e8
        have e6 := hC.l6 g6
        have e5 := hC.l5 g5
        have hv : tupAt (x 4) 0 = .agg #[u0, u1, u2, u3, u4] := by rw [e4]; rfl
        rw [hv] at e6
        obtain ⟨r0, s0, rfl⟩ := hM.out.a.vls.form
        obtain ⟨r1, s1, rfl⟩ := hM.out.b.vls.form
        obtain ⟨r2, s2, rfl⟩ := hM.out.c.vls.form
        obtain ⟨r3, s3, rfl⟩ := hM.out.d.vls.form
        obtain ⟨r4, s4, rfl⟩ := hM.out.e.vls.form
        obtain ⟨Z, hZ⟩ : ∃ X, (((((w'.setCell ⟨g, 0, none⟩ (.slice r0 (doT S q).n5.a s0)).setCell ⟨g, 1, none⟩ (.slice r1 (doT S q).n5.b s1)).setCell ⟨g, 2, none⟩ (.slice r2 (doT S q).n5.c s2)).setCell ⟨g, 3, none⟩ (.slice r3 (doT S q).n5.d s3)).setCell ⟨g, 4, none⟩ (.slice r4 (doT S q).n5.e s4)) = X := ⟨_, rfl⟩
        have ht : Btn g (g + 1) w' Z := by rw [← hZ]; exact ((((btn_set _ _ _ _).trans (btn_set _ _ _ _)).trans (btn_set _ _ _ _)).trans (btn_set _ _ _ _)).trans (btn_set _ _ _ _)
        have hzb : Box5W Z g (.slice r0 (doT S q).n5.a s0) (.slice r1 (doT S q).n5.b s1) (.slice r2 (doT S q).n5.c s2) (.slice r3 (doT S q).n5.d s3) (.slice r4 (doT S q).n5.e s4) := by rw [← hZ]; exact ((((hbx.set0 _).set1 _).set2 _).set3 _).set4 _
        have hE := grown_new (grown_new (grown_new (grown_new (grown_new (hC.g) (show w4.heap.size ≤ g by omega) (o := 0) (v := .slice r0 (doT S q).n5.a s0)) (show w4.heap.size ≤ g by omega) (o := 1) (v := .slice r1 (doT S q).n5.b s1)) (show w4.heap.size ≤ g by omega) (o := 2) (v := .slice r2 (doT S q).n5.c s2)) (show w4.heap.size ≤ g by omega) (o := 3) (v := .slice r3 (doT S q).n5.d s3)) (show w4.heap.size ≤ g by omega) (o := 4) (v := .slice r4 (doT S q).n5.e s4)
        rw [hZ] at hE
        have hM2 := Lib.hid (hM.out.btn ht (by omega))
        obtain ⟨l0, l1, l2, l3, l4, m0, m1, m2, m3, m4⟩ := hbx
        refine wp_skip (w' := Z) ?_ ⟨x, rfl, .inr ⟨rfl, fun j h1 h2 => ?_, ⟨hE, ⟨q, lo2, hi2, g, _, _, _, _, _, e4, a1, hM2, e8, b1, hzb⟩, e5, fun h => hC.l7 h⟩⟩⟩
        · rw [← hZ]
          clear hZ hE ht hzb hM2 hv e5 e4 hI hd hdj
          go_simp
        · obtain rfl | rfl | rfl | rfl | rfl | rfl | rfl | rfl | rfl : j = 0 ∨ j = 1 ∨ j = 2 ∨ j = 3 ∨ j = 4 ∨ j = 5 ∨ j = 6 ∨ j = 7 ∨ j = 8 := by omega
          · exact lset_mono g0
          · exact lset_mono g1
          · exact lset_mono g2
          · exact lset_mono g3
          · exact lset_mono g4
          · exact lset_mono g5
          · exact lset_mono g6
          · exact absurd rfl h2
          · exact lset_mono g8
      · obtain rfl := Option.some.inj ho
        rw [if_pos (by rfl)]
        have g7 : L 7 = true := hall _ (Array.mem_of_getElem? (i := 0) rfl) rfl
        have g9 : L 9 = true := hall _ (Array.mem_of_getElem? (i := 1) rfl) rfl
        rcases hI with ⟨j9, -, -⟩ | ⟨h9, hj, hG⟩
        · rw [g9] at j9; cases j9
        obtain ⟨q, -, -, -, u0, u1, u2, u3, u4, e4, -⟩ := hG.l4
        have e7 := hG.l7 g7
        have hv : tupAt (x 4) 1 = .int .i64 (doK S q) := by rw [e4]; rfl
        rw [hv] at e7
        refine wp_value (v := .int .i64 (doK S q)) (w' := w') ?_ ⟨upd x 10 (.int .i64 (doK S q)), rfl, .inr ⟨h9, fun j h1 h2 => lset_mono (hj j h1 h2), ⟨hG.g, hG.l4, hG.l5, fun h => hG.l7 h⟩⟩⟩
        clear hv
        go_simp
    rintro L _ w5 ⟨x, rfl, hI⟩ hall
    have g9 := hall 9 (by decide)
    rcases hI with ⟨j9, -, -⟩ | ⟨-, -, hG⟩
    · rw [g9] at j9; cases j9
    obtain ⟨q, lo2, hi2, g, u0, u1, u2, u3, u4, -, a1, hM, e8, b1, hbx⟩ := hG.l4
    have hg := hG.g
    clear hG hall g9
    obtain ⟨T, hT⟩ : ∃ T, doT S q = T := ⟨_, rfl⟩
    rw [hT] at hM
    have HOT : Hid (stOkB T = true) := by show _ = _; rw [← hT]; exact stOkB_doT HOK.out
    clear hT
    have hst := hM.out.sto
    obtain ⟨g0, h0, rfl⟩ := hst.now.form
    obtain ⟨g1, h1, rfl⟩ := hst.sure.form
    obtain ⟨g2, h2, rfl⟩ := hst.last.form
    obtain ⟨g3, h3, rfl⟩ := hst.slast.form
    obtain ⟨g4, h4, rfl⟩ := hst.floors.form
    clear hst
    have HT : Hid (∀ w1, Btn 0 w4.heap.size w5 w1 → Sto w1 (.slice g0 T.now.length h0) (.slice g1 T.sure.length h1) (.slice g2 T.last.length h2) (.slice g3 T.slast.length h3) (.slice g4 T.floors.length h4) T) := fun w1 hb => (hM.out.btn hb (.inr a1)).sto
    have HZT := Lib.hid (szT_of HOT.out)
    have HNT := Lib.hid (le_of HOT.out)
    have HX := Lib.hid hbx
    have H48 := Lib.hid hh4
    have Hlr := Lib.hid hlr
    have Hbr := Lib.hid hbr
    simp only [e8]
    clear hM hbx e8 a1 hlr hbr hh4 HOT
    have hS := hg.size
    have ht := grown_btn hg
    have HR6 := Lib.hid (HR5.out.btn ht (.inl (by omega)))
    have HP6 := Lib.hid (HP5.out.btn ht (.inl (by omega)))
    have HB6 := Lib.hid (HB5.out.btn ht (.inr (by omega)))
    have HE6 := Lib.hid (HE5.out.trans (below_grown hg (by omega) HE5.out.size))
    have HM6 := Lib.hid (HM5.out.btn ht (.inr (by omega)))
    clear ht hg HR5 HP5 HB5 HE5 HRd5 HM5
    obtain ⟨x0, x1, x2, x3, x4, -, -, -, -, -⟩ := HB6.out
    obtain ⟨y0, y1, y2, y3, y4, -, -, -, -, -⟩ := HX.out
    obtain ⟨t0, t1, t2, t3, t4, m0, m1, m2, m3, m4⟩ := HR6.out
    obtain ⟨l0, l1, l2, l3, l4, k0, k1, k2, k3, k4⟩ := HP6.out
    go_wp2_with fail
    have hD : Below w5.heap.size w5 w5.drew := (Below.refl _ _).drew
    go_region_held3 (fun w' => w'.cell? ⟨w2.heap.size, 0, none⟩ = some (.slice f0 S.n5.a d0) ∧ w'.cell? ⟨w2.heap.size, 1, none⟩ = some (.slice f1 S.n5.b d1) ∧ w'.cell? ⟨w2.heap.size, 2, none⟩ = some (.slice f2 S.n5.c d2) ∧ w'.cell? ⟨w2.heap.size, 3, none⟩ = some (.slice f3 S.n5.d d3) ∧ w'.cell? ⟨w2.heap.size, 4, none⟩ = some (.slice f4 S.n5.e d4) ∧ w'.cell? ⟨g, 0, none⟩ = some (.slice g0 T.now.length h0) ∧ w'.cell? ⟨g, 1, none⟩ = some (.slice g1 T.sure.length h1) ∧ w'.cell? ⟨g, 2, none⟩ = some (.slice g2 T.last.length h2) ∧ w'.cell? ⟨g, 3, none⟩ = some (.slice g3 T.slast.length h3) ∧ w'.cell? ⟨g, 4, none⟩ = some (.slice g4 T.floors.length h4))
      (refine ⟨?_, ?_, ?_, ?_, ?_, ?_, ?_, ?_, ?_, ?_⟩ <;> first | (with_reducible assumption) | (with_reducible refine cell_far5d ?_ ?_ <;> first | omega | (with_reducible assumption)) | (with_reducible refine cell_far5d (cell_far5 ?_ ?_) ?_ <;> first | omega | (with_reducible assumption)) | (with_reducible refine cell_far5 ?_ ?_ <;> first | omega | (with_reducible assumption)) | (with_reducible refine cell_far5 (cell_far5 ?_ ?_) ?_ <;> first | omega | (with_reducible assumption)) | (go_keep; done))
      (fail)
    clear hD
    obtain ⟨Z1, hZ1⟩ : ∃ X, (((((w5.setCell ⟨w.heap.size, 0, none⟩ (.slice f0 S.n5.a d0)).setCell ⟨w.heap.size, 1, none⟩ (.slice f1 S.n5.b d1)).setCell ⟨w.heap.size, 2, none⟩ (.slice f2 S.n5.c d2)).setCell ⟨w.heap.size, 3, none⟩ (.slice f3 S.n5.d d3)).setCell ⟨w.heap.size, 4, none⟩ (.slice f4 S.n5.e d4)) = X := ⟨_, rfl⟩
    rw [hZ1]
    have hzb : Box5W Z1 (w.heap.size) (.slice f0 S.n5.a d0) (.slice f1 S.n5.b d1) (.slice f2 S.n5.c d2) (.slice f3 S.n5.d d3) (.slice f4 S.n5.e d4) := by rw [← hZ1]; exact ((((HR6.out.set0 _).set1 _).set2 _).set3 _).set4 _
    have ht : Btn (w.heap.size) (w.heap.size + 1) w5 Z1 := by rw [← hZ1]; exact ((((btn_set _ _ _ _).trans (btn_set _ _ _ _)).trans (btn_set _ _ _ _)).trans (btn_set _ _ _ _)).trans (btn_set _ _ _ _)
    have hP := HP6.out.btn ht (.inr (by omega))
    obtain ⟨Z, hZ⟩ : ∃ X, (((((Z1.setCell ⟨w.heap.size + 1, 0, none⟩ (.slice g0 T.now.length h0)).setCell ⟨w.heap.size + 1, 1, none⟩ (.slice g1 T.sure.length h1)).setCell ⟨w.heap.size + 1, 2, none⟩ (.slice g2 T.last.length h2)).setCell ⟨w.heap.size + 1, 3, none⟩ (.slice g3 T.slast.length h3)).setCell ⟨w.heap.size + 1, 4, none⟩ (.slice g4 T.floors.length h4)) = X := ⟨_, rfl⟩
    rw [hZ]
    have ht2 : Btn (w.heap.size + 1) (w.heap.size + 1 + 1) Z1 Z := by rw [← hZ]; exact ((((btn_set _ _ _ _).trans (btn_set _ _ _ _)).trans (btn_set _ _ _ _)).trans (btn_set _ _ _ _)).trans (btn_set _ _ _ _)
    have hzc := hzb.btn ht2 (.inl (by omega))
    have hzd : Box5W Z (w.heap.size + 1) (.slice g0 T.now.length h0) (.slice g1 T.sure.length h1) (.slice g2 T.last.length h2) (.slice g3 T.slast.length h3) (.slice g4 T.floors.length h4) := by rw [← hZ]; exact ((((hP.set0 _).set1 _).set2 _).set3 _).set4 _
    have hE1 := HE6.out.trans (ht.below (Nat.le_refl _) HE6.out.size)
    have HBF := Lib.hid (Below.drew (hE1.trans (ht2.below (by omega) hE1.size)))
    have hbt : ∀ w1, Btn 0 w.heap.size Z.drew w1 → Btn 0 (w.heap.size + 2) w5 w1 := fun w1 hb => (btn_wide ht (Nat.zero_le _) (by omega)).trans ((btn_wide ht2 (Nat.zero_le _) (by omega)).trans (btn_wide (btn_undrew hb) (Nat.le_refl _) (by omega)))
    have HF : Hid (∀ w1, Btn 0 w.heap.size Z.drew w1 → Sto w1 (.slice f0 S.n5.a d0) (.slice f1 S.n5.b d1) (.slice f2 S.n5.c d2) (.slice f3 S.n5.d d3) (.slice f4 S.n5.e d4) S) := fun w1 hb => (HM6.out.btn (hbt w1 hb) (.inr (by omega))).sto
    have HG : Hid (∀ w1, Btn 0 w.heap.size Z.drew w1 → Sto w1 (.slice g0 T.now.length h0) (.slice g1 T.sure.length h1) (.slice g2 T.last.length h2) (.slice g3 T.slast.length h3) (.slice g4 T.floors.length h4) T) := fun w1 hb => HT.out w1 (btn_wide (hbt w1 hb) (Nat.le_refl _) (by omega))
    clear ht ht2 hzb hP hE1 hbt HR6 HP6 HE6 HM6 HT hZ1 hZ
    go_wp2
    obtain ⟨t0, t1, t2, t3, t4, -, -, -, -, -⟩ := hzc
    obtain ⟨l0, l1, l2, l3, l4, -, -, -, -, -⟩ := hzd
    exact bodyPost_ret (v := .tuple #[.agg #[.slice f0 S.n5.a d0, .slice f1 S.n5.b d1, .slice f2 S.n5.c d2, .slice f3 S.n5.d d3, .slice f4 S.n5.e d4], .agg #[.slice g0 T.now.length h0, .slice g1 T.sure.length h1, .slice g2 T.last.length h2, .slice g3 T.slast.length h3, .slice g4 T.floors.length h4]]) (by simp [results, Try.results14, go_sem, t0, t1, t2, t3, t4, l0, l1, l2, l3, l4]) rfl ⟨S, T, _, _, _, _, _, _, _, _, _, _, rfl, szT_of HOK.out, le_of HOK.out, HZT.out, HNT.out, HF, HG, HBF.out⟩
  · have kd : (c == 0) = false := by simpa using e0
    obtain ⟨x0, x1, x2, x3, x4, -, -, -, -, -⟩ := HB5.out
    go_wp2_with fail
    clear c0'
    have hD : Below w4.heap.size w4 w4.drew := (Below.refl _ _).drew
    go_region_held3 (fun w' => w'.cell? ⟨w2.heap.size, 0, none⟩ = some (.slice f0 S.n5.a d0) ∧ w'.cell? ⟨w2.heap.size, 1, none⟩ = some (.slice f1 S.n5.b d1) ∧ w'.cell? ⟨w2.heap.size, 2, none⟩ = some (.slice f2 S.n5.c d2) ∧ w'.cell? ⟨w2.heap.size, 3, none⟩ = some (.slice f3 S.n5.d d3) ∧ w'.cell? ⟨w2.heap.size, 4, none⟩ = some (.slice f4 S.n5.e d4))
      (refine ⟨?_, ?_, ?_, ?_, ?_⟩ <;> first | (with_reducible assumption) | (with_reducible refine cell_far5 ?_ ?_ <;> first | omega | (with_reducible assumption)) | (with_reducible refine cell_far5 (cell_far5 ?_ ?_) ?_ <;> first | omega | (with_reducible assumption)) | (go_keep; done))
      (first
        | (go_at_call 35; refine (l5Bent_any rb q2 _ _ _ _ _ T2 _ HRa2.out (by omega) HQ2.out HZ2.out HN2.out).mono ?_; rintro e r3 ⟨T, z0, z1, z2, z3, z4, q3, rfl, hz3, hn3, HS3, hr, hq3, hg0⟩; have HG3 := Lib.hid (grown_trans HG2.out hg0); have HRa3 := Lib.hid hr; have HZ3 := Lib.hid hz3; have HN3 := Lib.hid hn3; have sz3 := hg0.size; have ht := grown_btn HG3.out; obtain ⟨y0, y1, y2, y3, y4, -, -, -, -, -⟩ := HB5.out.btn ht (.inr (by omega)); have HQ3 := Lib.hid (HS3.out r3 (Btn.refl _ _ _)); obtain ⟨g0, h0, rfl⟩ := HQ3.out.now.form; obtain ⟨g1, h1, rfl⟩ := HQ3.out.sure.form; obtain ⟨g2, h2, rfl⟩ := HQ3.out.last.form; obtain ⟨g3, h3, rfl⟩ := HQ3.out.slast.form; obtain ⟨g4, h4, rfl⟩ := HQ3.out.floors.form; obtain ⟨t0, t1, t2, t3, t4, m0, m1, m2, m3, m4⟩ := HR5.out.btn ht (.inl (by omega)); obtain ⟨l0, l1, l2, l3, l4, k0, k1, k2, k3, k4⟩ := HP5.out.btn ht (.inl (by omega)))
        | (go_at_call 35; refine (l5Bent_any rb q1 _ _ _ _ _ T1 _ HRa1.out (by omega) HQ1.out HZ1.out HN1.out).mono ?_; rintro e r2 ⟨T2, z0, z1, z2, z3, z4, q2, rfl, hz2, hn2, HS2, hr, hq2, hg0⟩; have HG2 := Lib.hid (grown_trans HG1.out hg0); have HRa2 := Lib.hid hr; have HZ2 := Lib.hid hz2; have HN2 := Lib.hid hn2; have sz2 := hg0.size; have ht := grown_btn HG2.out; obtain ⟨y0, y1, y2, y3, y4, -, -, -, -, -⟩ := HB5.out.btn ht (.inr (by omega)); have HQ2 := Lib.hid (HS2.out r2 (Btn.refl _ _ _)); obtain ⟨g0, h0, rfl⟩ := HQ2.out.now.form; obtain ⟨g1, h1, rfl⟩ := HQ2.out.sure.form; obtain ⟨g2, h2, rfl⟩ := HQ2.out.last.form; obtain ⟨g3, h3, rfl⟩ := HQ2.out.slast.form; obtain ⟨g4, h4, rfl⟩ := HQ2.out.floors.form)
        | (go_at_call 35; refine (l5Bent_any rb (p1 + 1) _ _ _ _ _ S _ (HRd5.out.keep hD) (by omega) (HM5.out.keep hD).sto (szT_of HOK.out) (le_of HOK.out)).mono ?_; rintro e r1 ⟨T1, z0, z1, z2, z3, z4, q1, rfl, hz1, hn1, HS1, hr, hq1, hg0⟩; have HG1 := Lib.hid (grown_trans (grown_below hD (some rb)) hg0); have HRa1 := Lib.hid hr; have HZ1 := Lib.hid hz1; have HN1 := Lib.hid hn1; have sz1 := hg0.size; have ht := grown_btn HG1.out; obtain ⟨y0, y1, y2, y3, y4, -, -, -, -, -⟩ := HB5.out.btn ht (.inr (by omega)); have HQ1 := Lib.hid (HS1.out r1 (Btn.refl _ _ _)); obtain ⟨g0, h0, rfl⟩ := HQ1.out.now.form; obtain ⟨g1, h1, rfl⟩ := HQ1.out.sure.form; obtain ⟨g2, h2, rfl⟩ := HQ1.out.last.form; obtain ⟨g3, h3, rfl⟩ := HQ1.out.slast.form; obtain ⟨g4, h4, rfl⟩ := HQ1.out.floors.form))
    have sD := hD.size
    have HT := HS3
    have HZT := HZ3
    have HNT := HN3
    have hg := HG3.out
    have hr := HRa3.out
    have ht := grown_btn hg
    have HR6 := Lib.hid (HR5.out.btn ht (.inl (by omega)))
    have HP6 := Lib.hid (HP5.out.btn ht (.inl (by omega)))
    have HB6 := Lib.hid (HB5.out.btn ht (.inr (by omega)))
    have HE6 := Lib.hid (HE5.out.trans (below_grown hg (by omega) HE5.out.size))
    have HRd6 := Lib.hid hr
    have HM6 := Lib.hid (HM5.out.btn ht (.inr (by omega)))
    have s60 := hg.size
    clear ht hg hr HR5 HP5 HB5 HE5 HRd5 HM5
    obtain ⟨Z1, hZ1⟩ : ∃ X, (((((r3.setCell ⟨w.heap.size, 0, none⟩ (.slice f0 S.n5.a d0)).setCell ⟨w.heap.size, 1, none⟩ (.slice f1 S.n5.b d1)).setCell ⟨w.heap.size, 2, none⟩ (.slice f2 S.n5.c d2)).setCell ⟨w.heap.size, 3, none⟩ (.slice f3 S.n5.d d3)).setCell ⟨w.heap.size, 4, none⟩ (.slice f4 S.n5.e d4)) = X := ⟨_, rfl⟩
    rw [hZ1]
    have hzb : Box5W Z1 (w.heap.size) (.slice f0 S.n5.a d0) (.slice f1 S.n5.b d1) (.slice f2 S.n5.c d2) (.slice f3 S.n5.d d3) (.slice f4 S.n5.e d4) := by rw [← hZ1]; exact ((((HR6.out.set0 _).set1 _).set2 _).set3 _).set4 _
    have ht : Btn (w.heap.size) (w.heap.size + 1) r3 Z1 := by rw [← hZ1]; exact ((((btn_set _ _ _ _).trans (btn_set _ _ _ _)).trans (btn_set _ _ _ _)).trans (btn_set _ _ _ _)).trans (btn_set _ _ _ _)
    have hP := HP6.out.btn ht (.inr (by omega))
    obtain ⟨Z, hZ⟩ : ∃ X, (((((Z1.setCell ⟨w.heap.size + 1, 0, none⟩ (.slice g0 T.now.length h0)).setCell ⟨w.heap.size + 1, 1, none⟩ (.slice g1 T.sure.length h1)).setCell ⟨w.heap.size + 1, 2, none⟩ (.slice g2 T.last.length h2)).setCell ⟨w.heap.size + 1, 3, none⟩ (.slice g3 T.slast.length h3)).setCell ⟨w.heap.size + 1, 4, none⟩ (.slice g4 T.floors.length h4)) = X := ⟨_, rfl⟩
    rw [hZ]
    have ht2 : Btn (w.heap.size + 1) (w.heap.size + 1 + 1) Z1 Z := by rw [← hZ]; exact ((((btn_set _ _ _ _).trans (btn_set _ _ _ _)).trans (btn_set _ _ _ _)).trans (btn_set _ _ _ _)).trans (btn_set _ _ _ _)
    have hzc := hzb.btn ht2 (.inl (by omega))
    have hzd : Box5W Z (w.heap.size + 1) (.slice g0 T.now.length h0) (.slice g1 T.sure.length h1) (.slice g2 T.last.length h2) (.slice g3 T.slast.length h3) (.slice g4 T.floors.length h4) := by rw [← hZ]; exact ((((hP.set0 _).set1 _).set2 _).set3 _).set4 _
    have hE1 := HE6.out.trans (ht.below (Nat.le_refl _) HE6.out.size)
    have HBF := Lib.hid (hE1.trans (ht2.below (by omega) hE1.size))
    have hbt : ∀ w1, Btn 0 w.heap.size Z w1 → Btn 0 (w.heap.size + 2) r3 w1 := fun w1 hb => (btn_wide ht (Nat.zero_le _) (by omega)).trans ((btn_wide ht2 (Nat.zero_le _) (by omega)).trans (btn_wide hb (Nat.le_refl _) (by omega)))
    have HF : Hid (∀ w1, Btn 0 w.heap.size Z w1 → Sto w1 (.slice f0 S.n5.a d0) (.slice f1 S.n5.b d1) (.slice f2 S.n5.c d2) (.slice f3 S.n5.d d3) (.slice f4 S.n5.e d4) S) := fun w1 hb => (HM6.out.btn (hbt w1 hb) (.inr (by omega))).sto
    have HG : Hid (∀ w1, Btn 0 w.heap.size Z w1 → Sto w1 (.slice g0 T.now.length h0) (.slice g1 T.sure.length h1) (.slice g2 T.last.length h2) (.slice g3 T.slast.length h3) (.slice g4 T.floors.length h4) T) := fun w1 hb => HT.out w1 (btn_wide (hbt w1 hb) (Nat.le_refl _) (by omega))
    clear ht ht2 hzb hP hE1 hbt HR6 HP6 HE6 HM6 HT hZ1 hZ
    go_wp2
    obtain ⟨t0, t1, t2, t3, t4, -, -, -, -, -⟩ := hzc
    obtain ⟨l0, l1, l2, l3, l4, -, -, -, -, -⟩ := hzd
    exact bodyPost_ret (v := .tuple #[.agg #[.slice f0 S.n5.a d0, .slice f1 S.n5.b d1, .slice f2 S.n5.c d2, .slice f3 S.n5.d d3, .slice f4 S.n5.e d4], .agg #[.slice g0 T.now.length h0, .slice g1 T.sure.length h1, .slice g2 T.last.length h2, .slice g3 T.slast.length h3, .slice g4 T.floors.length h4]]) (by simp [results, Try.results14, go_sem, t0, t1, t2, t3, t4, l0, l1, l2, l3, l4]) rfl ⟨S, T, _, _, _, _, _, _, _, _, _, _, rfl, szT_of HOK.out, le_of HOK.out, HZT.out, HNT.out, HF, HG, HBF.out⟩

end Go.Proofs.Ytjbkahfbaploaaa
