/-
  Contract of l1Both and of DrawSpansAdd, DrawSpansCut, DrawSpansMeet: a list of ranges, a pair of numbers; nothing that existed has changed.
-/
import Derived.Test.YteglfdcoeogilaaDoorDrawLists
namespace Go.Proofs.YteglfdcoeogilaaDoor
open Go.RowKit

def Lb (w : World) (e : Ending) (w' : World) : Prop :=
  ∃ (g cap : Nat) (L : List Rng) (lo hi : Int), e = .returned (.tuple #[.slice (some ⟨g, 0, none⟩) L.length cap, .agg #[.int .i64 lo, .int .i64 hi]]) ∧ Spn w' (.slice (some ⟨g, 0, none⟩) L.length cap) L ∧ L.length ≤ 13 ∧ w.heap.size ≤ g ∧ Below w.heap.size w w'

theorem byt_keep {w w1 : World} {v : Value} {len : Nat} (h : Byt w v len) (hb : Below w.heap.size w w1) : Byt w1 v len := by
  obtain ⟨z, a, cap, hv, hl, hm, hc⟩ := h
  refine ⟨z, a, cap, hv, hl, hm, fun hp => ?_⟩
  obtain ⟨b, off, ha, hcc⟩ := hc hp
  exact ⟨b, off, ha, fun i hi => ⟨cell_keep hb (hcc i hi).1, (hcc i hi).2⟩⟩

set_option maxHeartbeats 4000000 in
theorem l1Both_any (v : Value) (len : Nat) (w : World) (h : Byt w v len) :
    Calls Tryd.prog 21 #[v] w (Lb w) := by
  have k0 := new_box w 0 0 25
  have hal : Below w.heap.size w (w.alloc (.cells #[.int .i64 0, .int .i64 0] 25)) := (Below.refl _ _).alloc (Nat.le_refl _) _
  have hs : (w.alloc (.cells #[.int .i64 0, .int .i64 0] 25)).heap.size = w.heap.size + 1 := by simp
  have HS := Lib.hid hs
  have HB := Lib.hid (byt_keep h hal)
  clear h hs
  go_enter Tryd.func21, Tryd.ntmps21
  go_wp2_with fail
  refine (open_any v len _ HB.out).mono ?_; rintro e w1 ⟨rb, rfl, hrb, hr1, hb1⟩
  rw [HS.out] at hrb
  have k1 := k0.keep hb1
  have e1 := hal.trans (hb1.mono hal.size)
  have HR1 := Lib.hid hr1
  have hsz1 : w.heap.size < w1.heap.size := by have := hb1.size; rw [HS.out] at this; omega
  clear hr1 hb1 hal HB HS k0
  go_wp2_with fail
  refine (l1Lists_any rb 0 _ HR1.out (by omega)).mono ?_; rintro e w2 ⟨g, cap, q, L, rfl, hgrb, HO, hL, hr2, hq, hg2⟩
  have hgB := (HO.out.lt g rfl).1
  have k2 := k1.grown hg2 (by omega)
  have e2 := e1.trans (below_grown hg2 (by omega) e1.size)
  have HR2 := Lib.hid hr2
  have hgR : ¬ g = w.heap.size := by omega
  have hgW : w.heap.size < g := by omega
  clear hr2 hg2 HR1 e1 k1 hgB
  go_wp2_with fail
  refine (l1Some_any rb q _ HR2.out (by omega)).mono ?_; rintro e w3 ⟨lo, hi, rfl, -, hr3, hg3⟩
  have k3 := k2.grown hg3 (by omega)
  have e3 := e2.trans (below_grown hg3 (by omega) e2.size)
  have HO3 := Lib.hid (World.ownsRow.kept HO.out hg3 (Or.inr (by simpa [Value.ownBlock] using hgrb)))
  have hown4 := (World.ownsRow.kept (World.ownsRow.kept HO3.out (grown_set w3 w.heap.size 0 (.int .i64 lo)) (Or.inr (by simpa [Value.ownBlock] using hgR))) (grown_set _ w.heap.size 1 (.int .i64 hi)) (Or.inr (by simpa [Value.ownBlock] using hgR)))
  have HS4 := Lib.hid (own_spn hown4)
  have HE4 := Lib.hid ((e3.setCell (p := ⟨w.heap.size, 0, none⟩) (Nat.le_refl _) (.int .i64 lo)).setCell (p := ⟨w.heap.size, 1, none⟩) (Nat.le_refl _) (.int .i64 hi))
  have hL13 : L.length ≤ 13 := hL
  clear hr3 hg3 HR2 e2 k2 hown4 HO3 HO hL
  obtain ⟨x1, x2, x3, x4⟩ := k3
  go_wp2
  exact bodyPost_ret (v := .tuple #[.slice (some ⟨g, 0, none⟩) L.length cap, .agg #[.int .i64 lo, .int .i64 hi]]) (by simp [results, Tryd.results21, go_sem, *]) rfl ⟨g, cap, L, lo, hi, rfl, HS4.out, hL13, Nat.le_of_lt hgW, HE4.out⟩

theorem spn_set {w : World} {g b o n cap : Nat} {L : List Rng} {u : Value} (h : Spn w (.slice (some ⟨g, 0, none⟩) n cap) L) (hne : b ≠ g) : Spn (w.setCell ⟨b, o, none⟩ u) (.slice (some ⟨g, 0, none⟩) n cap) L := by
  obtain ⟨a, c, hv, hl, hm, hc⟩ := h
  refine ⟨a, c, hv, hl, hm, fun hp => ?_⟩
  obtain ⟨b', off, ha, hcc⟩ := hc hp
  injection hv with e1 e2 e3
  rw [← e1] at ha; injection ha with ha; injection ha with hb1 hb2 hb3
  subst hb1; subst hb2
  have q : ∀ oo, (w.setCell ⟨b, o, none⟩ u).cell? ⟨g, oo, none⟩ = w.cell? ⟨g, oo, none⟩ := fun oo => by go_simp
  exact ⟨g, 0, e1.symm, fun i hi => ⟨(q _).trans (hcc i hi).1, (q _).trans (hcc i hi).2⟩⟩


set_option maxHeartbeats 1000000 in
theorem drawSpansCut_any (v : Value) (len : Nat) (w : World) (h : Byt w v len) :
    Calls Tryd.prog 5 #[v] w (Lb w) := by
  have k0 := new_box w 0 0 25
  have hal : Below w.heap.size w (w.alloc (.cells #[.int .i64 0, .int .i64 0] 25)) := (Below.refl _ _).alloc (Nat.le_refl _) _
  have HB := Lib.hid (byt_keep h hal)
  clear h
  go_enter Tryd.func5, Tryd.ntmps5
  go_wp2_with fail
  refine (l1Both_any v len _ HB.out).mono ?_; rintro e w1 ⟨g, cap, L, lo, hi, rfl, hsp, hL, hg, hb1⟩
  rw [show (w.alloc (.cells #[.int .i64 0, .int .i64 0] 25)).heap.size = w.heap.size + 1 by simp] at hg
  have k1 := k0.keep hb1
  have HS4 := Lib.hid (spn_set (b := w.heap.size) (o := 1) (u := .int .i64 hi) (spn_set (b := w.heap.size) (o := 0) (u := .int .i64 lo) hsp (by omega)) (by omega))
  have HE4 := Lib.hid (((hal.trans (hb1.mono hal.size)).setCell (p := ⟨w.heap.size, 0, none⟩) (Nat.le_refl _) (.int .i64 lo)).setCell (p := ⟨w.heap.size, 1, none⟩) (Nat.le_refl _) (.int .i64 hi))
  obtain ⟨x1, x2, x3, x4⟩ := k1
  clear HB hsp hb1 hal
  go_wp2_with fail
  exact bodyPost_ret (v := .tuple #[.slice (some ⟨g, 0, none⟩) L.length cap, .agg #[.int .i64 lo, .int .i64 hi]]) (by simp [results, Tryd.results5, go_sem, *]) rfl ⟨g, cap, L, lo, hi, rfl, HS4.out, hL, by omega, HE4.out⟩


end Go.Proofs.YteglfdcoeogilaaDoor
