/-
  Contract of DrawSpansHave: a list of ranges, a pair of numbers; nothing that existed has changed.
-/
import Derived.Test.YtehpmdmfolmaoaaDoorDrawBoth
namespace Go.Proofs.YtehpmdmfolmaoaaDoor
open Go.RowKit

set_option maxHeartbeats 4000000 in
theorem drawSpansHave_any (v : Value) (len : Nat) (w : World) (h : Byt w v len) :
    Calls Tryd.prog 27 #[v] w (Lb w) := by
  have k0 := new_box w 0 0 25
  have hal : Below w.heap.size w (w.alloc (.cells #[.int .i64 0, .int .i64 0] 25)) := (Below.refl _ _).alloc (Nat.le_refl _) _
  have hs : (w.alloc (.cells #[.int .i64 0, .int .i64 0] 25)).heap.size = w.heap.size + 1 := by simp
  have HS := Lib.hid hs
  have HB := Lib.hid (byt_keep h hal)
  clear h hs
  go_enter Tryd.func27, Tryd.ntmps27
  go_wp2_with fail
  refine (open_any v len _ HB.out).mono ?_; rintro e w1 ⟨rb, rfl, hrb, hr1, hb1⟩
  rw [HS.out] at hrb
  have k1 := k0.keep hb1
  have e1 := hal.trans (hb1.mono hal.size)
  have HR1 := Lib.hid hr1
  have hsz1 : w.heap.size < w1.heap.size := by have := hb1.size; rw [HS.out] at this; omega
  clear hr1 hb1 hal HB HS k0
  go_wp2_with fail
  refine (l1Lists_any rb 0 _ HR1.out (by omega)).mono ?_; rintro e w2 ⟨g, cap, q, L, rfl, hgrb, HO, hL, hr2, hq, hg2⟩
  have hgB := (HO.out.lt g rfl).1
  have k2 := k1.grown hg2 (by omega)
  have e2 := e1.trans (below_grown hg2 (by omega) e1.size)
  have HR2 := Lib.hid hr2
  have hgR : ¬ g = w.heap.size := by omega
  have hgW : w.heap.size < g := by omega
  have hL13 : L.length ≤ 13 := hL
  clear hr2 hg2 HR1 e1 k1 hgB hL
  by_cases hn0 : L.length = 0
  · have hb0 : decide ((0 : Int) < (L.length : Int)) = false := by simp [hn0]
    go_wp2_with fail
    refine (l1Some_any rb (q) _ HR2.out (by omega)).mono ?_; rintro e w9 ⟨lo, hi, rfl, -, hr3, hg3⟩
    have k9 := k2.grown hg3 (by omega)
    have e9 := e2.trans (below_grown hg3 (by omega) e2.size)
    have HO9 := Lib.hid (World.ownsRow.kept HO.out hg3 (Or.inr (by simpa [Value.ownBlock] using hgrb)))
    have hown4 := (World.ownsRow.kept (World.ownsRow.kept HO9.out (grown_set w9 w.heap.size 0 (.int .i64 lo)) (Or.inr (by simpa [Value.ownBlock] using hgR))) (grown_set _ w.heap.size 1 (.int .i64 hi)) (Or.inr (by simpa [Value.ownBlock] using hgR)))
    have HS4 := Lib.hid (own_spn hown4)
    have HE4 := Lib.hid ((e9.setCell (p := ⟨w.heap.size, 0, none⟩) (Nat.le_refl _) (.int .i64 lo)).setCell (p := ⟨w.heap.size, 1, none⟩) (Nat.le_refl _) (.int .i64 hi))
    clear hr3 hg3 HR2 e2 k2 e9 hown4 HO9 HO
    obtain ⟨x1, x2, x3, x4⟩ := k9
    go_wp2
    exact bodyPost_ret (v := .tuple #[.slice (some ⟨g, 0, none⟩) L.length cap, .agg #[.int .i64 lo, .int .i64 hi]]) (by simp [results, Tryd.results27, go_sem, *]) rfl ⟨g, cap, L, lo, hi, rfl, HS4.out, hL13, Nat.le_of_lt hgW, HE4.out⟩
  · have hb0 : decide ((0 : Int) < (L.length : Int)) = true := by simp; omega
    have hpos : 0 < L.length := by omega
    go_wp2_with fail
    refine (pick_any rb q 2 _ HR2.out (by omega) (by omega) (by omega)).mono ?_; rintro e w3 ⟨c, rfl, c0, -, hr3, hg3⟩
    have HR3 := Lib.hid hr3
    have HO3 := Lib.hid (World.ownsRow.kept HO.out hg3 (Or.inr (by simpa [Value.ownBlock] using hgrb)))
    have k3 := k2.grown hg3 (by omega)
    have e3 := e2.trans (below_grown hg3 (by omega) e2.size)
    clear hr3 hg3 HR2 HO k2 e2
    by_cases hc : c = 0
    · subst hc
      go_wp2_with fail
      refine (pick_any rb (q + 1) L.length _ HR3.out (by omega) (by omega) (by omega)).mono ?_; rintro e w4 ⟨kk, rfl, k0, k1, hr4, hg4⟩
      have k2 := k1 (by omega)
      obtain ⟨k, rfl⟩ : ∃ k : Nat, kk = k := ⟨kk.toNat, by omega⟩
      have hkL : k < L.length := by omega
      have HR4 := Lib.hid hr4
      have HO4 := Lib.hid (World.ownsRow.kept HO3.out hg4 (Or.inr (by simpa [Value.ownBlock] using hgrb)))
      have k4 := k3.grown hg4 (by omega)
      have e4 := e3.trans (below_grown hg4 (by omega) e3.size)
      obtain ⟨y1, y2, -, -⟩ := own_row2 HO4.out k hkL
      dsimp only at y1 y2
      generalize L.getD k (0, 0) = s at *
      obtain ⟨sl, sh⟩ := s
      dsimp only at y1 y2
      clear hr4 hg4 HR3 HO3 k3 e3
      have hal5 : Below w4.heap.size w4 (w4.alloc (.cells #[.int .i64 sl, .int .i64 sh] 25)) := (Below.refl _ _).alloc (Nat.le_refl _) _
      have HR5 := Lib.hid (HR4.out.keep hal5)
      have HO5 := Lib.hid (own_below HO4.out hal5)
      have k5 := k4.keep hal5
      have b5 := new_box w4 sl sh 25
      have e5 := e4.trans (hal5.mono e4.size)
      have hrl := HR4.out.lt
      have hwl : w.heap.size < w4.heap.size := by have := HR4.out.lt; omega
      obtain ⟨n1, n2, -, -⟩ := id b5
      obtain ⟨n3, n4, n5, n6⟩ := id k5
      clear HR4 HO4 k4 e4 hal5
      go_wp2_with fail
      generalize hB4 : w4.heap.size = B4 at *
      go_region_held3 (fun w' => w'.cell? ⟨B4, 0, none⟩ = some (.int .i64 sl) ∧ w'.cell? ⟨B4, 1, none⟩ = some (.int .i64 sh))
        (refine ⟨?_, ?_⟩ <;> first | (go_keep; done) | (refine grown_cell hg6 (by omega) ?_; first | (go_keep; done) | (go_simp; done)) | (refine set2_far (by omega) ?_; first | assumption | (go_keep; done)))
        (first
          | (go_at_call 43; refine (pick_any rb (q + 2) 4 _ (HR5.out.keep (Below.refl _ _).drew) (by omega) (by omega) (by omega)).mono ?_; rintro e w6 ⟨pv, rfl, p0, p1, hr6, hg6⟩; have HO6 := Lib.hid (World.ownsRow.kept (own_below HO5.out (Below.refl _ _).drew) hg6 (Or.inr (by simpa [Value.ownBlock] using hgrb))); have k6 := (k5.keep (Below.refl _ _).drew).grown hg6 (by omega); obtain ⟨m1, m2, m3, m4⟩ := id k6; have e6 := (e5.trans ((Below.refl _ _).drew.mono e5.size)).trans (below_grown hg6 (by omega) e5.size))
          | (go_at_call 44; refine (min_any _ _ _).mono ?_; rintro e w' ⟨rfl, rfl⟩))
      generalize mn sh (IntKind.i64.wrap (IntKind.i64.wrap (sl + 1) + pv)) = hh at *
      have hown4 := (World.ownsRow.kept (World.ownsRow.kept HO6.out (grown_set w6 w.heap.size 0 (.int .i64 sl)) (Or.inr (by simpa [Value.ownBlock] using hgR))) (grown_set _ w.heap.size 1 (.int .i64 hh)) (Or.inr (by simpa [Value.ownBlock] using hgR)))
      have HS4 := Lib.hid (own_spn hown4)
      have HE4 := Lib.hid ((e6.setCell (p := ⟨w.heap.size, 0, none⟩) (Nat.le_refl _) (.int .i64 sl)).setCell (p := ⟨w.heap.size, 1, none⟩) (Nat.le_refl _) (.int .i64 hh))
      clear hown4 e6 e5 HO6 HO5 HR5 hr6 hg6 k5 b5
      go_wp2
      exact bodyPost_ret (v := .tuple #[.slice (some ⟨g, 0, none⟩) L.length cap, .agg #[.int .i64 sl, .int .i64 hh]]) (by simp [results, Tryd.results27, go_sem, *]) rfl ⟨g, cap, L, sl, hh, rfl, HS4.out, hL13, Nat.le_of_lt hgW, HE4.out⟩
    · have hcb : (c == 0) = false := by simp [hc]
      go_wp2_with fail
      refine (l1Some_any rb (q + 1) _ HR3.out (by omega)).mono ?_; rintro e w9 ⟨lo, hi, rfl, -, hr3, hg3⟩
      have k9 := k3.grown hg3 (by omega)
      have e9 := e3.trans (below_grown hg3 (by omega) e3.size)
      have HO9 := Lib.hid (World.ownsRow.kept HO3.out hg3 (Or.inr (by simpa [Value.ownBlock] using hgrb)))
      have hown4 := (World.ownsRow.kept (World.ownsRow.kept HO9.out (grown_set w9 w.heap.size 0 (.int .i64 lo)) (Or.inr (by simpa [Value.ownBlock] using hgR))) (grown_set _ w.heap.size 1 (.int .i64 hi)) (Or.inr (by simpa [Value.ownBlock] using hgR)))
      have HS4 := Lib.hid (own_spn hown4)
      have HE4 := Lib.hid ((e9.setCell (p := ⟨w.heap.size, 0, none⟩) (Nat.le_refl _) (.int .i64 lo)).setCell (p := ⟨w.heap.size, 1, none⟩) (Nat.le_refl _) (.int .i64 hi))
      clear hr3 hg3 HR3 e3 k3 e9 hown4 HO9 HO3
      obtain ⟨x1, x2, x3, x4⟩ := k9
      go_wp2
      exact bodyPost_ret (v := .tuple #[.slice (some ⟨g, 0, none⟩) L.length cap, .agg #[.int .i64 lo, .int .i64 hi]]) (by simp [results, Tryd.results27, go_sem, *]) rfl ⟨g, cap, L, lo, hi, rfl, HS4.out, hL13, Nat.le_of_lt hgW, HE4.out⟩

end Go.Proofs.YtehpmdmfolmaoaaDoor
