/-
  Contract of impl.LayText for one text of one byte where the layout can not be: nothing.
-/
import Derived.Test.YteglfdcoeogilabLong
import Derived.Test.YteglfdcoeogilabToInt
import Derived.Test.YteglfdcoeogilabRow1
import Derived.Test.YteglfdcoeogilabText
import Derived.Deep.LoopGhost
namespace Go.Proofs.Yteglfdcoeogilab
open Go.RowKit

set_option maxRecDepth 100000 in
set_option maxHeartbeats 4000000 in
theorem implLayText_bad (size many : Int) (b off cap : Nat) (w : World) (hy : layOkB size many = false) (hc : w.cell? ⟨b, off, none⟩ = some (.string (mkB [97]))) :
    Calls Try.prog 15 #[.agg #[.int .i64 size, .int .i64 many], .slice (some ⟨b, off, none⟩) 1 cap] w fun e w' => e = .returned (.tuple #[.string (mkB []), .bool false]) ∧ Below w.heap.size w w' := by
  have hal : Below w.heap.size w ((w.alloc (.cells #[.int .i64 size, .int .i64 many] 24)).alloc (.cells #[.slice (some ⟨b, off, none⟩) 1 cap] 31)) := ((Below.refl _ _).alloc (Nat.le_refl _) _).alloc (by simp) _
  have c0 := cell_keep hal hc
  obtain ⟨i0, hi, hz0, hz1, hz2⟩ := info_parts infoInt
  have hmk := fun w => run_make_row1 (P := Try.prog) 39 3 i0 (.int .i64 0) Try.underlying39 hi hz0 .i64 .i64 1 1 (Nat.le_refl _) (by rw [hz2]; omega) (by omega) w
  rw [hz1, show ((1 : Nat) : Int) = 1 from rfl] at hmk
  clear hi hz0 hz1 hz2
  obtain ⟨W2, hW2⟩ : ∃ W2, (w.alloc (.cells #[.int .i64 size, .int .i64 many] 24)).alloc (.cells #[.slice (some ⟨b, off, none⟩) 1 cap] 31) = W2 := ⟨_, rfl⟩
  have x1 : W2.cell? ⟨w.heap.size, 0, none⟩ = some (.int .i64 size) := by subst hW2; go_simp
  have x2 : W2.cell? ⟨w.heap.size, 1, none⟩ = some (.int .i64 many) := by subst hW2; go_simp
  have x3 : W2.cell? ⟨w.heap.size + 1, 0, none⟩ = some (.slice (some ⟨b, off, none⟩) 1 cap) := by subst hW2; go_simp
  rw [hW2] at hal c0
  have hsz : W2.heap.size = w.heap.size + 1 + 1 := by subst hW2; simp
  have HX := Lib.hid (And.intro x1 (And.intro x2 (And.intro x3 hsz)))
  have HAL := Lib.hid hal
  have HC0 := Lib.hid c0
  subst hW2
  clear x1 x2 x3 hsz hal c0
  go_enter Try.func15, Try.ntmps15
  go_wp2_with fail
  generalize (w.alloc (.cells #[.int .i64 size, .int .i64 many] 24)).alloc (.cells #[.slice (some ⟨b, off, none⟩) 1 cap] 31) = W2 at *
  obtain ⟨x1, x2, x3, hsz⟩ := HX.out
  have hm3 := Below.alloc (Below.refl W2.heap.size W2) (Nat.le_refl _) (.cells (madeCells #[.int .i64 0] 1) 3)
  have hr3 : Row1 (W2.alloc (.cells (madeCells #[.int .i64 0] 1) 3)) W2.heap.size 1 (fun _ => .int .i64 0) := Row1.made W2 1 (.int .i64 0) 3
  have hs3 : (W2.alloc (.cells (madeCells #[.int .i64 0] 1) 3)).heap.size = W2.heap.size + 1 := by simp
  clear hmk
  generalize W2.alloc (.cells (madeCells #[.int .i64 0] 1) 3) = W3 at *
  rw [hsz] at hr3
  have y1 := cell_keep hm3 x1
  have y2 := cell_keep hm3 x2
  have y3 := cell_keep hm3 x3
  have hw3 : w.heap.size + 1 + 1 < W3.heap.size := by omega
  have hb3 := HAL.out.trans (hm3.mono HAL.out.size)
  have c3 := cell_keep hm3 HC0.out
  clear x1 x2 x3 hm3 hs3 hsz HX HAL HC0
  go_loopg [17] 1 (fun g s17 wr => ∃ j : Nat, g = 1 - j ∧ j ≤ 1 ∧ s17 = .int .i64 j ∧ Hid (Row1 wr (w.heap.size + 1 + 1) 1 (fun i => if i < j then .int .i64 1 else .int .i64 0)) ∧ Below w.heap.size w wr ∧ (w.heap.size + 1 + 1 < wr.heap.size) ∧ wr.cell? ⟨w.heap.size, 0, none⟩ = some (.int .i64 size) ∧ wr.cell? ⟨w.heap.size, 1, none⟩ = some (.int .i64 many))
  case atStart => exact ⟨0, rfl, by omega, rfl, hr3.congr (fun i _ => by simp), hb3, hw3, y1, y2⟩
  case round =>
    obtain ⟨j, rfl, hj, rfl, HR, hb, hsr, z1, z2⟩ := hrel
    clear y1 y2 y3 hr3 hw3
    by_cases hlt : j < 1
    · obtain rfl : j = 0 := by omega
      have cr := cell_keep hb hc
      obtain ⟨r0, r1⟩ := HR.out 0 (by omega)
      have ht := fun W => implTextOk_any (mkB [97]) (by rw [mkB_size]; simp) W
      rw [mkB_toList, show tokB [97] = true from by decide] at ht
      have HT := Lib.hid ht
      have zz : (mkB [97]).size = 1 := rfl
      have HS : Hid (Row1 (wr.setCell ⟨w.heap.size + 1 + 1, 0, none⟩ (.int .i64 1)) (w.heap.size + 1 + 1) 1 (fun i => if i < 1 then .int .i64 1 else .int .i64 0)) := by
        show Row1 _ _ _ _
        exact (HR.out.set (k := 0) (x := .int .i64 1) (by omega)).congr fun i hi => by
          obtain rfl : i = 0 := by omega
          rfl
      have hbn := hb.setCell (p := ⟨w.heap.size + 1 + 1, 0, none⟩) (by simp only; omega) (.int .i64 1)
      clear ht HR
      go_wp2_with fail
      refine (HT.out _).mono ?_; rintro e w4 ⟨rfl, rfl⟩
      go_wp2
      go_roundg 0
      case measure => omega
      case rel => exact ⟨1, rfl, by omega, rfl, HS, hbn, by simp; omega, by go_simp, by go_simp⟩
    · obtain rfl : j = 1 := by omega
      have hL := fun W h => implLayLong_any size many (.slice (some ⟨w.heap.size + 1 + 1, 0, none⟩) 1 1) 1 (fun _ => 1) W h
      rw [llF_form (fun c => by rw [hy] at c; exact absurd c.1 (by simp))] at hL
      have hv : Vls wr (.slice (some ⟨w.heap.size + 1 + 1, 0, none⟩) 1 1) 1 (ints (fun _ => 1)) := (HR.out.congr (g := ints (fun _ => 1)) (fun i hi => by rw [if_pos hi])).vls (Nat.le_refl _) (by unfold maxLen; omega)
      have HL := Lib.hid (hL wr hv)
      clear hL hv HR
      go_wp2_with fail
      refine HL.out.mono ?_; rintro e w4 ⟨rfl, hb4⟩
      have hb5 := hb.trans (hb4.mono hb.size)
      go_wp2
      exact bodyPost_ret (v := .tuple #[.string (mkB []), .bool false]) (by simp [results, Try.results15, go_sem, mkB]) rfl ⟨rfl, hb5⟩

end Go.Proofs.Yteglfdcoeogilab
