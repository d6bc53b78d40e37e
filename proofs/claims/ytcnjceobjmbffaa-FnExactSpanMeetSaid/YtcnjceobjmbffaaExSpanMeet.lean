/-
  laws.FnExactSpanMeet returns true at every two ranges: both sides return the same. No condition.
-/
import Derived.Test.YtcnjceobjmbffaaFrame
import Derived.Test.YtcnjceobjmbffaaMeetS
import Derived.Deep.DeepCutAuto
namespace Go.Proofs.Ytcnjceobjmbffaa.exSpanMeet
open Go.ChangeShapes Go.WideShapes Go.ChangeAt Go.RowKit Go.Joins

set_option maxHeartbeats 20000000 in
theorem walk (a b c d : Int) (w : World) :
    Calls Try.prog 5 #[.agg #[.int .i64 a, .int .i64 b], .agg #[.int .i64 c, .int .i64 d]] w fun e w' => e = .returned (.bool true) ∧ Below w.heap.size w w' := by
  go_enter Try.func5, Try.ntmps5
  go_upto_region 1 with fail
  go_cut [5, 6] (fun s5 s6 wx => ∃ g : Nat, s5 = .pointer (some ⟨g, 0, none⟩) ∧ s6 = .bool (smB a b c d) ∧ (wx.cell? ⟨w.heap.size, 0, none⟩ = some (.int .i64 a) ∧ wx.cell? ⟨w.heap.size, 1, none⟩ = some (.int .i64 b) ∧ wx.cell? ⟨w.heap.size + 1, 0, none⟩ = some (.int .i64 c) ∧ wx.cell? ⟨w.heap.size + 1, 1, none⟩ = some (.int .i64 d) ∧ wx.cell? ⟨g, 0, none⟩ = some (.int .i64 (smLo a b c d)) ∧ wx.cell? ⟨g, 1, none⟩ = some (.int .i64 (smHi a b c d))) ∧ Below w.heap.size w wx)
  case first =>
    go_region_held3 (fun w' => w'.cell? ⟨w.heap.size, 0, none⟩ = some (.int .i64 a) ∧ w'.cell? ⟨w.heap.size, 1, none⟩ = some (.int .i64 b) ∧ w'.cell? ⟨w.heap.size + 1, 0, none⟩ = some (.int .i64 c) ∧ w'.cell? ⟨w.heap.size + 1, 1, none⟩ = some (.int .i64 d))
      (refine ⟨?_, ?_, ?_, ?_⟩ <;> first | (go_keep; done) | (refine cell_keep hb ?_; first | (go_keep; done) | (go_simp; done)) | (go_split_ands; exact alloc_swap (by omega) (by assumption)) | (go_split_ands; exact set2_far (by omega) (by assumption)))
      (first
        | (go_at_call_of 12 (Value.int .i64 a); refine (toSpan_any a b _).mono ?_; rintro e w' ⟨rfl, hb⟩; have hn : w.heap.size + 1 < w'.heap.size := (by have hs := hb.size; (try simp at hs); omega); have hl : Below w.heap.size w w' := (by exact Below.trans (by (repeat (first | exact hl | exact Below.refl _ _ | refine Below.alloc ?_ (by first | omega | (simp; done) | (simp; omega)) _ | refine Below.drew ?_))) (hb.mono (by first | omega | (simp; done) | (simp; omega)))); (first | (have hx : Box2 w' _ 0 0 := box_alloc hb; obtain ⟨x1, x2, x3, x4⟩ := id hx) | (have hx : Box2 w' _ 0 0 := box_alloc_drew hb; (try simp at hx); obtain ⟨x1, x2, x3, x4⟩ := id hx) | (have hx : Box2 w' _ 0 0 := Box2.keep hx hb; obtain ⟨x1, x2, x3, x4⟩ := id hx) | skip))
        | (go_at_call_of 12 (Value.int .i64 c); refine (toSpan_any c d _).mono ?_; rintro e w' ⟨rfl, hb⟩; have hn : w.heap.size + 1 < w'.heap.size := (by have hs := hb.size; (try simp at hs); omega); have hl : Below w.heap.size w w' := (by exact Below.trans (by (repeat (first | exact hl | exact Below.refl _ _ | refine Below.alloc ?_ (by first | omega | (simp; done) | (simp; omega)) _ | refine Below.drew ?_))) (hb.mono (by first | omega | (simp; done) | (simp; omega)))); (first | (have hx : Box2 w' _ 0 0 := box_alloc hb; obtain ⟨x1, x2, x3, x4⟩ := id hx) | (have hx : Box2 w' _ 0 0 := box_alloc_drew hb; (try simp at hx); obtain ⟨x1, x2, x3, x4⟩ := id hx) | (have hx : Box2 w' _ 0 0 := Box2.keep hx hb; obtain ⟨x1, x2, x3, x4⟩ := id hx) | skip))
        | (go_at_call 9; refine (specSpanMeet_any a b c d _).mono ?_; rintro e w' ⟨rfl, hb⟩; have hn : w.heap.size + 1 < w'.heap.size := (by have hs := hb.size; (try simp at hs); omega); have hl : Below w.heap.size w w' := (by exact Below.trans (by (repeat (first | exact hl | exact Below.refl _ _ | refine Below.alloc ?_ (by first | omega | (simp; done) | (simp; omega)) _ | refine Below.drew ?_))) (hb.mono (by first | omega | (simp; done) | (simp; omega)))); (first | (have hx : Box2 w' _ 0 0 := box_alloc hb; obtain ⟨x1, x2, x3, x4⟩ := id hx) | (have hx : Box2 w' _ 0 0 := box_alloc_drew hb; (try simp at hx); obtain ⟨x1, x2, x3, x4⟩ := id hx) | (have hx : Box2 w' _ 0 0 := Box2.keep hx hb; obtain ⟨x1, x2, x3, x4⟩ := id hx) | skip)))
    all_goals
      go_wp2_with fail
      go_meet
      first
        | (have hy := new_box w' (smLo a b c d) (smHi a b c d) 24; go_split_ands; exact ⟨_, rfl, rfl, ⟨by assumption, by assumption, by assumption, by assumption, hy.1, hy.2.1⟩, hl.alloc (by omega) _⟩)
        | (have hy := set2_box (x := smLo a b c d) (y := smHi a b c d) hx; go_split_ands; exact ⟨_, rfl, rfl, ⟨by assumption, by assumption, by assumption, by assumption, hy.1, hy.2.1⟩, (hl.setCell (by simp only; omega) _).setCell (by simp only; omega) _⟩)
  case rest =>
    obtain ⟨g, rfl, rfl, ⟨p1, p2, q1, q2, r1, r2⟩, hl⟩ := hcut
    have lg := World.block_lt_of_cell? _ _ r1
    have lq := World.block_lt_of_cell? _ _ q1
    simp only at lg lq
    go_upto_region 2 with fail
    go_cut [7, 8] (fun s7 s8 wx => ∃ k : Nat, s7 = .pointer (some ⟨k, 0, none⟩) ∧ s8 = .bool (smB a b c d) ∧ (wx.cell? ⟨g, 0, none⟩ = some (.int .i64 (smLo a b c d)) ∧ wx.cell? ⟨g, 1, none⟩ = some (.int .i64 (smHi a b c d)) ∧ wx.cell? ⟨k, 0, none⟩ = some (.int .i64 (smLo a b c d)) ∧ wx.cell? ⟨k, 1, none⟩ = some (.int .i64 (smHi a b c d))) ∧ Below w.heap.size w wx)
    case first =>
      go_region_held3 (fun w' => w'.cell? ⟨w.heap.size, 0, none⟩ = some (.int .i64 a) ∧ w'.cell? ⟨w.heap.size, 1, none⟩ = some (.int .i64 b) ∧ w'.cell? ⟨w.heap.size + 1, 0, none⟩ = some (.int .i64 c) ∧ w'.cell? ⟨w.heap.size + 1, 1, none⟩ = some (.int .i64 d) ∧ w'.cell? ⟨g, 0, none⟩ = some (.int .i64 (smLo a b c d)) ∧ w'.cell? ⟨g, 1, none⟩ = some (.int .i64 (smHi a b c d)))
        (refine ⟨?_, ?_, ?_, ?_, ?_, ?_⟩ <;> first | (go_keep; done) | (refine cell_keep hb ?_; first | (go_keep; done) | (go_simp; done)) | (go_split_ands; exact alloc_swap (by omega) (by assumption)) | (go_split_ands; exact set2_far (by omega) (by assumption)))
        (first
          | (go_at_call_of 12 (Value.int .i64 a); refine (toSpan_any a b _).mono ?_; rintro e w' ⟨rfl, hb⟩; have hn : w.heap.size + 1 < w'.heap.size ∧ g < w'.heap.size := (by have hs := hb.size; (try simp at hs); omega); have hl : Below w.heap.size w w' := (by exact Below.trans (by (repeat (first | exact hl | exact Below.refl _ _ | refine Below.alloc ?_ (by first | omega | (simp; done) | (simp; omega)) _ | refine Below.drew ?_))) (hb.mono (by first | omega | (simp; done) | (simp; omega)))); (first | (have hx : Box2 w' _ 0 0 := box_alloc hb; obtain ⟨x1, x2, x3, x4⟩ := id hx) | (have hx : Box2 w' _ 0 0 := box_alloc_drew hb; (try simp at hx); obtain ⟨x1, x2, x3, x4⟩ := id hx) | (have hx : Box2 w' _ 0 0 := Box2.keep hx hb; obtain ⟨x1, x2, x3, x4⟩ := id hx) | skip))
          | (go_at_call_of 12 (Value.int .i64 c); refine (toSpan_any c d _).mono ?_; rintro e w' ⟨rfl, hb⟩; have hn : w.heap.size + 1 < w'.heap.size ∧ g < w'.heap.size := (by have hs := hb.size; (try simp at hs); omega); have hl : Below w.heap.size w w' := (by exact Below.trans (by (repeat (first | exact hl | exact Below.refl _ _ | refine Below.alloc ?_ (by first | omega | (simp; done) | (simp; omega)) _ | refine Below.drew ?_))) (hb.mono (by first | omega | (simp; done) | (simp; omega)))); (first | (have hx : Box2 w' _ 0 0 := box_alloc hb; obtain ⟨x1, x2, x3, x4⟩ := id hx) | (have hx : Box2 w' _ 0 0 := box_alloc_drew hb; (try simp at hx); obtain ⟨x1, x2, x3, x4⟩ := id hx) | (have hx : Box2 w' _ 0 0 := Box2.keep hx hb; obtain ⟨x1, x2, x3, x4⟩ := id hx) | skip))
          | (go_at_call 8; refine (implSpanMeet_any a b c d _).mono ?_; rintro e w' ⟨rfl, hb⟩; have hn : w.heap.size + 1 < w'.heap.size ∧ g < w'.heap.size := (by have hs := hb.size; (try simp at hs); omega); have hl : Below w.heap.size w w' := (by exact Below.trans (by (repeat (first | exact hl | exact Below.refl _ _ | refine Below.alloc ?_ (by first | omega | (simp; done) | (simp; omega)) _ | refine Below.drew ?_))) (hb.mono (by first | omega | (simp; done) | (simp; omega)))); (first | (have hx : Box2 w' _ 0 0 := box_alloc hb; obtain ⟨x1, x2, x3, x4⟩ := id hx) | (have hx : Box2 w' _ 0 0 := box_alloc_drew hb; (try simp at hx); obtain ⟨x1, x2, x3, x4⟩ := id hx) | (have hx : Box2 w' _ 0 0 := Box2.keep hx hb; obtain ⟨x1, x2, x3, x4⟩ := id hx) | skip)))
      all_goals
        go_wp2_with fail
        go_meet
        first
          | (have hy := new_box w' (smLo a b c d) (smHi a b c d) 24; go_split_ands; exact ⟨_, rfl, rfl, ⟨by assumption, by assumption, hy.1, hy.2.1⟩, hl.alloc (by omega) _⟩)
          | (have hy := set2_box (x := smLo a b c d) (y := smHi a b c d) hx; go_split_ands; exact ⟨_, rfl, rfl, ⟨by assumption, by assumption, hy.1, hy.2.1⟩, (hl.setCell (by simp only; omega) _).setCell (by simp only; omega) _⟩)
    case rest =>
      obtain ⟨k, rfl, rfl, ⟨p1, p2, q1, q2⟩, hl⟩ := hcut
      have he : spEq (smLo a b c d) (smHi a b c d) (smLo a b c d) (smHi a b c d) = true := by unfold spEq; simp
      generalize smLo a b c d = lo at *
      generalize smHi a b c d = hi at *
      generalize smB a b c d = B at *
      go_wp2_with (go_at_call 13; refine (eqSpan_any lo hi lo hi _).mono ?_; rintro e w' ⟨rfl, hb⟩)
      go_ret
      exact ⟨rfl, hl.trans (hb.mono hl.size)⟩

end Go.Proofs.Ytcnjceobjmbffaa.exSpanMeet
