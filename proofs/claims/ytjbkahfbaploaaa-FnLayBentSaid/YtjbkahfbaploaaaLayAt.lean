/-
  Contracts: Lay.at, Lay.back and their reference models l3At, l3Back.
-/
import Derived.Test.YtjbkahfbaploaaaLay
import Derived.Lib.Hide
namespace Go.Proofs.Ytjbkahfbaploaaa
open Go.RowKit



set_option maxHeartbeats 400000 in
theorem layBack_any (size many obj a : Int) (w : World) (h : layOkB size many = true) (h0 : 0 ≤ obj) (h1 : obj < many) (ha : 0 ≤ a) (ha1 : a ≤ 48) :
    Calls Try.prog 25 #[.agg #[.int .i64 size, .int .i64 many], .int .i64 obj, .int .i64 a] w fun e w' => e = .returned (.int .i64 (backF size many obj a)) ∧ Below w.heap.size w w' := by
  obtain ⟨c1, c2, c3, c4⟩ := layOkB_iff.1 h
  have hb := back_bd h h0 h1 ha
  have hq := quo_bd (k := size) ha c1
  have hr := rem_bd (n := a) c1
  have hm := mul_bd hq.1 (show 0 ≤ many by omega) c4
  have hm2 := mul_bd (show 0 ≤ a / size * many + obj by omega) (show 0 ≤ size by omega) c2
  have k := new_box w size many 24
  have hal : Below w.heap.size w (w.alloc (.cells #[.int .i64 size, .int .i64 many] 24)) := (Below.refl _ _).alloc (Nat.le_refl _) _
  unfold backF at *
  clear h
  go_enter Try.func25, Try.ntmps25
  go_wp2_with fail
  refine (splitRO_any a size _ ha (by omega) c1 c2).mono ?_; rintro e w1 ⟨rfl, hb1⟩
  have e1 := hal.trans (hb1.mono hal.size)
  have hz1 : w.heap.size < w1.heap.size := by have := hb1.size; simp at this; omega
  obtain ⟨x1, x2, -, -⟩ := k.keep hb1
  go_wp2_with fail
  refine (joinRB_any (a / size) obj many _ hq.1 (by omega) h0 (by omega) c3 (by omega)).mono ?_; rintro e w2 ⟨rfl, hb2⟩
  have g1 := new_box w1 (a / size) (a % size) 98
  have e2 : Below w.heap.size w w2 := (e1.alloc (by omega) _).trans (hb2.mono (by simp; omega))
  obtain ⟨y1, y2, -, -⟩ := g1.keep hb2
  have hk1 := ((k.keep hb1).keep ((Below.refl _ _).alloc (Nat.le_refl _) (.cells #[.int .i64 (a / size), .int .i64 (a % size)] 98))).keep hb2
  clear x1 x2
  obtain ⟨x1, x2, -, -⟩ := hk1
  go_wp2_with fail
  refine (joinUO_any (a / size * many + obj) (a % size) size _ (by omega) (by omega) hr.1 (by omega) c1 c2).mono ?_; rintro e w3 ⟨rfl, hb3⟩
  have e3 := e2.trans (hb3.mono e2.size)
  go_wp2
  go_ret
  exact ⟨rfl, e3⟩

set_option maxHeartbeats 400000 in
theorem layAt_any (size many p : Int) (w : World) (h : layOkB size many = true) (h0 : 0 ≤ p) (h1 : p ≤ 4096) :
    Calls Try.prog 22 #[.agg #[.int .i64 size, .int .i64 many], .int .i64 p] w fun e w' => e = .returned (.tuple #[.int .i64 (objF size many p), .int .i64 (atF size many p)]) ∧ Below w.heap.size w w' := by
  obtain ⟨c1, c2, c3, c4⟩ := layOkB_iff.1 h
  have hb := at_bd h h0
  unfold objF atF at *
  clear h
  have hq := quo_bd (k := size) h0 c1
  have hr := rem_bd (n := p) c1
  have hq2 := quo_bd (k := many) hq.1 c3
  have hr2 := rem_bd (n := p / size) c3
  have k := new_box w size many 24
  have hal : Below w.heap.size w (w.alloc (.cells #[.int .i64 size, .int .i64 many] 24)) := (Below.refl _ _).alloc (Nat.le_refl _) _
  go_enter Try.func22, Try.ntmps22
  go_wp2_with fail
  refine (splitUO_any p size _ h0 (by omega) c1 c2).mono ?_; rintro e w1 ⟨rfl, hb1⟩
  have e1 := hal.trans (hb1.mono hal.size)
  have hz1 : w.heap.size < w1.heap.size := by have := hb1.size; simp at this; omega
  have k1 := k.keep hb1
  obtain ⟨x1, x2, -, -⟩ := id k1
  go_wp2_with fail
  refine (splitRB_any (p / size) many _ hq.1 (by omega) c3 (by omega)).mono ?_; rintro e w2 ⟨rfl, hb2⟩
  have g1 := new_box w1 (p / size) (p % size) 95
  have e2 : Below w.heap.size w w2 := (e1.alloc (by omega) _).trans (hb2.mono (by simp; omega))
  have hz2 : w1.heap.size < w2.heap.size := by have := hb2.size; simp at this; omega
  have g2 := g1.keep hb2
  have k2 := (k1.keep ((Below.refl _ _).alloc (Nat.le_refl _) (.cells #[.int .i64 (p / size), .int .i64 (p % size)] 95))).keep hb2
  clear x1 x2 k k1 g1
  obtain ⟨x1, x2, -, -⟩ := k2
  obtain ⟨y1, y2, -, -⟩ := g2
  go_wp2_with fail
  have hj := mul_bd hq2.1 (show 0 ≤ size by omega) c2
  go_region_held3 (fun w' => w'.cell? ⟨w.heap.size, 0, none⟩ = some (.int .i64 size) ∧ w'.cell? ⟨w1.heap.size, 1, none⟩ = some (.int .i64 (p % size)) ∧ w'.cell? ⟨w2.heap.size, 0, none⟩ = some (.int .i64 (p / size / many)) ∧ w'.cell? ⟨w2.heap.size, 1, none⟩ = some (.int .i64 (p / size % many)))
    (refine ⟨?_, ?_, ?_, ?_⟩ <;> first | (go_keep; done) | (refine cell_keep hb ?_; first | (go_keep; done) | (go_simp; done)))
    ((go_at_call 46; refine (joinRO_any (p / size / many) (p % size) size _ hq2.1 (by omega) hr.1 (by omega) c1 c2).mono ?_; rintro e w' ⟨rfl, hb⟩; have hl : Below w.heap.size w w' := (e2.alloc (by omega) _).drew.trans (hb.mono (by simp; omega))))
  go_wp2
  go_ret2
  exact ⟨rfl, hl⟩

end Go.Proofs.Ytjbkahfbaploaaa
