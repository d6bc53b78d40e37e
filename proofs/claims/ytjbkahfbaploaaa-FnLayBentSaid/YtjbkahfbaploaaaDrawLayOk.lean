/-
  Contract of DrawLayOk: a layout; nothing that existed has changed.
-/
import Derived.Test.YtjbkahfbaploaaaDrawLay
namespace Go.Proofs.Ytjbkahfbaploaaa
open Go.RowKit

def DtLK (w : World) (e : Ending) (w' : World) : Prop :=
  ∃ size many : Int, e = .returned (.agg #[.int .i64 size, .int .i64 many]) ∧ Below w.heap.size w w'

set_option maxHeartbeats 4000000 in
theorem drawLayOk_any (v : Value) (len : Nat) (w : World) (h : Byt w v len) :
    Calls Try.prog 5 #[v] w (DtLK w) := by
  have k0 := new_box w 0 0 24
  have hal : Below w.heap.size w (w.alloc (.cells #[.int .i64 0, .int .i64 0] 24)) := (Below.refl _ _).alloc (Nat.le_refl _) _
  have hs : (w.alloc (.cells #[.int .i64 0, .int .i64 0] 24)).heap.size = w.heap.size + 1 := by simp
  have HS := Lib.hid hs
  have HB := Lib.hid (byt_keep h hal)
  clear h hs
  go_enter Try.func5, Try.ntmps5
  go_wp2_with fail
  refine (open_any v len _ HB.out).mono ?_; rintro e w1 ⟨rb, rfl, hrb, hr1, hb1⟩
  rw [HS.out] at hrb
  have k1 := k0.keep hb1
  have e1 := hal.trans (hb1.mono hal.size)
  have HR1 := Lib.hid hr1
  have hsz1 : w.heap.size < w1.heap.size := by have := hb1.size; rw [HS.out] at this; omega
  clear hr1 hb1 hal HB HS k0
  go_wp2_with fail
  refine (l3Lays_any rb 0 _ HR1.out (by omega)).mono ?_; rintro e w2 ⟨size, many, q, rfl, s0, s1, m0, m1, hr2, hq2, hg2⟩
  have k2 := k1.grown hg2 (by omega)
  have e2 := e1.trans (below_grown hg2 (by omega) e1.size)
  clear hr2 hg2 HR1 e1 k1
  obtain ⟨x1, x2, x3, x4⟩ := k2
  go_wp2
  exact bodyPost_ret (v := .agg #[.int .i64 size, .int .i64 many]) (by simp [results, Try.results5, go_sem, *]) rfl ⟨size, many, rfl, (e2.setCell (p := ⟨w.heap.size, 0, none⟩) (Nat.le_refl _) _).setCell (p := ⟨w.heap.size, 1, none⟩) (Nat.le_refl _) _⟩

end Go.Proofs.Ytjbkahfbaploaaa
