/-
  DrawTextCut: a text and a number; nothing that existed has changed.
-/
import Derived.Test.YtehpmdmfolmaoaaDrawText
namespace Go.Proofs.Ytehpmdmfolmaoaa
open Go.RowKit

def DtC (w : World) (e : Ending) (w' : World) : Prop :=
  ∃ (l : List UInt8) (a : Int), e = .returned (.tuple #[.string (mkB l), .int .i64 a]) ∧ l.length ≤ 49 ∧ Below w.heap.size w w'

set_option maxHeartbeats 2000000 in
theorem drawTextCut_any (v : Value) (len : Nat) (w : World) (h : Byt w v len) :
    Calls Try.prog 20 #[v] w (DtC w) := by
  have HB := Lib.hid h
  clear h
  go_enter Try.func20, Try.ntmps20
  go_wp2_with fail
  refine (open_any v len _ HB.out).mono ?_; rintro e w1 ⟨rb, rfl, hrb, hr1, hb1⟩
  have HR1 := Lib.hid hr1
  clear hr1
  go_wp2_with fail
  refine (l2Some_any rb 0 _ HR1.out (by omega)).mono ?_; rintro e w2 ⟨l, q2, rfl, hl, hr2, hq2, hg2⟩
  have HR2 := Lib.hid hr2
  have HG2 := Lib.hid hg2
  have hsz : (mkB l).size = l.length := mkB_size l
  clear hr2 hg2 HR1
  go_wp2_with fail
  refine (pick_any rb q2 20 _ HR2.out (by omega) (by omega) (by omega)).mono ?_; rintro e w3 ⟨b, rfl, b0, b1, hr3, hg3⟩
  have HR3 := Lib.hid hr3
  have HG3 := Lib.hid (grown_trans HG2.out hg3)
  clear hr3 hg3 HR2 HG2 b1
  go_wp2_with fail
  refine (numL_any rb (q2 + 1) [0, 1, (l.length : Int) - 1, l.length, (l.length : Int) + 3, 48, 49, -1, b] 9 (fun _ => True) w3 _ _ rfl rfl HR3.out (by omega) (by omega) (by omega) (by simp)).mono ?_; rintro e w4 ⟨a, q4, rfl, -, hr4, hq4, hg4⟩
  have HG4 := Lib.hid (grown_trans HG3.out hg4)
  clear hr4 hg4 HR3 HG3
  have e4 := hb1.trans (below_grown HG4.out (Nat.le_trans hrb (Nat.le_refl _)) hb1.size)
  go_wp2
  go_ret2
  exact ⟨l, a, rfl, hl, e4⟩

end Go.Proofs.Ytehpmdmfolmaoaa
