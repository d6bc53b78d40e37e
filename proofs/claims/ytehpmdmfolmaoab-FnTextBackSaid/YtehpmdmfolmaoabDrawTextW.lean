/-
  DrawTextWrite: a text, a place, data; nothing that existed has changed.
-/
import Derived.Test.YtehpmdmfolmaoabDrawText
namespace Go.Proofs.Ytehpmdmfolmaoab
open Go.RowKit

def DtW (w : World) (e : Ending) (w' : World) : Prop :=
  ∃ (l : List UInt8) (a : Int) (d : List UInt8), e = .returned (.tuple #[.string (mkB l), .int .i64 a, .string (mkB d)]) ∧ l.length ≤ 49 ∧ d.length ≤ 49 ∧ (-1 ≤ a ∧ a ≤ 9223372036854775807) ∧ Below w.heap.size w w'

set_option maxHeartbeats 2000000 in
theorem drawTextWrite_any (v : Value) (len : Nat) (w : World) (h : Byt w v len) :
    Calls Try.prog 17 #[v] w (DtW w) := by
  have HB := Lib.hid h
  clear h
  go_enter Try.func17, Try.ntmps17
  go_wp2_with fail
  refine (open_any v len _ HB.out).mono ?_; rintro e w1 ⟨rb, rfl, hrb, hr1, hb1⟩
  have HR1 := Lib.hid hr1
  clear hr1
  go_wp2_with fail
  refine (l2Some_any rb 0 _ HR1.out (by omega)).mono ?_; rintro e w2 ⟨l, q2, rfl, hl, hr2, hq2, hg2⟩
  have HR2 := Lib.hid hr2
  have HG2 := Lib.hid hg2
  clear hr2 hg2 HR1
  go_wp2_with fail
  refine (l2At_any rb q2 l _ HR2.out (by omega) (by omega)).mono ?_; rintro e w3 ⟨a, q3, rfl, ha, hr3, hq3, hg3⟩
  have HR3 := Lib.hid hr3
  have HG3 := Lib.hid (grown_trans HG2.out hg3)
  have HA := Lib.hid ha
  clear hr3 hg3 HR2 HG2 ha
  go_wp2_with fail
  refine (l2Data_any rb q3 _ HR3.out (by omega)).mono ?_; rintro e w4 ⟨d, q4, rfl, hd, hr4, hq4, hg4⟩
  have HG4 := Lib.hid (grown_trans HG3.out hg4)
  clear hr4 hg4 HR3 HG3
  have e4 := hb1.trans (below_grown HG4.out (Nat.le_trans hrb (Nat.le_refl _)) hb1.size)
  go_wp2
  go_ret3
  exact ⟨l, a, d, rfl, hl, hd, HA.out, e4⟩

end Go.Proofs.Ytehpmdmfolmaoab
