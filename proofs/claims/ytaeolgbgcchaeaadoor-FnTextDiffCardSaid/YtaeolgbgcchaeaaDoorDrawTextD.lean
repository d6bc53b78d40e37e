/-
  DrawTextDiff: two texts; nothing that existed has changed.
-/
import Derived.Test.YtaeolgbgcchaeaaDoorDrawText
import Derived.Test.YtaeolgbgcchaeaaDoorSpecWrite
namespace Go.Proofs.YtaeolgbgcchaeaaDoor
open Go.RowKit

def DtD (w : World) (e : Ending) (w' : World) : Prop :=
  ∃ a b : List UInt8, e = .returned (.tuple #[.string (mkB a), .string (mkB b)]) ∧ a.length ≤ 1000 ∧ b.length ≤ 1000 ∧ Below w.heap.size w w'

theorem twS_len (l : List UInt8) (at' : Int) (d : List UInt8) (hl : l.length ≤ 49) : (twS l at' d).length ≤ 1000 := by
  unfold twS
  split
  · split
    · rename_i h
      have := wokB_iff.1 h
      rw [wrL_len]; omega
    · omega
  · simp

set_option maxHeartbeats 4000000 in
theorem drawTextDiff_any (v : Value) (len : Nat) (w : World) (h : Byt w v len) :
    Calls Tryd.prog 5 #[v] w (DtD w) := by
  have HB := Lib.hid h
  clear h
  go_enter Tryd.func5, Tryd.ntmps5
  go_wp2_with fail
  refine (open_any v len _ HB.out).mono ?_; rintro e w1 ⟨rb, rfl, hrb, hr1, hb1⟩
  have HR1 := Lib.hid hr1
  clear hr1
  go_wp2_with fail
  refine (l2Some_any rb 0 _ HR1.out (by omega)).mono ?_; rintro e w2 ⟨l, q2, rfl, hl, hr2, hq2, hg2⟩
  have HR2 := Lib.hid hr2
  have HG2 := Lib.hid hg2
  clear hr2 hg2 HR1
  go_wp2_with fail
  refine (pick_any rb q2 3 _ HR2.out (by omega) (by omega) (by omega)).mono ?_; rintro e w3 ⟨c, rfl, c0, -, hr3, hg3⟩
  have HR3 := Lib.hid hr3
  have HG3 := Lib.hid (grown_trans HG2.out hg3)
  clear hr3 hg3 HR2 HG2
  by_cases hc : c = 0
  · subst hc
    go_wp2_with fail
    refine (l2Some_any rb (q2 + 1) _ HR3.out (by omega)).mono ?_; rintro e w4 ⟨m, q4, rfl, hm, hr4, hq4, hg4⟩
    have HG4 := Lib.hid (grown_trans HG3.out hg4)
    clear hr4 hg4 HR3 HG3
    have e4 := hb1.trans (below_grown HG4.out (Nat.le_trans hrb (Nat.le_refl _)) hb1.size)
    go_wp2
    go_ret2
    exact ⟨l, m, rfl, by omega, by omega, e4⟩
  · go_wp2_with fail
    refine (pick_any rb (q2 + 1) 20 _ HR3.out (by omega) (by omega) (by omega)).mono ?_; rintro e w4 ⟨a, rfl, a0, -, hr4, hg4⟩
    have HR4 := Lib.hid hr4
    have HG4 := Lib.hid (grown_trans HG3.out hg4)
    clear hr4 hg4 HR3 HG3
    go_wp2_with fail
    refine (l2Data_any rb (q2 + 1 + 1) _ HR4.out (by omega)).mono ?_; rintro e w5 ⟨d, q5, rfl, hd, hr5, hq5, hg5⟩
    have HG5 := Lib.hid (grown_trans HG4.out hg5)
    clear hr5 hg5 HR4 HG4
    have e5 := hb1.trans (below_grown HG5.out (Nat.le_trans hrb (Nat.le_refl _)) hb1.size)
    go_wp2_with fail
    refine (specTextWrite_any l a d (by omega) (by omega) _).mono ?_; rintro e w6 ⟨rfl, hb6⟩
    have e6 := e5.trans (hb6.mono e5.size)
    go_wp2
    go_ret2
    exact ⟨l, twS l a d, rfl, by omega, twS_len l a d hl, e6⟩

end Go.Proofs.YtaeolgbgcchaeaaDoor
