/-
  laws.FnExactTextDiff returns true at every two texts: the walk of the law. Condition: the table behind math/bits.TrailingZeros64.
-/
import Derived.Test.YtaeolgbgcchaeaaDoorRww
import Derived.Test.YtaeolgbgcchaeaaDoorEq
import Derived.Test.YtaeolgbgcchaeaaDoorImplDiff
namespace Go.Proofs.YtaeolgbgcchaeaaDoor.exTextDiff
open Go.RowKit

theorem eqB_refl (L : List Rng) : eqB L L = true := by unfold eqB; simp
theorem dfL_len (a b : List UInt8) : (dfL a b).length ≤ 48 := by
  unfold dfL
  split
  · rename_i h
    have h1 := tokB_len h.1
    have h2 := tokB_len h.2
    have := rg_len (dif a b) (dfM a b)
    have hm : dfM a b ≤ 48 := by unfold dfM; omega
    omega
  · simp

set_option maxHeartbeats 8000000 in
theorem walk (s t : ByteArray) (w : World) (hs : s.size ≤ 9223372036854775807) (ht : t.size ≤ 9223372036854775807) (hT : TabAt w) (hg0 : 0 < w.heap.size) :
    Calls Tryd.prog 4 #[.string s, .string t] w fun e w' => e = .returned (.bool true) ∧ Below w.heap.size w w' := by
  have HT0 := Lib.hid hT
  clear hT
  by_cases c1 : s.size ≤ 1048576
  · by_cases c2 : t.size ≤ 1048576
    · have HS := Lib.hid (fun W => specTextDiff_any s t hs ht W)
      have HI := Lib.hid (fun W h1 h2 => implTextDiff_any s t hs ht W h1 h2)
      have HG := dfL_len s.data.toList t.data.toList
      have heG := eqB_refl (dfL s.data.toList t.data.toList)
      generalize dfL s.data.toList t.data.toList = G at *
      go_enter Tryd.func4, Tryd.ntmps4
      go_wp2_with fail
      refine (HS.out _).mono ?_; rintro e w1 ⟨g, cap, rfl, hg, ho, hb⟩
      have V1 := Lib.hid (Rww.of_own ho.out)
      have E1 := Lib.hid hb
      have s1 := hb.size
      clear ho hb hg
      go_wp2_with fail
      refine (HI.out _ (HT0.keep E1.out) (Nat.lt_of_lt_of_le hg0 E1.out.size)).mono ?_; rintro e w2 ⟨vg, rfl, ho, hb⟩
      have G2 := Lib.hid (Rww.of_own ho.out)
      have V2 := Lib.hid (V1.out.keep hb)
      have E2 := Lib.hid (E1.out.trans (hb.mono E1.out.size))
      have s2 := hb.size
      clear ho hb V1 E1
      go_wp2_with fail
      refine (eqSpanS_any _ _ G G _ G2.out.spn V2.out.spn).mono ?_; rintro e w3 ⟨rfl, hb⟩
      have G3 := Lib.hid (G2.out.keep hb)
      have V3 := Lib.hid (V2.out.keep hb)
      have E3 := Lib.hid (E2.out.trans (hb.mono E2.out.size))
      have s3 := hb.size
      clear hb V2 G2 E2
      go_wp2_with fail
      refine (mark_rww G3.out 1 (by omega) (by omega) (by omega)).mono ?_; rintro e w4 ⟨rfl, hr, ap⟩
      have G4 := Lib.hid hr
      have V4 := Lib.hid (V3.out.apart ap (.inl (by omega)))
      have E4 := Lib.hid (E3.out.trans ((ap.below (by omega)).mono s1))
      have s4 := (ap.below (by omega)).size
      clear hr ap V3 G3 E3
      go_wp2_with fail
      refine (held_rww 1 G4.out (by omega) (by omega) (by omega)).mono ?_; rintro e w5 ⟨rfl, rfl⟩
      go_wp2_with fail
      refine (HI.out _ (HT0.keep E4.out) (Nat.lt_of_lt_of_le hg0 E4.out.size)).mono ?_; rintro e w6 ⟨vh, rfl, ho, hb⟩
      have H6 := Lib.hid (Rww.of_own ho.out)
      have G6 := Lib.hid (G4.out.keep hb)
      have V6 := Lib.hid (V4.out.keep hb)
      have E6 := Lib.hid (E4.out.trans (hb.mono E4.out.size))
      clear ho hb V4 G4 E4
      go_wp2_with fail
      refine (eqSpanS_any _ _ G G _ H6.out.spn V6.out.spn).mono ?_; rintro e w7 ⟨rfl, hb⟩
      have G7 := Lib.hid (G6.out.keep hb)
      have E7 := Lib.hid (E6.out.trans (hb.mono E6.out.size))
      clear hb V6 G6 E6 H6
      go_wp2_with fail
      refine (held_rww 1 G7.out (by omega) (by omega) (by omega)).mono ?_; rintro e w8 ⟨rfl, rfl⟩
      go_wp2
      go_ret
      exact ⟨rfl, E7.out⟩
    · go_enter Tryd.func4, Tryd.ntmps4
      go_wp2
      go_ret
      exact ⟨rfl, Below.refl _ _⟩
  · go_enter Tryd.func4, Tryd.ntmps4
    go_wp2
    go_ret
    exact ⟨rfl, Below.refl _ _⟩

end Go.Proofs.YtaeolgbgcchaeaaDoor.exTextDiff
