/-
  Contracts of DrawSpansMany and DrawSpansOk: a list of ranges; nothing that existed has changed.
-/
import Derived.Test.YtehpmdmfolmaoaaDoorDrawLists
namespace Go.Proofs.YtehpmdmfolmaoaaDoor
open Go.RowKit

def Lm (w : World) (e : Ending) (w' : World) : Prop :=
  ∃ (g cap : Nat) (L : List Rng), e = .returned (.slice (some ⟨g, 0, none⟩) L.length cap) ∧ Spn w' (.slice (some ⟨g, 0, none⟩) L.length cap) L ∧ L.length ≤ 13 ∧ Below w.heap.size w w'

set_option maxHeartbeats 1000000 in
theorem drawSpansMany_any (v : Value) (len : Nat) (w : World) (h : Byt w v len) :
    Calls Tryd.prog 30 #[v] w (Lm w) := by
  have HB := Lib.hid h
  clear h
  go_enter Tryd.func30, Tryd.ntmps30
  go_wp2_with fail
  refine (open_any v len _ HB.out).mono ?_; rintro e w1 ⟨rb, rfl, hrb, hr1, hb1⟩
  have HR1 := Lib.hid hr1
  have hs1 := hb1.size
  clear hr1 HB
  go_wp2_with fail
  refine (l1Lists_any rb 0 _ HR1.out (by omega)).mono ?_; rintro e w2 ⟨g, cap, q, L, rfl, hgrb, HO, hL, hr2, hq, hg2⟩
  have HS := Lib.hid (own_spn HO.out)
  have HE := Lib.hid (hb1.trans (below_grown hg2 hrb hs1))
  have hL13 : L.length ≤ 13 := hL
  clear hr2 hg2 HR1 HO hL
  go_wp2
  go_ret
  exact ⟨g, cap, L, rfl, HS.out, hL13, HE.out⟩

set_option maxHeartbeats 1000000 in
theorem drawSpansOk_any (v : Value) (len : Nat) (w : World) (h : Byt w v len) :
    Calls Tryd.prog 31 #[v] w (Lm w) := by
  have HB := Lib.hid h
  clear h
  go_enter Tryd.func31, Tryd.ntmps31
  go_wp2_with fail
  refine (open_any v len _ HB.out).mono ?_; rintro e w1 ⟨rb, rfl, hrb, hr1, hb1⟩
  have HR1 := Lib.hid hr1
  have hs1 := hb1.size
  clear hr1 HB
  go_wp2_with fail
  refine (l1Lists_any rb 0 _ HR1.out (by omega)).mono ?_; rintro e w2 ⟨g, cap, q, L, rfl, hgrb, HO, hL, hr2, hq, hg2⟩
  have HS := Lib.hid (own_spn HO.out)
  have HE := Lib.hid (hb1.trans (below_grown hg2 hrb hs1))
  have hL13 : L.length ≤ 13 := hL
  clear hr2 hg2 HR1 HO hL
  go_wp2
  go_ret
  exact ⟨g, cap, L, rfl, HS.out, hL13, HE.out⟩

end Go.Proofs.YtehpmdmfolmaoaaDoor
