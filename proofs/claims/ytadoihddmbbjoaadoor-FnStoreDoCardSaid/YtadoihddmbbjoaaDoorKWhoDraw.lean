/-
  A client drawn: spec.l4WhoDraw.
-/
import Derived.Test.YtadoihddmbbjoaaDoorKDrawSpan
import Derived.Test.YtadoihddmbbjoaaDoorKDrawText
namespace Go.Proofs.YtadoihddmbbjoaaDoor
open Go.RowKit

set_option maxHeartbeats 1000000 in
theorem l4WhoDraw_any (rb p : Nat) (w : World) (h : Rd w rb p) (hp : p ≤ 800000000) :
    Calls Tryd.prog 69 #[.pointer (some ⟨rb, 0, none⟩)] w (Nd (fun _ => True) w rb p 2) := by
  have hrb := h.lt
  have HR0 := Lib.hid h
  clear h
  go_enter Tryd.func69, Tryd.ntmps69
  go_wp2_with fail
  refine (pick_any rb p 20 _ HR0.out (by omega) (by omega) (by omega)).mono ?_; rintro e w2 ⟨c, rfl, c0, -, hr2, hg2⟩
  have HR2 := Lib.hid hr2
  have HG2 := Lib.hid hg2
  clear hr2 hg2 HR0
  by_cases e0 : c = 0
  · subst e0
    go_wp2_with fail
    refine (numLA_any rb (p + 1) [-1, 3, 9223372036854775807] 3 (fun _ => True) w2 w2.heap.size _ _ rfl rfl rfl HR2.out (by omega) (by omega) (by omega) (by simp)).mono ?_; rintro e w3 ⟨i, q1, rfl, -, hr3, hq3, hg3⟩
    have HR3 := Lib.hid hr3
    have HG3 := Lib.hid (grown_trans HG2.out hg3)
    clear hr3 hg3
    go_wp2
    go_ret
    exact ⟨i, q1, rfl, trivial, HR3.out, by omega, HG3.out⟩
  · have d0 : (c == 0) = false := by simpa using e0
    go_wp2_with fail
    refine (pick_any rb (p + 1) 3 _ HR2.out (by omega) (by omega) (by omega)).mono ?_; rintro e w3 ⟨c3, rfl, -, -, hr3, hg3⟩
    have HR3 := Lib.hid hr3
    have HG3 := Lib.hid (grown_trans HG2.out hg3)
    clear hr3 hg3
    go_wp2
    go_ret
    exact ⟨c3, p + 1 + 1, rfl, trivial, HR3.out, by omega, HG3.out⟩

end Go.Proofs.YtadoihddmbbjoaaDoor
