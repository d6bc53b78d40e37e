/-
  A new row of ranges reads as its list.
-/
import Derived.Test.YtaeolgbgcchaeaaDoorRow2
import Derived.Test.YtaeolgbgcchaeaaDoorRgMath
namespace Go.Proofs.YtaeolgbgcchaeaaDoor
open Go.RowKit

theorem own_spn {w' : World} {B : Nat} {v : Value} {L : List Rng} (ho : w'.ownsRow B 33 2 v L.length (flat L)) : Spn w' v L := by
  rcases id ho.2 with ⟨rfl, h0⟩ | ⟨g, cap, cur, rfl, hg, hgb, c1, c2, _⟩
  · have hl : L.length = 0 := h0
    exact ⟨none, 0, by rw [hl], by omega, Nat.zero_le _, fun hn => absurd (List.eq_nil_of_length_eq_zero hl) hn⟩
  · exact ⟨_, cap, rfl, c1, c2, fun _ => ⟨g, 0, rfl, fun i hi' => by
      rw [Nat.zero_add]
      exact ⟨by rw [ho.cellAt _ (by omega)]; exact flat_get0 _ _ hi', by rw [ho.cellAt _ (by omega)]; exact flat_get1 _ _ hi'⟩⟩⟩

end Go.Proofs.YtaeolgbgcchaeaaDoor
