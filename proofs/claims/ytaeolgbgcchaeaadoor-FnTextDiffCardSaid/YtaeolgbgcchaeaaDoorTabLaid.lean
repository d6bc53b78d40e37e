/-
  The table behind math/bits.TrailingZeros64: its cells out of the row's condition; a world that meets the condition.
-/
import Derived.Test.YtaeolgbgcchaeaaDoorRows
import Derived.Test.YtaeolgbgcchaeaaDoorTz
import Derived.ProofKit
import Derived.OpenShut
import Derived.Deep.DeepHandedRow
import Derived.Lib.LaidTab
namespace Go.Proofs.YtaeolgbgcchaeaaDoor
open Go.ChangeShapes Go.WideShapes Go.ChangeAt Go.RowKit

theorem gTab : Tryd.prog.globalNamed "math/bits.deBruijn64tab" = some 0 := by kernel_rfl
theorem gTabType : (Tryd.prog.globals[0]?).map (·.type) = some 80 := by kernel_rfl
theorem cellsTab : Tryd.prog.cellsOf 80 = 64 := by kernel_rfl
theorem cellsU8 : Tryd.prog.cellsOf 5 = 1 := by kernel_rfl

def tabInts : List Int := Lib.deBruijn64tab.map fun (n : Nat) => (n : Int)

theorem tab_of_laid {W : World} (h : laidMetH Tryd.prog [("math/bits.deBruijn64tab", Rows.laid_math_bits_deBruijn64tab)] W) : TabAt W := by
  have hI : Lib.TabIs Tryd.prog W "math/bits.deBruijn64tab" .u8 tabInts :=
    Lib.tabIs_of_head (rest := []) gTab gTabType Tryd.underlying80 Tryd.underlying5 cellsU8 cellsTab h
  intro j hj
  have := hI.cell gTab j (by simpa [tabInts] using hj)
  rw [this]
  simp [tabInts, List.getD_eq_getElem?_getD, List.getElem?_eq_getElem hj]

/-- A world for the witness: the settled one, the table holding what its initialiser lays. -/
noncomputable def laidWorld (os : Os) : World :=
  { World.holding Tryd.prog os ⟨#[], #[], []⟩ with heap := (World.holding Tryd.prog os ⟨#[], #[], []⟩).heap.modify 0 fun
      | .cells _ t frozen => .cells (tabInts.map fun z => Value.int .u8 z).toArray t frozen
      | o => o }

def witArgs : Array Value := #[.slice none 0 0, .agg #[.int .i64 0, .int .i64 0]]
def witData {H : Type} : List (DataW H) := [.nil, .agg [.lit (.int .i64 0), .lit (.int .i64 0)]]

end Go.Proofs.YtaeolgbgcchaeaaDoor
