/-
  Contracts of the model's bit lists: l1Places (one truth a position).
-/
import Derived.Test.YtaeolgbgcchaeaaDoorSpots
namespace Go.Proofs.YtaeolgbgcchaeaaDoor
open Go.RowKit

/-- The first k positions' truths. -/
def tru (f : Nat → Bool) (k : Nat) : List Value := (List.range k).map fun i => .bool (f i)
theorem tru_succ (f : Nat → Bool) (k : Nat) : tru f (k + 1) = tru f k ++ [.bool (f k)] := by unfold tru; rw [List.range_succ]; simp

/-- A row of n truths at the head of block b, that may be written. -/
def RowB (w : World) (b n : Nat) (f : Nat → Bool) : Prop := ∀ i, i < n → w.cell? ⟨b, i, none⟩ = some (.bool (f i)) ∧ w.frozen? ⟨b, i, none⟩ = false

theorem infoBool : (Tryd.prog.info? 4).map (fun i => (i.zero, i.size, i.bytes)) = some (some (.bool false), 1, 1) := by kernel_rfl

def Plc (w : World) (f : Nat → Bool) (e : Ending) (w' : World) : Prop :=
  ∃ nb cap, e = .returned (.slice (some ⟨nb, 0, none⟩) 48 cap) ∧ w.heap.size ≤ nb ∧ RowB w' nb 48 f ∧ Below w.heap.size w w'


end Go.Proofs.YtaeolgbgcchaeaaDoor
