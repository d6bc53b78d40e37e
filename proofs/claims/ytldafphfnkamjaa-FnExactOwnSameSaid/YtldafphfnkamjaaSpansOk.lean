/-
  Contracts of SpansOk of both sides at any list of ranges that can be read.
-/
import Derived.Test.YtldafphfnkamjaaSpansMath
import Derived.Test.YtldafphfnkamjaaCalm
import Derived.Deep.DeepCutAuto
import Derived.Deep.LoopGhost
import Derived.Lib.Hide
import Derived.IntWalk
namespace Go.Proofs.Ytldafphfnkamjaa
open Go.RowKit

/-- A slice value that reads as the list L of ranges: its length is L's, and where L is not empty its cells are L's numbers. -/
def Spn (w : World) (v : Value) (L : List Rng) : Prop :=
  ∃ a cap, v = .slice a L.length cap ∧ L.length ≤ cap ∧ cap ≤ maxLen ∧
    (L ≠ [] → ∃ b off, a = some ⟨b, off, none⟩ ∧ ∀ i, i < L.length → w.cell? ⟨b, off + i * 2, none⟩ = some (.int .i64 (L.getD i (0, 0)).1) ∧ w.cell? ⟨b, off + i * 2 + 1, none⟩ = some (.int .i64 (L.getD i (0, 0)).2))

theorem Spn.keep {w w1 : World} {v : Value} {L : List Rng} (h : Spn w v L) (hb : Below w.heap.size w w1) : Spn w1 v L := by
  obtain ⟨a, cap, hv, hl, hm, hc⟩ := h
  refine ⟨a, cap, hv, hl, hm, fun hn => ?_⟩
  obtain ⟨b, off, ha, hcc⟩ := hc hn
  exact ⟨b, off, ha, fun i hi => ⟨cell_keep hb (hcc i hi).1, cell_keep hb (hcc i hi).2⟩⟩



end Go.Proofs.Ytldafphfnkamjaa
