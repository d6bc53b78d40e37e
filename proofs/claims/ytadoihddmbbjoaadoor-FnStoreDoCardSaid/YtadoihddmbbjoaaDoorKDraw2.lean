/-
  Contract of DrawSpanMeet: two pairs of numbers; nothing that existed has changed.
-/
import Derived.Test.YtadoihddmbbjoaaDoorKDrawSpan
namespace Go.Proofs.YtadoihddmbbjoaaDoor
open Go.RowKit

def Ds2 (w : World) (e : Ending) (w' : World) : Prop :=
  ∃ a b c d : Int, e = .returned (.tuple #[.agg #[.int .i64 a, .int .i64 b], .agg #[.int .i64 c, .int .i64 d]]) ∧ Below w.heap.size w w'

theorem Byt.keep {w w1 : World} {v : Value} {len : Nat} (h : Byt w v len) (hb : Below w.heap.size w w1) : Byt w1 v len := by
  obtain ⟨z, a, cap, hv, hl, hm, hc⟩ := h
  refine ⟨z, a, cap, hv, hl, hm, fun hp => ?_⟩
  obtain ⟨b, off, ha, hcc⟩ := hc hp
  exact ⟨b, off, ha, fun i hi => ⟨cell_keep hb (hcc i hi).1, (hcc i hi).2⟩⟩


end Go.Proofs.YtadoihddmbbjoaaDoor
