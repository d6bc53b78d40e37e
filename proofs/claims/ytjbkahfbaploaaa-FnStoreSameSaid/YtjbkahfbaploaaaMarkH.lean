/-
  Contracts of markIntS, heldIntS, eqIntS.
-/
import Derived.Test.YtjbkahfbaploaaaRow1
import Derived.Test.YtjbkahfbaploaaaCalm
namespace Go.Proofs.Ytjbkahfbaploaaa
open Go.RowKit

theorem grown_one {a w : World} {g o : Nat} {u : Value} (h : a.grownBy w (some g)) : a.grownBy (w.setCell ⟨g, o, none⟩ u) (some g) :=
  ⟨h.os, h.tape, h.output, by simpa [World.setCell] using h.size, fun i hi hne => by
    have hn : i ≠ g := fun e => hne (by rw [e])
    exact (Below.heap_setCell w _ u i hn).trans (h.block i hi hne)⟩

abbrev mkI (k : Int) : Nat → Value := fun i => .int .i64 (k + i)






end Go.Proofs.Ytjbkahfbaploaaa
