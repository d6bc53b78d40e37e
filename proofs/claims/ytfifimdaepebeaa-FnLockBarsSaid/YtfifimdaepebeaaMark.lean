/-
  Contracts of markSpanS and heldSpanS: numbers written into a slice of ranges one by one, and found there again.
-/
import Derived.Test.YtfifimdaepebeaaToSpan
namespace Go.Proofs.Ytfifimdaepebeaa
open Go.RowKit

theorem grown_two {a w : World} {g o o' : Nat} {u v : Value} (h : a.grownBy w (some g)) : a.grownBy ((w.setCell ⟨g, o, none⟩ u).setCell ⟨g, o', none⟩ v) (some g) :=
  ⟨h.os, h.tape, h.output, by simpa [World.setCell] using h.size, fun i hi hne => by
    have hn : i ≠ g := fun e => hne (by rw [e])
    exact (Below.heap_setCell _ _ v i hn).trans ((Below.heap_setCell w _ u i hn).trans (h.block i hi hne))⟩





end Go.Proofs.Ytfifimdaepebeaa
