/-
  A region that draws its order and whose calls make memory but change nothing that existed: one walk, in the order of the text, serves every order (Derived/Deep/Quiet.lean's theorem at the class of all worlds that leave the first world's memory alone).
-/
import Derived.Test.YtadoihddmbbjoaaDoorSpan
import Derived.BigQuiet
import Derived.Deep.QuietTactic
namespace Go.Proofs.YtadoihddmbbjoaaDoor
open Go.RowKit

/-- A world behind W in which nothing that W held has changed. -/
structure BelowOf (W : World) where
  w : World
  below : Below W.heap.size W w

instance {W : World} : Inhabited (BelowOf W) := ⟨⟨W, Below.refl _ _⟩⟩

theorem BelowOf.cell {W : World} (x : BelowOf W) {b o : Nat} {v : Value} (h : W.cell? ⟨b, o, none⟩ = some v) : x.w.cell? ⟨b, o, none⟩ = some v := cell_keep x.below h

theorem wp_region_calm {P : Program} {id : Nat} {Q : Exit → Act → World → Prop} {a : Act} {w : World} {l : List Oper} (hm : P.follows .mixedOrders = true) (hB : Region.lexB .any l.toArray = true)
    (h : wpQuiet P l.toArray (fun w' => ∃ x : BelowOf w, w' = x.w) (fun a' => ∀ w', (∃ x : BelowOf w, w' = x.w) → Q .normal a' w') l a) : (Code.region id l.toArray true).wp P Q a w :=
  wp_region_quiet (C := fun w' => ∃ x : BelowOf w, w' = x.w) hm hB ⟨⟨w.drew, (Below.refl _ _).drew⟩, rfl⟩ (by simpa using h)

theorem Calls.calm {P : Program} {f : FuncId} {args : Array Value} {W : World} {x : BelowOf W} {v : Value}
    (h : Calls P f args x.w fun e w' => e = .returned v ∧ Below x.w.heap.size x.w w') : Calls P f args x.w fun e w'' => e = .returned v ∧ ∃ y : BelowOf W, w'' = y.w :=
  h.mono fun _ w' ⟨he, hb⟩ => ⟨he, ⟨w', x.below.trans (hb.mono x.below.size)⟩, rfl⟩

end Go.Proofs.YtadoihddmbbjoaaDoor
