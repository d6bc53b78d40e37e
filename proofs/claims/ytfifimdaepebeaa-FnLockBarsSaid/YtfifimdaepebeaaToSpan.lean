/-
  Contracts of toSpanS, szSpanS, eqSpanS: the conversion makes a new slice of the same ranges; the size; whether two slices read the same.
-/
import Derived.Test.YtfifimdaepebeaaRow2
import Derived.Test.YtfifimdaepebeaaMeetS
import Derived.Laws.MakeOwn
namespace Go.Proofs.Ytfifimdaepebeaa
open Go.RowKit

/-- What toSpanS leaves: a new row that reads as L; all that existed is as it was. -/
def ToSp (w : World) (L : List Rng) (e : Ending) (w' : World) : Prop :=
  ∃ nb, e = .returned (.slice (some ⟨nb, 0, none⟩) L.length L.length) ∧ w.heap.size ≤ nb ∧ Row2 w' nb L.length (fun i => L.getD i (0, 0)) ∧ Below w.heap.size w w'



def eqB (A B : List Rng) : Bool := decide (A = B)

theorem eqB_step (A B : List Rng) (k : Nat) (ha : k < A.length) (hb : k < B.length) :
    eqB (A.drop k) (B.drop k) = (spEq (A.getD k (0, 0)).1 (A.getD k (0, 0)).2 (B.getD k (0, 0)).1 (B.getD k (0, 0)).2 && eqB (A.drop (k + 1)) (B.drop (k + 1))) := by
  rw [drop_cons A k ha, drop_cons B k hb]
  unfold eqB spEq
  rw [Bool.eq_iff_iff]
  simp [List.cons.injEq, Prod.ext_iff]


end Go.Proofs.Ytfifimdaepebeaa
