/-
  Plain facts on lists of ranges; nothing of the program.
-/
import Derived.Test.YtldafphfnkamjaaSpan
namespace Go.Proofs.Ytldafphfnkamjaa

abbrev Rng := Int × Int

/-- From an end e on: each range is one, and each starts behind the end before it. -/
def okFrom (e : Int) : List Rng → Bool
  | [] => true
  | s :: r => spanOkB s.1 s.2 && (decide (e < s.1) && okFrom s.2 r)

/-- A list of ranges is one. -/
def spansOkB (L : List Rng) : Bool := decide (L.length ≤ 12) && okFrom (-1) L

/-- The end behind the first k ranges. -/
def endAt (L : List Rng) : Nat → Int
  | 0 => -1
  | k + 1 => (L.getD k (0, 0)).2

theorem drop_cons (L : List Rng) (k : Nat) (h : k < L.length) : L.drop k = L.getD k (0, 0) :: L.drop (k + 1) := by
  rw [List.drop_eq_getElem_cons h, List.getD_eq_getElem?_getD, List.getElem?_eq_getElem h, Option.getD_some]

theorem okFrom_step (L : List Rng) (k : Nat) (h : k < L.length) :
    okFrom (endAt L k) (L.drop k) = (spanOkB (L.getD k (0, 0)).1 (L.getD k (0, 0)).2 && (decide (endAt L k < (L.getD k (0, 0)).1) && okFrom (endAt L (k + 1)) (L.drop (k + 1)))) := by
  rw [drop_cons L k h]; rfl

theorem okFrom_end (L : List Rng) (k : Nat) (h : L.length ≤ k) : okFrom (endAt L k) (L.drop k) = true := by
  rw [List.drop_of_length_le h]; rfl

end Go.Proofs.Ytldafphfnkamjaa
