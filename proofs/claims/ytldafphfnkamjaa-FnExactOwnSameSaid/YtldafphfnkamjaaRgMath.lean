/-
  Plain facts: the ranges of a set of positions, built position by position; a list of ranges as cells. Nothing of the program.
-/
import Derived.Test.YtldafphfnkamjaaBitsMath
namespace Go.Proofs.Ytldafphfnkamjaa

/-- The last range's end is k. -/
def endsAt (a : List Rng) (k : Nat) : Bool := decide (0 < a.length) && decide ((a.getD (a.length - 1) (0, 0)).2 = (k : Int))

/-- The ranges of the first k positions. -/
def rg (f : Nat → Bool) : Nat → List Rng
  | 0 => []
  | k + 1 => if f k = true then
      (if endsAt (rg f k) k = true then (rg f k).set ((rg f k).length - 1) (((rg f k).getD ((rg f k).length - 1) (0, 0)).1, (k : Int) + 1) else rg f k ++ [((k : Int), (k : Int) + 1)])
      else rg f k

def flat : List Rng → List Value
  | [] => []
  | s :: r => .int .i64 s.1 :: .int .i64 s.2 :: flat r

theorem flat_length : ∀ a : List Rng, (flat a).length = a.length * 2
  | [] => rfl
  | s :: r => by simp [flat, flat_length r]; omega
theorem flat_append : ∀ a b : List Rng, flat (a ++ b) = flat a ++ flat b
  | [], b => rfl
  | s :: r, b => by simp [flat, flat_append r b]
theorem flat_get0 : ∀ (a : List Rng) (i : Nat), i < a.length → (flat a)[i * 2]? = some (.int .i64 (a.getD i (0, 0)).1)
  | s :: r, 0, _ => rfl
  | s :: r, i + 1, h => by
    have := flat_get0 r i (by simpa using h)
    rw [show (i + 1) * 2 = i * 2 + 1 + 1 by omega]
    simpa [flat] using this
theorem flat_get1 : ∀ (a : List Rng) (i : Nat), i < a.length → (flat a)[i * 2 + 1]? = some (.int .i64 (a.getD i (0, 0)).2)
  | s :: r, 0, _ => rfl
  | s :: r, i + 1, h => by
    have := flat_get1 r i (by simpa using h)
    rw [show (i + 1) * 2 + 1 = i * 2 + 1 + 1 + 1 by omega]
    simpa [flat] using this
theorem flat_set : ∀ (a : List Rng) (i : Nat) (h : Int), i < a.length → (flat a).set (i * 2 + 1) (.int .i64 h) = flat (a.set i ((a.getD i (0, 0)).1, h))
  | s :: r, 0, h, _ => rfl
  | s :: r, i + 1, h, hi => by
    have := flat_set r i h (by simpa using hi)
    rw [show (i + 1) * 2 + 1 = i * 2 + 1 + 1 + 1 by omega]
    simp only [flat, List.set_cons_succ, List.getD_cons_succ]
    rw [this]

theorem rg_len (f : Nat → Bool) : ∀ k, (rg f k).length ≤ k
  | 0 => Nat.le_refl _
  | k + 1 => by
    have := rg_len f k
    simp only [rg]
    split
    · split
      · simp; omega
      · simp; omega
    · omega

end Go.Proofs.Ytldafphfnkamjaa
