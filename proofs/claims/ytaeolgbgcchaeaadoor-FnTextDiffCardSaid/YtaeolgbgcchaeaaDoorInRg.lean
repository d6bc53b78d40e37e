/-
  Plain facts: a position is in the ranges of a set if it is in the set.
-/
import Derived.Test.YtaeolgbgcchaeaaDoorSpots
import Derived.Test.YtaeolgbgcchaeaaDoorOkRg
import Derived.Test.YtaeolgbgcchaeaaDoorRunMath
namespace Go.Proofs.YtaeolgbgcchaeaaDoor

theorem inB_append (a : List Rng) (s : Rng) (i : Int) : inB (a ++ [s]) i = (inB a i || (decide (s.1 ≤ i) && decide (i < s.2))) := by
  unfold inB; rw [List.any_append]; simp

/-- A position is in the ranges of a set if it is in the set. -/
theorem inB_rg (f : Nat → Bool) : ∀ k : Nat, k ≤ 48 → (∀ i : Nat, i < k → inB (rg f k) (i : Int) = f i) ∧ (∀ i : Int, (k : Int) ≤ i → inB (rg f k) i = false)
  | 0, _ => ⟨fun i h => by omega, fun i _ => rfl⟩
  | k + 1, hk => by
    obtain ⟨h1, h2⟩ := inB_rg f k (by omega)
    rw [rg_succ]
    by_cases hf : f k = true
    · rw [if_pos hf]
      by_cases he : endsAt (rg f k) k = true
      · rw [if_pos he]
        rcases List.eq_nil_or_concat (rg f k) with e | ⟨a, s, e⟩
        · rw [e] at he; simp [endsAt] at he
        · rw [List.concat_eq_append] at e
          rw [e] at h1 h2 he ⊢
          rw [endsAt_append] at he
          rw [set_append, getD_append]
          simp only [decide_eq_true_eq] at he
          have ho := (okFrom_rg f k (by omega)).1
          rw [e, okFrom_append] at ho
          simp only [Bool.and_eq_true] at ho
          have hs := spanOkB_iff.1 ho.2.1
          constructor
          · intro i hi
            rw [inB_append]
            by_cases hlt : i < k
            · rw [← h1 i hlt, inB_append]
              congr 2
              rw [Bool.eq_iff_iff]; simp only [decide_eq_true_eq]; omega
            · obtain rfl : i = k := by omega
              rw [hf]
              simp; right; omega
          · intro i hi
            have := h2 i (by omega)
            rw [inB_append] at this ⊢
            simp only [Bool.or_eq_false_iff] at this ⊢
            refine ⟨this.1, ?_⟩
            simp; omega
      · rw [if_neg he]
        constructor
        · intro i hi
          rw [inB_append]
          by_cases hlt : i < k
          · rw [h1 i hlt]; simp; omega
          · obtain rfl : i = k := by omega
            rw [hf]; simp; right; omega
        · intro i hi
          rw [inB_append, h2 i (by omega)]
          simp; omega
    · rw [if_neg hf]
      constructor
      · intro i hi
        by_cases hlt : i < k
        · exact h1 i hlt
        · obtain rfl : i = k := by omega
          rw [h2 i (by omega)]
          simpa using hf
      · intro i hi
        exact h2 i (by omega)

end Go.Proofs.YtaeolgbgcchaeaaDoor
