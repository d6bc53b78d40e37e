/-
  Plain facts: the ranges of a set of positions are in order and apart; so they are a list of ranges just where there are at most twelve. Nothing of the program.
-/
import Derived.Test.YtldafphfnkamjaaRgMath
namespace Go.Proofs.Ytldafphfnkamjaa

/-- The end of the last range. -/
def lastE (e : Int) : List Rng → Int
  | [] => e
  | s :: r => lastE s.2 r

theorem okFrom_append (s : Rng) : ∀ (e : Int) (a : List Rng), okFrom e (a ++ [s]) = (okFrom e a && (spanOkB s.1 s.2 && decide (lastE e a < s.1)))
  | e, [] => by
    show (spanOkB s.1 s.2 && (decide (e < s.1) && true)) = (true && (spanOkB s.1 s.2 && decide (e < s.1)))
    rw [Bool.and_true, Bool.true_and]
  | e, t :: r => by
    have := okFrom_append s t.2 r
    show (spanOkB t.1 t.2 && (decide (e < t.1) && okFrom t.2 (r ++ [s]))) = ((spanOkB t.1 t.2 && (decide (e < t.1) && okFrom t.2 r)) && (spanOkB s.1 s.2 && decide (lastE t.2 r < s.1)))
    rw [this]
    cases spanOkB t.1 t.2 <;> cases decide (e < t.1) <;> rfl

theorem lastE_append (s : Rng) : ∀ (e : Int) (a : List Rng), lastE e (a ++ [s]) = s.2
  | _, [] => rfl
  | _, t :: r => lastE_append s t.2 r

theorem endsAt_append (a : List Rng) (s : Rng) (k : Nat) : endsAt (a ++ [s]) k = decide (s.2 = (k : Int)) := by
  unfold endsAt
  simp [List.getD_eq_getElem?_getD]

theorem set_append (a : List Rng) (s t : Rng) : (a ++ [s]).set ((a ++ [s]).length - 1) t = a ++ [t] := by
  simp

theorem getD_append (a : List Rng) (s : Rng) : (a ++ [s]).getD ((a ++ [s]).length - 1) (0, 0) = s := by
  simp [List.getD_eq_getElem?_getD]

theorem okFrom_rg (f : Nat → Bool) : ∀ k : Nat, k ≤ 48 → okFrom (-1) (rg f k) = true ∧ lastE (-1) (rg f k) ≤ (k : Int)
  | 0, _ => ⟨rfl, by simp [rg, lastE]⟩
  | k + 1, hk => by
    obtain ⟨h1, h2⟩ := okFrom_rg f k (by omega)
    simp only [rg]
    by_cases hf : f k = true
    · rw [if_pos hf]
      rcases List.eq_nil_or_concat (rg f k) with e | ⟨a, s, e⟩
      · rw [e] at h1 h2 ⊢
        have hn : ¬ endsAt [] k = true := by simp [endsAt]
        rw [if_neg hn]
        refine ⟨?_, ?_⟩
        · simp only [List.nil_append, okFrom, Bool.and_true, Bool.and_eq_true, decide_eq_true_eq]
          exact ⟨spanOkB_iff.2 ⟨by omega, by omega, by omega⟩, by omega⟩
        · simp [lastE]
      · rw [e, List.concat_eq_append] at h1 h2 ⊢
        rw [okFrom_append] at h1
        rw [lastE_append] at h2
        simp only [Bool.and_eq_true, decide_eq_true_eq] at h1
        obtain ⟨g1, g2, g3⟩ := h1
        obtain ⟨q1, q2, q3⟩ := spanOkB_iff.1 g2
        rw [endsAt_append]
        by_cases hs : s.2 = (k : Int)
        · rw [if_pos (by simp [hs]), set_append, getD_append, okFrom_append, lastE_append]
          refine ⟨?_, by simp⟩
          simp only [Bool.and_eq_true, decide_eq_true_eq]
          exact ⟨g1, spanOkB_iff.2 ⟨by omega, by omega, by omega⟩, g3⟩
        · rw [if_neg (by simp [hs]), okFrom_append, lastE_append, okFrom_append, lastE_append]
          refine ⟨?_, by simp⟩
          simp only [Bool.and_eq_true, decide_eq_true_eq]
          exact ⟨⟨g1, g2, g3⟩, spanOkB_iff.2 ⟨by omega, by omega, by omega⟩, by omega⟩
    · rw [if_neg hf]
      exact ⟨h1, by omega⟩

theorem spansOkB_rg (f : Nat → Bool) : spansOkB (rg f 48) = decide ((rg f 48).length ≤ 12) := by
  unfold spansOkB
  rw [(okFrom_rg f 48 (Nat.le_refl _)).1, Bool.and_true]

end Go.Proofs.Ytldafphfnkamjaa
