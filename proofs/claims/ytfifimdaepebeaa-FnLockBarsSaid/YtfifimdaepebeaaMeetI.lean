/-
  Contract of Span.meet (by itself, for seats without SpanMeet).
-/
import Derived.Test.YtfifimdaepebeaaMeetW
namespace Go.Proofs.Ytfifimdaepebeaa
open Go.RowKit

set_option maxHeartbeats 400000 in
theorem meetI_any (a b c d : Int) (w : World) :
    Calls Try.prog 71 #[.agg #[.int .i64 a, .int .i64 b], .agg #[.int .i64 c, .int .i64 d]] w fun e w' =>
      e = .returned (.agg #[.int .i64 (mx a c), .int .i64 (mn b d)]) ∧ Below w.heap.size w w' := by
  have go1 : ∀ x y : Int, mx a c = x → mn b d = y → ((a < c ∧ x = c) ∨ (¬ a < c ∧ x = a)) → ((b ≤ d ∧ y = b) ∨ (¬ b ≤ d ∧ y = d)) →
      Calls Try.prog 71 #[.agg #[.int .i64 a, .int .i64 b], .agg #[.int .i64 c, .int .i64 d]] w fun e w' =>
        e = .returned (.agg #[.int .i64 x, .int .i64 y]) ∧ Below w.heap.size w w' := by
    intro x y _ _ hx hy
    rcases hx with ⟨h1, rfl⟩ | ⟨h1, rfl⟩ <;> rcases hy with ⟨h2, rfl⟩ | ⟨h2, rfl⟩
    all_goals
      go_enter Try.func71, Try.ntmps71
      go_wp2
      exact bodyPost_ret (by simp [results, Try.results71, go_sem]) rfl ⟨rfl, by (repeat (first | exact Below.refl _ _ | refine Below.setCell ?_ (by simp <;> omega) _ | refine Below.alloc ?_ (by simp <;> omega) _ | refine Below.drew ?_))⟩
  refine go1 _ _ rfl rfl ?_ ?_
  · by_cases h : a < c
    · exact .inl ⟨h, by unfold mx; rw [if_neg (by omega)]⟩
    · by_cases h2 : c < a
      · exact .inr ⟨h, by unfold mx; rw [if_pos h2]⟩
      · exact .inr ⟨h, by unfold mx; rw [if_neg h2]; omega⟩
  · by_cases h : b ≤ d
    · by_cases h2 : b < d
      · exact .inl ⟨h, by unfold mn; rw [if_pos h2]⟩
      · exact .inl ⟨h, by unfold mn; rw [if_neg h2]; omega⟩
    · exact .inr ⟨h, by unfold mn; rw [if_neg (by omega)]⟩

end Go.Proofs.Ytfifimdaepebeaa
