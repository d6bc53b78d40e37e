/-
  Contract of laws.wpIn: whether a place is in a list of ranges. Plain facts: what a set of positions and its ranges have in common.
-/
import Derived.Test.YteglfdcoeogilaaDoorSpots
import Derived.Test.YteglfdcoeogilaaDoorOkRg
import Derived.Test.YteglfdcoeogilaaDoorRunMath
import Derived.Test.YteglfdcoeogilaaDoorSpecAdd
import Derived.Test.YteglfdcoeogilaaDoorHave
namespace Go.Proofs.YteglfdcoeogilaaDoor
open Go.RowKit

theorem inB_append (a : List Rng) (s : Rng) (i : Int) : inB (a ++ [s]) i = (inB a i || (decide (s.1 ≤ i) && decide (i < s.2))) := by
  unfold inB; rw [List.any_append]; simp


/-- A position is in the ranges of a set if it is in the set. -/
theorem inB_rg (f : Nat → Bool) : ∀ k : Nat, k ≤ 48 → (∀ i : Nat, i < k → inB (rg f k) (i : Int) = f i) ∧ (∀ i : Int, (k : Int) ≤ i → inB (rg f k) i = false)
  | 0, _ => ⟨fun i h => by omega, fun i _ => rfl⟩
  | k + 1, hk => by
    obtain ⟨h1, h2⟩ := inB_rg f k (by omega)
    rw [rg_succ]
    by_cases hf : f k = true
    · rw [if_pos hf]
      by_cases he : endsAt (rg f k) k = true
      · rw [if_pos he]
        rcases List.eq_nil_or_concat (rg f k) with e | ⟨a, s, e⟩
        · rw [e] at he; simp [endsAt] at he
        · rw [List.concat_eq_append] at e
          rw [e] at h1 h2 he ⊢
          rw [endsAt_append] at he
          rw [set_append, getD_append]
          simp only [decide_eq_true_eq] at he
          have ho := (okFrom_rg f k (by omega)).1
          rw [e, okFrom_append] at ho
          simp only [Bool.and_eq_true] at ho
          have hs := spanOkB_iff.1 ho.2.1
          constructor
          · intro i hi
            rw [inB_append]
            by_cases hlt : i < k
            · rw [← h1 i hlt, inB_append]
              congr 2
              rw [Bool.eq_iff_iff]; simp only [decide_eq_true_eq]; omega
            · obtain rfl : i = k := by omega
              rw [hf]
              simp; right; omega
          · intro i hi
            have := h2 i (by omega)
            rw [inB_append] at this ⊢
            simp only [Bool.or_eq_false_iff] at this ⊢
            refine ⟨this.1, ?_⟩
            simp; omega
      · rw [if_neg he]
        constructor
        · intro i hi
          rw [inB_append]
          by_cases hlt : i < k
          · rw [h1 i hlt]; simp; omega
          · obtain rfl : i = k := by omega
            rw [hf]; simp; right; omega
        · intro i hi
          rw [inB_append, h2 i (by omega)]
          simp; omega
    · rw [if_neg hf]
      constructor
      · intro i hi
        by_cases hlt : i < k
        · exact h1 i hlt
        · obtain rfl : i = k := by omega
          rw [h2 i (by omega)]
          simpa using hf
      · intro i hi
        exact h2 i (by omega)

theorem setL_ne {f : Nat → Bool} {L : List Rng} {lo hi : Int} (h : setL f L lo hi ≠ []) : spansOkB L = true ∧ spanOkB lo hi = true ∧ spansOkB (rg f 48) = true ∧ setL f L lo hi = rg f 48 := by
  unfold setL at h ⊢
  by_cases hc : (spansOkB L && (spanOkB lo hi && spansOkB (rg f 48))) = true
  · rw [if_pos hc]
    simp only [Bool.and_eq_true] at hc
    exact ⟨hc.1, hc.2.1, hc.2.2, rfl⟩
  · rw [if_neg hc] at h
    exact absurd rfl h
theorem setL_ok (f : Nat → Bool) (L : List Rng) (lo hi : Int) : spansOkB (setL f L lo hi) = true := by
  unfold setL
  by_cases hc : (spansOkB L && (spanOkB lo hi && spansOkB (rg f 48))) = true
  · rw [if_pos hc]
    simp only [Bool.and_eq_true] at hc
    exact hc.2.2
  · rw [if_neg hc]; rfl
theorem setL_out {f : Nat → Bool} {L : List Rng} {lo hi : Int} (h : ¬ (spansOkB L = true ∧ spanOkB lo hi = true)) : setL f L lo hi = [] := by
  unfold setL
  rw [if_neg]
  intro hc
  simp only [Bool.and_eq_true] at hc
  exact h ⟨hc.1, hc.2.1⟩
theorem setL_len12 (f : Nat → Bool) (L : List Rng) (lo hi : Int) : (setL f L lo hi).length ≤ 12 := by
  have := setL_ok f L lo hi
  simp only [spansOkB, Bool.and_eq_true, decide_eq_true_eq] at this
  exact this.1
theorem hasB_all (L : List Rng) : ∀ (n : Nat) (lo : Int), (∀ i : Int, lo ≤ i → i < lo + n → inB L i = true) → hasB L lo n = true
  | 0, _, _ => rfl
  | n + 1, lo, h => by
    unfold hasB
    rw [h lo (by omega) (by omega), hasB_all L n (lo + 1) fun i a b => h i (by omega) (by omega)]
    rfl
/-- What is put in once more turns nothing; and is there. -/
theorem add_facts {L : List Rng} {lo hi : Int} {G : List Rng} (hG : setL (addF L lo hi) L lo hi = G) (hne : G ≠ []) :
    (∀ i : Nat, i < 48 → inB G (i : Int) = addF L lo hi i) ∧ setL (addF G lo hi) G lo hi = G ∧ haveB G (lo, hi) = true ∧ spansOkB G = true := by
  obtain ⟨h1, h2, h3, h4⟩ := setL_ne (hG ▸ hne : setL (addF L lo hi) L lo hi ≠ [])
  rw [hG] at h4
  have hin : ∀ i : Nat, i < 48 → inB G (i : Int) = addF L lo hi i := fun i hi => by rw [h4]; exact (inB_rg _ 48 (Nat.le_refl _)).1 i hi
  have h5 : spansOkB G = true := by rw [h4]; exact h3
  have hr : rg (addF G lo hi) 48 = G := by
    rw [rg_congr (f := addF G lo hi) (g := addF L lo hi) fun i hi' => ?_]
    · exact h4.symm
    · show (inB G (i : Int) || _) = _
      rw [hin i hi']
      unfold addF
      cases inB L (i : Int) <;> simp
  refine ⟨hin, ?_, ?_, h5⟩
  · unfold setL
    rw [hr, h5, h2]
    rfl
  · have hb := spanOkB_iff.1 h2
    unfold haveB
    show (spansOkB G && (spanOkB lo hi && hasB G lo (hi - lo).toNat)) = true
    rw [h5, h2, hasB_all G _ lo fun i a b => ?_]
    · rfl
    · obtain ⟨n, rfl⟩ : ∃ n : Nat, i = n := ⟨i.toNat, by omega⟩
      rw [hin n (by omega)]
      exact addF_in (by omega)


end Go.Proofs.YteglfdcoeogilaaDoor
