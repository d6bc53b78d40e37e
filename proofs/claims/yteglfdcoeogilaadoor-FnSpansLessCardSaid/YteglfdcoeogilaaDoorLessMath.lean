/-
  Plain facts: what is cut out of a list and put in again, piece by piece.
-/
import Derived.Test.YteglfdcoeogilaaDoorPartsMath
import Derived.Test.YteglfdcoeogilaaDoorCutMath
namespace Go.Proofs.YteglfdcoeogilaaDoor

/-- The places of a list from its k-th range on are those at or above that range's beginning. -/
theorem drop_in : ∀ (M : List Rng) (e : Int) (k : Nat), okFrom e M = true → k < M.length → ∀ i : Int, inB (M.drop k) i = (inB M i && decide ((M.getD k (0, 0)).1 ≤ i))
  | s :: r, e, 0, h, _, i => by
    simp only [okFrom, Bool.and_eq_true] at h
    have hs := spanOkB_iff.1 h.1
    show inB (s :: r) i = (inB (s :: r) i && decide (s.1 ≤ i))
    by_cases hc : s.1 ≤ i
    · simp [hc]
    · have : inB (s :: r) i = false := by
        rw [inB_cons, okFrom_low r s.2 h.2.2 i (by omega)]
        simp; omega
      rw [this]; rfl
  | s :: r, e, k + 1, h, hk, i => by
    simp only [okFrom, Bool.and_eq_true] at h
    have hk' : k < r.length := by simpa using hk
    have ih := drop_in r s.2 k h.2.2 hk' i
    show inB (r.drop k) i = (inB (s :: r) i && decide ((r.getD k (0, 0)).1 ≤ i))
    rw [ih, inB_cons]
    have hlo : ∀ (q : List Rng) (d : Int) (j : Nat), okFrom d q = true → j < q.length → d < (q.getD j (0, 0)).1 := by
      intro q
      induction q with
      | nil => intro d j _ hj; exact absurd hj (by simp)
      | cons t q ihq =>
        intro d j hq hj
        simp only [okFrom, Bool.and_eq_true, decide_eq_true_eq] at hq
        have ht := spanOkB_iff.1 hq.1
        cases j with
        | zero => exact hq.2.1
        | succ j => have := ihq t.2 j hq.2.2 (by simpa using hj); show d < (q.getD j (0, 0)).1; omega
    have := hlo r s.2 k h.2.2 hk'
    generalize (r.getD k (0, 0)).1 = m at *
    by_cases hc : m ≤ i
    · have h3 : decide (i < s.2) = false := by simp; omega
      rw [h3, Bool.and_false, Bool.false_or]
    · have h3 : decide (m ≤ i) = false := by simp; omega
      rw [h3, Bool.and_false, Bool.and_false]

/-- From where on the places are still out, after k pieces. -/
def frm (lo hi : Int) (L : List Rng) (k : Nat) : Int := if k < (mts lo hi L).length then ((mts lo hi L).getD k (0, 0)).1 else hi

theorem mts_get (lo hi : Int) (h : spanOkB lo hi = true) : ∀ (L : List Rng) (e : Int) (k : Nat), okFrom e L = true → k < (mts lo hi L).length → lo ≤ ((mts lo hi L).getD k (0, 0)).1 ∧ ((mts lo hi L).getD k (0, 0)).1 < ((mts lo hi L).getD k (0, 0)).2 ∧ ((mts lo hi L).getD k (0, 0)).2 ≤ hi
  | [], _, _, _, hk => absurd hk (by simp [mts])
  | s :: r, e, k, hm, hk => by
    simp only [okFrom, Bool.and_eq_true, decide_eq_true_eq] at hm
    have a1 : lo ≤ mx s.1 lo := by unfold mx; split <;> omega
    have a2 : mn s.2 hi ≤ hi := by unfold mn; split <;> omega
    by_cases hc : mx s.1 lo < mn s.2 hi
    · simp only [mts, if_pos hc] at hk ⊢
      cases k with
      | zero => exact ⟨a1, hc, a2⟩
      | succ k => exact mts_get lo hi h r s.2 k hm.2.2 (by simpa using hk)
    · simp only [mts, if_neg hc] at hk ⊢
      exact mts_get lo hi h r s.2 k hm.2.2 hk

theorem okFrom_next : ∀ (M : List Rng) (e : Int) (k : Nat), okFrom e M = true → k + 1 < M.length → (M.getD k (0, 0)).2 < (M.getD (k + 1) (0, 0)).1
  | s :: r, e, 0, h, hk => by
    simp only [okFrom, Bool.and_eq_true] at h
    cases r with
    | nil => exact absurd hk (by simp)
    | cons t q =>
      have h2 := h.2.2
      simp only [okFrom, Bool.and_eq_true, decide_eq_true_eq] at h2
      exact h2.2.1
  | s :: r, e, k + 1, h, hk => by
    simp only [okFrom, Bool.and_eq_true] at h
    exact okFrom_next r s.2 k h.2.2 (by simpa using hk)

theorem frm_bd {lo hi : Int} (h : spanOkB lo hi = true) {L : List Rng} (hL : okFrom (-1) L = true) (k : Nat) : lo ≤ frm lo hi L k ∧ frm lo hi L k ≤ hi := by
  have hb := spanOkB_iff.1 h
  unfold frm
  split
  · rename_i hk
    have := mts_get lo hi h L (-1) k hL hk
    omega
  · omega

/-- One piece more. -/
theorem cut_step {lo hi : Int} (h : spanOkB lo hi = true) {L : List Rng} (hL : okFrom (-1) L = true) (k : Nat) (hk : k < (mts lo hi L).length) (i : Nat) :
    cutF L (frm lo hi L (k + 1)) hi i = (cutF L (frm lo hi L k) hi i || (decide (((mts lo hi L).getD k (0, 0)).1 ≤ (i : Int)) && decide ((i : Int) < ((mts lo hi L).getD k (0, 0)).2))) := by
  have hM := mts_ok lo hi h L (-1) hL
  have hg := mts_get lo hi h L (-1) k hL hk
  have d0 := drop_in (mts lo hi L) (-1) k hM hk (i : Int)
  have d1 : inB ((mts lo hi L).drop (k + 1)) (i : Int) = (inB (mts lo hi L) (i : Int) && decide (frm lo hi L (k + 1) ≤ (i : Int))) ∨ ¬ ((i : Int) < hi) := by
    by_cases h1 : k + 1 < (mts lo hi L).length
    · left
      rw [drop_in (mts lo hi L) (-1) (k + 1) hM h1]
      unfold frm; rw [if_pos h1]
    · by_cases h2 : (i : Int) < hi
      · left
        rw [List.drop_of_length_le (by omega)]
        unfold frm; rw [if_neg h1]
        have : decide (hi ≤ (i : Int)) = false := by simp; omega
        rw [this, Bool.and_false]; rfl
      · exact .inr h2
  have hn : ((mts lo hi L).getD k (0, 0)).2 ≤ frm lo hi L (k + 1) := by
    unfold frm
    split
    · rename_i h1
      have := okFrom_next (mts lo hi L) (-1) k hM h1
      omega
    · exact hg.2.2
  rw [drop_cons _ k hk, inB_cons, mts_in] at d0
  rw [mts_in] at d1
  have f0 : frm lo hi L k = ((mts lo hi L).getD k (0, 0)).1 := by unfold frm; rw [if_pos hk]
  rw [f0]
  generalize inB ((mts lo hi L).drop (k + 1)) (i : Int) = t at *
  generalize (mts lo hi L).getD k (0, 0) = s at *
  generalize frm lo hi L (k + 1) = m' at *
  obtain ⟨m, n⟩ := s
  dsimp only at *
  obtain ⟨g1, g2, g3⟩ := hg
  unfold cutF
  generalize inB L (i : Int) = l at *
  have r1 : decide (m ≤ (i : Int)) = true → decide (lo ≤ (i : Int)) = true := by simp; omega
  have r2 : decide (m' ≤ (i : Int)) = true → decide (m ≤ (i : Int)) = true := by simp; omega
  have r3 : decide ((i : Int) < n) = true → decide ((i : Int) < hi) = true := by simp; omega
  have r4 : decide (m' ≤ (i : Int)) = true → decide ((i : Int) < n) = false := by simp; omega
  have d2 : t = ((l && (decide (lo ≤ (i : Int)) && decide ((i : Int) < hi))) && decide (m' ≤ (i : Int))) ∨ decide ((i : Int) < hi) = false := d1.imp id fun h => by simpa using h
  clear d1 hn g1 g2 g3 f0
  generalize decide (m ≤ (i : Int)) = p3 at *
  generalize decide (m' ≤ (i : Int)) = p5 at *
  generalize decide ((i : Int) < n) = p4 at *
  generalize decide ((i : Int) < hi) = p2 at *
  generalize decide (lo ≤ (i : Int)) = p1 at *
  clear h hL hk hM
  revert d0 d2 r1 r2 r3 r4
  revert l t p1 p2 p3 p4 p5
  decide

end Go.Proofs.YteglfdcoeogilaaDoor
