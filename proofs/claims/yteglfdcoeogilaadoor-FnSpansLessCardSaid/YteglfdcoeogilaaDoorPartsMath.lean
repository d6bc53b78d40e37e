/-
  Plain facts: a list of ranges is built range by range, from either end.
-/
import Derived.Test.YteglfdcoeogilaaDoorTurnMath
namespace Go.Proofs.YteglfdcoeogilaaDoor

theorem inB_cons (s : Rng) (a : List Rng) (i : Int) : inB (s :: a) i = ((decide (s.1 ≤ i) && decide (i < s.2)) || inB a i) := by
  unfold inB; rw [List.any_cons]
theorem okFrom_take : ∀ (L : List Rng) (e : Int) (k : Nat), okFrom e L = true → okFrom e (L.take k) = true
  | [], _, _, _ => by simp [okFrom]
  | s :: r, e, 0, _ => rfl
  | s :: r, e, k + 1, h => by
    simp only [List.take_succ_cons]
    simp only [okFrom, Bool.and_eq_true] at h ⊢
    exact ⟨h.1, h.2.1, okFrom_take r s.2 k h.2.2⟩
theorem okFrom_drop : ∀ (L : List Rng) (e : Int) (k : Nat), -1 ≤ e → okFrom e L = true → okFrom (-1) (L.drop k) = true
  | [], _, _, _, _ => by simp [okFrom]
  | s :: r, e, 0, he, h => okFrom_mono he _ h
  | s :: r, e, k + 1, he, h => by
    simp only [okFrom, Bool.and_eq_true] at h
    have hs := spanOkB_iff.1 h.1
    exact okFrom_drop r s.2 k (by omega) h.2.2
theorem ok_get : ∀ (L : List Rng) (e : Int) (k : Nat), okFrom e L = true → k < L.length → spanOkB (L.getD k (0, 0)).1 (L.getD k (0, 0)).2 = true
  | s :: r, e, 0, h, _ => by
    simp only [okFrom, Bool.and_eq_true] at h
    exact h.1
  | s :: r, e, k + 1, h, hk => by
    simp only [okFrom, Bool.and_eq_true] at h
    exact ok_get r s.2 k h.2.2 (by simpa using hk)
theorem ok_of {M : List Rng} (h : okFrom (-1) M = true) (hl : M.length ≤ 12) : spansOkB M = true := by
  unfold spansOkB; simp [h, hl]

/-- A list that says the same of every place as one range more does is what comes of it. -/
theorem ad_eq {A M : List Rng} {lo hi : Int} (hA : spansOkB A = true) (hM : spansOkB M = true) (h2 : spanOkB lo hi = true)
    (h : ∀ i : Nat, i < 48 → inB M (i : Int) = (inB A (i : Int) || (decide (lo ≤ (i : Int)) && decide ((i : Int) < hi)))) : setL (addF A lo hi) A lo hi = M := by
  have hk : okFrom (-1) M = true := by have := hM; simp only [spansOkB, Bool.and_eq_true] at this; exact this.2
  have e : rg (addF A lo hi) 48 = M := by
    rw [← rg_inB M (-1) (by omega) hk]
    refine rg_congr fun i hi' => ?_
    rw [h i hi']
    rfl
  unfold setL
  rw [e, hA, h2, hM]
  rfl

theorem take_in (L : List Rng) (k : Nat) (h : k < L.length) (i : Int) : inB (L.take (k + 1)) i = (inB (L.take k) i || (decide ((L.getD k (0, 0)).1 ≤ i) && decide (i < (L.getD k (0, 0)).2))) := by
  have e : L.take (k + 1) = L.take k ++ [L.getD k (0, 0)] := by
    rw [List.take_add_one, List.getD_eq_getElem?_getD, List.getElem?_eq_getElem h]; rfl
  rw [e, inB_append]
theorem add_take {L : List Rng} (h : spansOkB L = true) (k : Nat) (hk : k < L.length) :
    setL (addF (L.take k) (L.getD k (0, 0)).1 (L.getD k (0, 0)).2) (L.take k) (L.getD k (0, 0)).1 (L.getD k (0, 0)).2 = L.take (k + 1) := by
  have h' := h
  simp only [spansOkB, Bool.and_eq_true, decide_eq_true_eq] at h'
  exact ad_eq (ok_of (okFrom_take L _ k h'.2) (by rw [List.length_take]; omega)) (ok_of (okFrom_take L _ (k + 1) h'.2) (by rw [List.length_take]; omega)) (ok_get L _ k h'.2 hk)
    fun i _ => take_in L k hk i
theorem add_drop {L : List Rng} (h : spansOkB L = true) (k : Nat) (hk : k < L.length) :
    setL (addF (L.drop (k + 1)) (L.getD k (0, 0)).1 (L.getD k (0, 0)).2) (L.drop (k + 1)) (L.getD k (0, 0)).1 (L.getD k (0, 0)).2 = L.drop k := by
  have h' := h
  simp only [spansOkB, Bool.and_eq_true, decide_eq_true_eq] at h'
  refine ad_eq (ok_of (okFrom_drop L _ (k + 1) (by omega) h'.2) (by rw [List.length_drop]; omega)) (ok_of (okFrom_drop L _ k (by omega) h'.2) (by rw [List.length_drop]; omega)) (ok_get L _ k h'.2 hk)
    fun i _ => ?_
  rw [drop_cons L k hk, inB_cons, Bool.or_comm]

end Go.Proofs.YteglfdcoeogilaaDoor
