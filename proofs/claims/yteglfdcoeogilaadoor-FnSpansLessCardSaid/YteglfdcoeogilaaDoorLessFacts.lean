/-
  Plain facts: a range cut out of a list of at most ten, and put in again piece by piece.
-/
import Derived.Test.YteglfdcoeogilaaDoorLessMath
namespace Go.Proofs.YteglfdcoeogilaaDoor

def bk (lo hi : Int) (L : List Rng) (k : Nat) : List Rng := rg (cutF L (frm lo hi L k) hi) 48

theorem cut_none (L : List Rng) (hi : Int) (i : Nat) : cutF L hi hi i = inB L (i : Int) := by
  unfold cutF
  by_cases h : hi ≤ (i : Int)
  · have : decide ((i : Int) < hi) = false := by simp; omega
    rw [this]; simp
  · simp [h]
theorem cut_first {lo hi : Int} (h2 : spanOkB lo hi = true) {L : List Rng} (hL : okFrom (-1) L = true) (i : Nat) : cutF L lo hi i = cutF L (frm lo hi L 0) hi i := by
  have hm := mts_in lo hi (i : Int) L
  have hM := mts_ok lo hi h2 L (-1) hL
  have hf := frm_bd h2 hL 0
  by_cases hk : 0 < (mts lo hi L).length
  · have d0 := drop_in (mts lo hi L) (-1) 0 hM hk (i : Int)
    have f0 : frm lo hi L 0 = ((mts lo hi L).getD 0 (0, 0)).1 := by unfold frm; rw [if_pos hk]
    rw [← f0, List.drop_zero, hm] at d0
    unfold cutF
    generalize frm lo hi L 0 = m at *
    have r1 : decide (m ≤ (i : Int)) = true → decide (lo ≤ (i : Int)) = true := by simp; omega
    generalize decide (m ≤ (i : Int)) = p3 at *
    generalize decide ((i : Int) < hi) = p2 at *
    generalize decide (lo ≤ (i : Int)) = p1 at *
    generalize inB L (i : Int) = l at *
    clear hm hM hf hk f0 h2 hL
    revert d0 r1
    revert l p1 p2 p3
    decide
  · have f0 : frm lo hi L 0 = hi := by unfold frm; rw [if_neg hk]
    rw [f0, cut_none]
    have hn : mts lo hi L = [] := List.eq_nil_of_length_eq_zero (by omega)
    rw [hn] at hm
    have hm' : (inB L (i : Int) && (decide (lo ≤ (i : Int)) && decide ((i : Int) < hi))) = false := hm.symm
    unfold cutF
    revert hm'
    cases inB L (i : Int) <;> cases decide (lo ≤ (i : Int)) && decide ((i : Int) < hi) <;> decide

theorem bk_ok {L : List Rng} {lo hi : Int} (h1 : spansOkB L = true) (h2 : spanOkB lo hi = true) (hl : L.length ≤ 10) (k : Nat) : spansOkB (bk lo hi L k) = true ∧ (bk lo hi L k).length ≤ 11 ∧ ∀ i : Nat, i < 48 → inB (bk lo hi L k) (i : Int) = cutF L (frm lo hi L k) hi i := by
  have hL : okFrom (-1) L = true := by have := h1; simp only [spansOkB, Bool.and_eq_true] at this; exact this.2
  have hb := spanOkB_iff.1 h2
  have hf := frm_bd h2 hL k
  have h3 : ∀ i : Nat, i < 48 → inB (bk lo hi L k) (i : Int) = cutF L (frm lo hi L k) hi i := fun i hi' => (inB_rg _ 48 (Nat.le_refl _)).1 i hi'
  by_cases hlt : frm lo hi L k < hi
  · have hs : spanOkB (frm lo hi L k) hi = true := spanOkB_iff.2 ⟨by omega, hlt, hb.2.2⟩
    obtain ⟨e, e2, e3, -⟩ := set_facts h1 hs (by omega) (cut_st (L := L) (lo := frm lo hi L k) (hi := hi) (by omega))
    refine ⟨?_, ?_, h3⟩
    · rw [e] at e3; exact e3
    · rw [e] at e2; show (rg _ 48).length ≤ 11; omega
  · have e : bk lo hi L k = L := by
      have : frm lo hi L k = hi := by omega
      have e2 := rg_inB L (-1) (by omega) hL
      unfold bk
      rw [this, rg_congr (g := fun i => inB L (i : Int)) fun i _ => cut_none L hi i]
      exact e2
    exact ⟨by rw [e]; exact h1, by rw [e]; omega, h3⟩

theorem bk_zero {L : List Rng} {lo hi : Int} (h1 : spansOkB L = true) (h2 : spanOkB lo hi = true) (hl : L.length ≤ 10) : setL (cutF L lo hi) L lo hi = bk lo hi L 0 := by
  have hL : okFrom (-1) L = true := by have := h1; simp only [spansOkB, Bool.and_eq_true] at this; exact this.2
  have hb := spanOkB_iff.1 h2
  obtain ⟨e, -, -, -⟩ := set_facts h1 h2 (by omega) (cut_st (L := L) (lo := lo) (hi := hi) (by omega))
  rw [e]
  exact rg_congr fun i _ => cut_first h2 hL i
theorem bk_last {L : List Rng} {lo hi : Int} (h1 : spansOkB L = true) : bk lo hi L (mts lo hi L).length = L := by
  have hL : okFrom (-1) L = true := by have := h1; simp only [spansOkB, Bool.and_eq_true] at this; exact this.2
  have e : frm lo hi L (mts lo hi L).length = hi := by unfold frm; rw [if_neg (by omega)]
  have e2 := rg_inB L (-1) (by omega) hL
  unfold bk
  rw [e, rg_congr (g := fun i => inB L (i : Int)) fun i _ => cut_none L hi i]
  exact e2
theorem bk_step {L : List Rng} {lo hi : Int} (h1 : spansOkB L = true) (h2 : spanOkB lo hi = true) (hl : L.length ≤ 10) (k : Nat) (hk : k < (mts lo hi L).length) :
    setL (addF (bk lo hi L k) ((mts lo hi L).getD k (0, 0)).1 ((mts lo hi L).getD k (0, 0)).2) (bk lo hi L k) ((mts lo hi L).getD k (0, 0)).1 ((mts lo hi L).getD k (0, 0)).2 = bk lo hi L (k + 1) := by
  have hL : okFrom (-1) L = true := by have := h1; simp only [spansOkB, Bool.and_eq_true] at this; exact this.2
  obtain ⟨a1, -, a3⟩ := bk_ok h1 h2 hl k
  obtain ⟨b1, -, b3⟩ := bk_ok h1 h2 hl (k + 1)
  refine ad_eq a1 b1 (ok_get _ _ k (mts_ok lo hi h2 L (-1) hL) hk) fun i hi' => ?_
  rw [b3 i hi', a3 i hi', cut_step h2 hL k hk]
theorem bk_have {L : List Rng} {lo hi a b : Int} (h1 : spansOkB L = true) (h2 : spanOkB lo hi = true) (hl : L.length ≤ 10) (h : lo ≤ a ∧ a < hi) : haveB (bk lo hi L 0) (a, b) = false := by
  have hL : okFrom (-1) L = true := by have := h1; simp only [spansOkB, Bool.and_eq_true] at this; exact this.2
  have hb := spanOkB_iff.1 h2
  obtain ⟨-, -, a3⟩ := bk_ok h1 h2 hl 0
  unfold haveB
  show (_ && (spanOkB a b && hasB _ a (b - a).toNat)) = false
  by_cases hs : spanOkB a b = true
  · have hs' := spanOkB_iff.1 hs
    obtain ⟨n, rfl⟩ : ∃ n : Nat, a = n := ⟨a.toNat, by omega⟩
    have hx : hasB (bk lo hi L 0) (n : Int) (b - n).toNat = false := by
      cases hh : hasB (bk lo hi L 0) (n : Int) (b - n).toNat with
      | false => rfl
      | true =>
        have := (hasB_iff (bk lo hi L 0) _ (n : Int)).1 hh n (Int.le_refl _) (by omega)
        rw [a3 n (by omega), ← cut_first h2 hL, cutF_in (by omega)] at this
        exact this.symm
    rw [hx]; simp
  · have : spanOkB a b = false := by simpa using hs
    rw [this]; simp

end Go.Proofs.YteglfdcoeogilaaDoor
