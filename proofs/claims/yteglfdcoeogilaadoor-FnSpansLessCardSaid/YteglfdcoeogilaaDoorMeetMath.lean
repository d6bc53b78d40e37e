/-
  Plain facts: what a list of ranges has in common with a range, piece by piece, is the list of the ranges of the common positions. Nothing of the program.
-/
import Derived.Test.YteglfdcoeogilaaDoorOkRg
import Derived.Test.YteglfdcoeogilaaDoorRunMath
import Derived.Test.YteglfdcoeogilaaDoorMeetW
import Derived.Test.YteglfdcoeogilaaDoorImpl3
namespace Go.Proofs.YteglfdcoeogilaaDoor

def mts (lo hi : Int) : List Rng → List Rng
  | [] => []
  | s :: r => if mx s.1 lo < mn s.2 hi then (mx s.1 lo, mn s.2 hi) :: mts lo hi r else mts lo hi r

theorem mts_append (lo hi : Int) : ∀ a b : List Rng, mts lo hi (a ++ b) = mts lo hi a ++ mts lo hi b
  | [], b => rfl
  | s :: r, b => by
    simp only [List.cons_append, mts, mts_append lo hi r b]
    split <;> simp

theorem mts_len (lo hi : Int) : ∀ L : List Rng, (mts lo hi L).length ≤ L.length
  | [] => Nat.le_refl _
  | s :: r => by
    have := mts_len lo hi r
    simp only [mts]
    split <;> simp <;> omega

theorem okFrom_mono {e e' : Int} (h : e' ≤ e) : ∀ M : List Rng, okFrom e M = true → okFrom e' M = true
  | [], _ => rfl
  | s :: r, hm => by
    simp only [okFrom, Bool.and_eq_true, decide_eq_true_eq] at hm ⊢
    exact ⟨hm.1, by omega, hm.2.2⟩

theorem okFrom_low : ∀ (M : List Rng) (e : Int), okFrom e M = true → ∀ i : Int, i ≤ e → inB M i = false
  | [], _, _, _, _ => rfl
  | s :: r, e, hm, i, hi => by
    simp only [okFrom, Bool.and_eq_true, decide_eq_true_eq] at hm
    obtain ⟨h0, h1, h2⟩ := spanOkB_iff.1 hm.1
    have := okFrom_low r s.2 hm.2.2 i (by omega)
    simp only [inB, List.any_cons] at this ⊢
    rw [this]
    simp
    omega

theorem mts_ok (lo hi : Int) (h : spanOkB lo hi = true) : ∀ (L : List Rng) (e : Int), okFrom e L = true → okFrom e (mts lo hi L) = true
  | [], _, _ => rfl
  | s :: r, e, hm => by
    simp only [okFrom, Bool.and_eq_true, decide_eq_true_eq] at hm
    have ih := mts_ok lo hi h r s.2 hm.2.2
    obtain ⟨h0, h1, h2⟩ := spanOkB_iff.1 hm.1
    obtain ⟨g0, g1, g2⟩ := spanOkB_iff.1 h
    simp only [mts]
    have a1 : s.1 ≤ mx s.1 lo := by unfold mx; split <;> omega
    have a2 : mn s.2 hi ≤ s.2 := by unfold mn; split <;> omega
    split
    · simp only [okFrom, Bool.and_eq_true, decide_eq_true_eq]
      exact ⟨spanOkB_iff.2 ⟨by omega, by omega, by omega⟩, by omega, okFrom_mono a2 _ ih⟩
    · exact okFrom_mono (by omega) _ ih

theorem mts_in (lo hi : Int) (i : Int) : ∀ L : List Rng, inB (mts lo hi L) i = (inB L i && (decide (lo ≤ i) && decide (i < hi)))
  | [] => rfl
  | s :: r => by
    have ih := mts_in lo hi i r
    have e1 : (mx s.1 lo ≤ i) ↔ (s.1 ≤ i ∧ lo ≤ i) := by unfold mx; split <;> omega
    have e2 : (i < mn s.2 hi) ↔ (i < s.2 ∧ i < hi) := by unfold mn; split <;> omega
    have hd : (decide (mx s.1 lo ≤ i) && decide (i < mn s.2 hi)) = ((decide (s.1 ≤ i) && decide (i < s.2)) && (decide (lo ≤ i) && decide (i < hi))) := by
      rw [Bool.eq_iff_iff]
      simp only [Bool.and_eq_true, decide_eq_true_eq]
      rw [e1, e2]
      exact ⟨fun h => ⟨⟨h.1.1, h.2.1⟩, h.1.2, h.2.2⟩, fun h => ⟨⟨h.1.1, h.2.1⟩, h.1.2, h.2.2⟩⟩
    have hs : inB (s :: r) i = ((decide (s.1 ≤ i) && decide (i < s.2)) || inB r i) := rfl
    simp only [mts]
    split
    · have hc : inB ((mx s.1 lo, mn s.2 hi) :: mts lo hi r) i = ((decide (mx s.1 lo ≤ i) && decide (i < mn s.2 hi)) || inB (mts lo hi r) i) := rfl
      rw [hc, hs, ih, hd, Bool.and_or_distrib_right]
    · rename_i hn
      have hf : (decide (mx s.1 lo ≤ i) && decide (i < mn s.2 hi)) = false := by
        rw [Bool.eq_false_iff]; intro h; simp only [Bool.and_eq_true, decide_eq_true_eq] at h; omega
      rw [hd] at hf
      rw [hs, ih, Bool.and_or_distrib_right, hf, Bool.false_or]

theorem rg_inB : ∀ (M : List Rng) (e : Int), -1 ≤ e → okFrom e M = true → rg (fun i => inB M (i : Int)) 48 = M
  | [], _, _, _ => rg_none fun _ _ => rfl
  | s :: r, e, he, hm => by
    have hm' := hm
    simp only [okFrom, Bool.and_eq_true, decide_eq_true_eq] at hm
    obtain ⟨h0, h1, h2⟩ := spanOkB_iff.1 hm.1
    obtain ⟨a, b⟩ := s
    dsimp only at h0 h1 h2 hm
    obtain ⟨lo, rfl⟩ : ∃ n : Nat, a = (n : Int) := ⟨a.toNat, by omega⟩
    obtain ⟨hi, rfl⟩ : ∃ n : Nat, b = (n : Int) := ⟨b.toNat, by omega⟩
    have hlow := okFrom_low r (hi : Int) hm.2.2
    have hs : ∀ i : Int, inB (((lo : Int), (hi : Int)) :: r) i = ((decide ((lo : Int) ≤ i) && decide (i < (hi : Int))) || inB r i) := fun _ => rfl
    have := rg_run (f := fun i => inB (((lo : Int), (hi : Int)) :: r) (i : Int)) (lo := lo) (hi := hi) (by omega)
      (fun i hi' => by
        rw [hs, hlow i (by omega)]
        simp; omega)
      (fun i h3 h4 => by
        rw [hs]
        simp; left; omega)
      (by
        rw [hs, hlow _ (by omega)]
        simp) (48 - hi)
    rw [show hi + (48 - hi) = 48 by omega] at this
    rw [this]
    congr 1
    rw [rg_congr (g := fun i => inB r (i : Int)) (fun i _ => ?_)]
    · exact rg_inB r hi (by omega) hm.2.2
    · rw [hs]
      by_cases hc : hi ≤ i
      · simp [hc]; omega
      · rw [hlow i (by omega)]
        simp [hc]

theorem mts_set {L : List Rng} {lo hi : Int} (h1 : spansOkB L = true) (h2 : spanOkB lo hi = true) : setL (meetF L lo hi) L lo hi = mts lo hi L := by
  have hL := h1
  simp only [spansOkB, Bool.and_eq_true, decide_eq_true_eq] at hL
  have e : rg (meetF L lo hi) 48 = mts lo hi L := by
    rw [← rg_inB (mts lo hi L) (-1) (by omega) (mts_ok lo hi h2 L _ hL.2)]
    exact rg_congr fun i _ => (mts_in lo hi i L).symm
  have hl : (mts lo hi L).length ≤ 12 := Nat.le_trans (mts_len lo hi L) hL.1
  unfold setL
  rw [h1, h2, spansOkB_rg, e]
  simp [hl]

end Go.Proofs.YteglfdcoeogilaaDoor
