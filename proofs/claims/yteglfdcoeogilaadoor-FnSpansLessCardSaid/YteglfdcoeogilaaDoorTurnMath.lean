/-
  Plain facts: one range put in, or taken out, makes a list one range longer at most; putting in and taking out commute where there is room.
-/
import Derived.Test.YteglfdcoeogilaaDoorWpIn
import Derived.Test.YteglfdcoeogilaaDoorMeetMath
namespace Go.Proofs.YteglfdcoeogilaaDoor

/-- Does a run begin here? -/
def st (f : Nat → Bool) (k : Nat) : Bool := f k && !(decide (0 < k) && f (k - 1))

theorem ends_rg (f : Nat → Bool) : ∀ k : Nat, k ≤ 48 → endsAt (rg f k) k = (decide (0 < k) && f (k - 1))
  | 0, _ => rfl
  | j + 1, hk => by
    rw [rg_succ]
    show _ = (true && f j)
    rw [Bool.true_and]
    by_cases hf : f j = true
    · rw [if_pos hf, hf]
      by_cases he : endsAt (rg f j) j = true
      · rw [if_pos he]
        rcases List.eq_nil_or_concat (rg f j) with e | ⟨a, s, e⟩
        · rw [e] at he; simp [endsAt] at he
        · rw [List.concat_eq_append] at e
          rw [e, set_append, getD_append, endsAt_append]
          simp
      · rw [if_neg he, endsAt_append]
        simp
    · rw [if_neg hf]
      have hf' : f j = false := by simpa using hf
      rw [hf']
      have hl := (okFrom_rg f j (by omega)).2
      rcases List.eq_nil_or_concat (rg f j) with e | ⟨a, s, e⟩
      · rw [e]; rfl
      · rw [List.concat_eq_append] at e
        rw [e] at hl ⊢
        rw [lastE_append] at hl
        rw [endsAt_append]
        simp; omega

theorem rg_len_step (f : Nat → Bool) (k : Nat) (hk : k ≤ 48) : (rg f (k + 1)).length = (rg f k).length + (st f k).toNat := by
  rw [rg_succ, ends_rg f k hk]
  unfold st
  cases f k <;> cases decide (0 < k) && f (k - 1) <;> simp

theorem rg_st_le {f g : Nat → Bool} {m : Nat} (h : ∀ k, st g k = true → st f k = true ∨ k = m) : ∀ k : Nat, k ≤ 48 → (rg g k).length ≤ (rg f k).length + (if m < k then 1 else 0)
  | 0, _ => by simp [rg]
  | k + 1, hk => by
    have ih := rg_st_le h k (by omega)
    rw [rg_len_step g k (by omega), rg_len_step f k (by omega)]
    by_cases hg : st g k = true
    · rcases h k hg with hf | rfl
      · rw [hg, hf]
        split at ih <;> split <;> omega
      · rw [hg]
        rw [if_neg (Nat.lt_irrefl _)] at ih
        rw [if_pos (by omega)]
        show _ + 1 ≤ _
        omega
    · have hg' : st g k = false := by simpa using hg
      rw [hg']
      show _ + 0 ≤ _
      split at ih <;> split <;> omega

theorem add_st {L : List Rng} {lo hi : Int} (h0 : 0 ≤ lo) (k : Nat) (h : st (addF L lo hi) k = true) : st (fun i => inB L (i : Int)) k = true ∨ k = lo.toNat := by
  unfold st at h ⊢
  simp only [Bool.and_eq_true, Bool.not_eq_true', Bool.and_eq_false_iff, decide_eq_false_iff_not] at h ⊢
  obtain ⟨h1, h2⟩ := h
  by_cases hL : inB L (k : Int) = true
  · left
    refine ⟨hL, ?_⟩
    rcases h2 with h2 | h2
    · exact .inl h2
    · right
      unfold addF at h2
      simp only [Bool.or_eq_false_iff] at h2
      exact h2.1
  · right
    unfold addF at h1
    simp only [hL, Bool.false_or, Bool.and_eq_true, decide_eq_true_eq] at h1
    rcases h2 with h2 | h2
    · omega
    · unfold addF at h2
      simp only [Bool.or_eq_false_iff, Bool.and_eq_false_iff, decide_eq_false_iff_not] at h2
      omega
theorem cut_st {L : List Rng} {lo hi : Int} (h0 : 0 ≤ hi) (k : Nat) (h : st (cutF L lo hi) k = true) : st (fun i => inB L (i : Int)) k = true ∨ k = hi.toNat := by
  unfold st at h ⊢
  simp only [Bool.and_eq_true, Bool.not_eq_true', Bool.and_eq_false_iff, decide_eq_false_iff_not] at h ⊢
  obtain ⟨h1, h2⟩ := h
  unfold cutF at h1
  simp only [Bool.and_eq_true, Bool.not_eq_true', Bool.and_eq_false_iff, decide_eq_false_iff_not] at h1
  by_cases hk : 0 < k
  · by_cases hL : inB L ((k - 1 : Nat) : Int) = true
    · right
      rcases h2 with h2 | h2
      · omega
      · unfold cutF at h2
        simp only [hL, Bool.true_and, Bool.not_eq_false', Bool.and_eq_true, decide_eq_true_eq] at h2
        omega
    · left
      exact ⟨h1.1, .inr (by simpa using hL)⟩
  · left
    exact ⟨h1.1, .inl hk⟩

def ad (L : List Rng) (lo hi : Int) : List Rng := setL (addF L lo hi) L lo hi
def cu (L : List Rng) (lo hi : Int) : List Rng := setL (cutF L lo hi) L lo hi

theorem set_facts {f : Nat → Bool} {L : List Rng} {lo hi : Int} {m : Nat} (h1 : spansOkB L = true) (h2 : spanOkB lo hi = true) (hl : L.length ≤ 11) (hs : ∀ k, st f k = true → st (fun i => inB L (i : Int)) k = true ∨ k = m) :
    setL f L lo hi = rg f 48 ∧ (setL f L lo hi).length ≤ L.length + 1 ∧ spansOkB (setL f L lo hi) = true ∧ ∀ i : Nat, i < 48 → inB (setL f L lo hi) (i : Int) = f i := by
  have hk : okFrom (-1) L = true := by simp only [spansOkB, Bool.and_eq_true] at h1; exact h1.2
  have h := rg_st_le hs 48 (Nat.le_refl _)
  rw [rg_inB L (-1) (by omega) hk] at h
  have hlen : (rg f 48).length ≤ L.length + 1 := by split at h <;> omega
  have e : setL f L lo hi = rg f 48 := by
    unfold setL
    rw [h1, h2, spansOkB_rg]
    have : (rg f 48).length ≤ 12 := by omega
    simp [this]
  refine ⟨e, by rw [e]; exact hlen, setL_ok _ _ _ _, fun i hi' => ?_⟩
  rw [e]; exact (inB_rg f 48 (Nat.le_refl _)).1 i hi'

theorem add_turn {L : List Rng} {a b c d : Int} (h1 : spansOkB L = true) (h2 : spanOkB a b = true) (h3 : spanOkB c d = true) (hl : L.length ≤ 9) : ad (ad L a b) c d = ad (ad L c d) a b := by
  obtain ⟨a0, -, -⟩ := spanOkB_iff.1 h2
  obtain ⟨c0, -, -⟩ := spanOkB_iff.1 h3
  obtain ⟨-, x2, x3, x4⟩ := set_facts h1 h2 (by omega) (add_st (L := L) (hi := b) a0)
  obtain ⟨-, y2, y3, y4⟩ := set_facts h1 h3 (by omega) (add_st (L := L) (hi := d) c0)
  obtain ⟨u1, -, -, -⟩ := set_facts x3 h3 (by omega) (add_st (L := setL (addF L a b) L a b) (hi := d) c0)
  obtain ⟨v1, -, -, -⟩ := set_facts y3 h2 (by omega) (add_st (L := setL (addF L c d) L c d) (hi := b) a0)
  unfold ad
  rw [u1, v1]
  refine rg_congr fun i hi => ?_
  show (inB (setL (addF L a b) L a b) (i : Int) || _) = (inB (setL (addF L c d) L c d) (i : Int) || _)
  rw [x4 i hi, y4 i hi]
  unfold addF
  rw [Bool.or_assoc, Bool.or_assoc, Bool.or_comm (decide (a ≤ (i : Int)) && _)]
theorem cut_turn {L : List Rng} {a b c d : Int} (h1 : spansOkB L = true) (h2 : spanOkB a b = true) (h3 : spanOkB c d = true) (hl : L.length ≤ 9) : cu (cu L a b) c d = cu (cu L c d) a b := by
  obtain ⟨a0, ab, -⟩ := spanOkB_iff.1 h2
  obtain ⟨c0, cd, -⟩ := spanOkB_iff.1 h3
  obtain ⟨-, x2, x3, x4⟩ := set_facts h1 h2 (by omega) (cut_st (L := L) (lo := a) (hi := b) (by omega))
  obtain ⟨-, y2, y3, y4⟩ := set_facts h1 h3 (by omega) (cut_st (L := L) (lo := c) (hi := d) (by omega))
  obtain ⟨u1, -, -, -⟩ := set_facts x3 h3 (by omega) (cut_st (L := setL (cutF L a b) L a b) (lo := c) (hi := d) (by omega))
  obtain ⟨v1, -, -, -⟩ := set_facts y3 h2 (by omega) (cut_st (L := setL (cutF L c d) L c d) (lo := a) (hi := b) (by omega))
  unfold cu
  rw [u1, v1]
  refine rg_congr fun i hi => ?_
  show (inB (setL (cutF L a b) L a b) (i : Int) && _) = (inB (setL (cutF L c d) L c d) (i : Int) && _)
  rw [x4 i hi, y4 i hi]
  unfold cutF
  rw [Bool.and_assoc, Bool.and_assoc, Bool.and_comm (!(decide (a ≤ (i : Int)) && _))]

end Go.Proofs.YteglfdcoeogilaaDoor
