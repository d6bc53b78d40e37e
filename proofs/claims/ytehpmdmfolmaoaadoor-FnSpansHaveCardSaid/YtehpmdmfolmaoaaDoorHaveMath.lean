/-
  Plain facts: what is counted place by place.
-/
import Derived.Test.YtehpmdmfolmaoaaDoorWpIn
import Derived.Test.YtehpmdmfolmaoaaDoorMeetMath
import Derived.Test.YtehpmdmfolmaoaaDoorMany
namespace Go.Proofs.YtehpmdmfolmaoaaDoor

/-- All places of a range below k? -/
def hs (L : List Rng) (lo hi : Int) : Nat → Bool
  | 0 => true
  | k + 1 => hs L lo hi k && (!(decide (lo ≤ (k : Int)) && decide ((k : Int) < hi)) || inB L (k : Int))
/-- How many places below k. -/
def mk (L : List Rng) : Nat → Nat
  | 0 => 0
  | k + 1 => mk L k + (inB L (k : Int)).toNat
theorem mk_le (L : List Rng) : ∀ k, mk L k ≤ k
  | 0 => Nat.le_refl _
  | k + 1 => by have := mk_le L k; unfold mk; cases inB L (k : Int) <;> simp <;> omega

theorem hs_iff (L : List Rng) (lo hi : Int) : ∀ k : Nat, hs L lo hi k = true ↔ ∀ i : Nat, i < k → lo ≤ (i : Int) → (i : Int) < hi → inB L (i : Int) = true
  | 0 => by simp [hs]
  | k + 1 => by
    unfold hs
    rw [Bool.and_eq_true, hs_iff L lo hi k]
    constructor
    · rintro ⟨h1, h2⟩ i hi' a b
      by_cases hlt : i < k
      · exact h1 i hlt a b
      · obtain rfl : i = k := by omega
        simpa [a, b] using h2
    · intro h
      refine ⟨fun i hi' => h i (by omega), ?_⟩
      by_cases a : lo ≤ (k : Int)
      · by_cases b : (k : Int) < hi
        · simp [h k (by omega) a b]
        · simp [b]
      · simp [a]
theorem have_hs {L : List Rng} {lo hi : Int} (h1 : spansOkB L = true) (h2 : spanOkB lo hi = true) : haveB L (lo, hi) = hs L lo hi 48 := by
  have hb := spanOkB_iff.1 h2
  unfold haveB
  show (spansOkB L && (spanOkB lo hi && hasB L lo (hi - lo).toNat)) = _
  rw [h1, h2, Bool.true_and, Bool.true_and, Bool.eq_iff_iff, hs_iff]
  constructor
  · intro h i hi' a b
    exact (hasB_iff L _ lo).1 h i a (by omega)
  · intro h
    refine hasB_all L _ lo fun i a b => ?_
    obtain ⟨n, rfl⟩ : ∃ n : Nat, i = n := ⟨i.toNat, by omega⟩
    exact h n (by omega) a (by omega)

theorem cnt_end (f : Nat → Bool) (n : Nat) : cnt f (n + 1) = cnt f n + (f n).toNat := by
  rw [cnt_add f n 1]; simp [cnt]
theorem mk_cnt (L : List Rng) : ∀ k, mk L k = cnt (fun i => inB L (i : Int)) k
  | 0 => rfl
  | k + 1 => by rw [cnt_end]; unfold mk; rw [mk_cnt L k]
theorem cnt_parts (f g : Nat → Bool) : ∀ n : Nat, cnt (fun i => f i && !g i) n + cnt (fun i => f i && g i) n = cnt f n
  | 0 => rfl
  | n + 1 => by
    have := cnt_parts (fun i => f (i + 1)) (fun i => g (i + 1)) n
    unfold cnt
    cases f 0 <;> cases g 0 <;> simp <;> omega
theorem cnt_zero (f : Nat → Bool) : ∀ n : Nat, cnt f n = 0 ↔ ∀ i, i < n → f i = false
  | 0 => by simp [cnt]
  | n + 1 => by
    rw [cnt_end, Nat.add_eq_zero_iff, cnt_zero f n]
    constructor
    · rintro ⟨h1, h2⟩ i hi
      by_cases hlt : i < n
      · exact h1 i hlt
      · obtain rfl : i = n := by omega
        cases h : f i
        · rfl
        · rw [h] at h2; exact absurd h2 (by decide)
    · intro h
      exact ⟨fun i hi => h i (by omega), by rw [h n (by omega)]; rfl⟩
theorem many_cnt {L : List Rng} (h : spansOkB L = true) : manyB L = ((cnt (fun i => inB L (i : Int)) 48 : Nat) : Int) := by
  have hk : okFrom (-1) L = true := by simp only [spansOkB, Bool.and_eq_true] at h; exact h.2
  have hc := cnt_lens L (-1) 0 48 hk (by omega) (by omega)
  unfold manyB
  rw [if_pos h, ← hc]
  simp
theorem many_mk {L : List Rng} (h : spansOkB L = true) : manyB L = (mk L 48 : Int) := by rw [many_cnt h, mk_cnt]

/-- As many places of a range are in a list as the range has, just if all are. -/
theorem many_have {L : List Rng} {lo hi : Int} (h1 : spansOkB L = true) (h2 : spanOkB lo hi = true) :
    (manyB (setL (meetF L lo hi) L lo hi) == hi - lo) = haveB L (lo, hi) := by
  have hb := spanOkB_iff.1 h2
  have hone : spansOkB [(lo, hi)] = true := by
    unfold spansOkB
    simp [okFrom, h2]; omega
  have e1 := many_cnt (setL_ok (meetF L lo hi) L lo hi)
  rw [mts_set h1 h2] at e1
  have e2 := many_cnt hone
  have e3 : manyB [(lo, hi)] = hi - lo := by unfold manyB; rw [if_pos hone]; simp [lens]
  have hp := cnt_parts (fun i => inB [(lo, hi)] (i : Int)) (fun i => inB L (i : Int)) 48
  have hin : ∀ i : Int, inB (mts lo hi L) i = (inB [(lo, hi)] i && inB L i) := fun i => by
    have h : inB [(lo, hi)] i = (decide (lo ≤ i) && decide (i < hi)) := by simp only [inB, List.any_cons, List.any_nil, Bool.or_false]
    rw [mts_in, h, Bool.and_comm]
  have e4 : ∀ n, cnt (fun i => inB (mts lo hi L) (i : Int)) n = cnt (fun i => inB [(lo, hi)] (i : Int) && inB L (i : Int)) n := fun n => cnt_congr fun i _ => hin i
  have hz := cnt_zero (fun i => inB [(lo, hi)] (i : Int) && !inB L (i : Int)) 48
  rw [e4] at e1
  rw [e3] at e2
  generalize cnt (fun i => inB [(lo, hi)] (i : Int) && !inB L (i : Int)) 48 = a at *
  generalize cnt (fun i => inB [(lo, hi)] (i : Int) && inB L (i : Int)) 48 = b at *
  generalize cnt (fun i => inB [(lo, hi)] (i : Int)) 48 = c at *
  clear e4 hin
  rw [mts_set h1 h2, have_hs h1 h2, Bool.eq_iff_iff, hs_iff, beq_iff_eq]
  have hab : manyB (mts lo hi L) = hi - lo ↔ a = 0 := by omega
  rw [hab, hz]
  constructor
  · intro h i hi' a b
    have := h i hi'
    simp only [Bool.and_eq_false_iff] at this
    rcases this with h5 | h5
    · simp [inB] at h5; omega
    · simpa using h5
  · intro h i hi'
    by_cases hc : inB [(lo, hi)] (i : Int) = true
    · have hc' := hc
      simp [inB] at hc'
      rw [h i hi' hc'.1 hc'.2]; simp
    · simp [hc]

end Go.Proofs.YtehpmdmfolmaoaaDoor
