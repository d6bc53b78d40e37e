/-
  Plain facts: a list of ranges without one range, as a list; how many ranges that can leave.
-/
import Derived.Test.YteglfdcoeogilaaDoorMeetMath
import Derived.Test.YteglfdcoeogilaaDoorWpIn
namespace Go.Proofs.YteglfdcoeogilaaDoor

def c1 (lo : Int) (s : Rng) : List Rng := if s.1 < mn s.2 lo then [(s.1, mn s.2 lo)] else []
def c2 (hi : Int) (s : Rng) : List Rng := if mx s.1 hi < s.2 then [(mx s.1 hi, s.2)] else []
def cts (lo hi : Int) : List Rng → List Rng
  | [] => []
  | s :: r => c1 lo s ++ (c2 hi s ++ cts lo hi r)

theorem cts_ok (lo hi : Int) (h : spanOkB lo hi = true) : ∀ (L : List Rng) (e : Int), okFrom e L = true → okFrom e (cts lo hi L) = true
  | [], _, _ => rfl
  | s :: r, e, hm => by
    simp only [okFrom, Bool.and_eq_true, decide_eq_true_eq] at hm
    have ih := cts_ok lo hi h r s.2 hm.2.2
    obtain ⟨h0, h1, h2⟩ := spanOkB_iff.1 hm.1
    obtain ⟨g0, g1, g2⟩ := spanOkB_iff.1 h
    have a1 : s.1 ≤ mx s.1 hi ∧ hi ≤ mx s.1 hi := by unfold mx; split <;> omega
    have a2 : mn s.2 lo ≤ s.2 ∧ mn s.2 lo ≤ lo := by unfold mn; split <;> omega
    have t2 : ∀ d : Int, d < mx s.1 hi → d ≤ s.2 → okFrom d (c2 hi s ++ cts lo hi r) = true := fun d hd hd2 => by
      unfold c2
      split
      · simp only [List.cons_append, List.nil_append, okFrom, Bool.and_eq_true, decide_eq_true_eq]
        exact ⟨spanOkB_iff.2 ⟨by omega, by omega, by omega⟩, hd, ih⟩
      · exact okFrom_mono hd2 _ ih
    simp only [cts]
    unfold c1
    split
    · simp only [List.cons_append, List.nil_append, okFrom, Bool.and_eq_true, decide_eq_true_eq]
      exact ⟨spanOkB_iff.2 ⟨by omega, by omega, by omega⟩, by omega, t2 _ (by omega) a2.1⟩
    · exact t2 e (by omega) (by omega)

theorem inB_app (a b : List Rng) (i : Int) : inB (a ++ b) i = (inB a i || inB b i) := by unfold inB; rw [List.any_append]
theorem c1_in (lo i : Int) (s : Rng) : inB (c1 lo s) i = ((decide (s.1 ≤ i) && decide (i < s.2)) && decide (i < lo)) := by
  have e : (i < mn s.2 lo) ↔ (i < s.2 ∧ i < lo) := by unfold mn; split <;> omega
  unfold c1
  split
  · rename_i hc
    rw [Bool.eq_iff_iff]
    simp only [inB, List.any_cons, List.any_nil, Bool.or_false, Bool.and_eq_true, decide_eq_true_eq]
    rw [e]; omega
  · rename_i hc
    rw [Bool.eq_iff_iff]
    simp only [inB, List.any_nil, Bool.and_eq_true, decide_eq_true_eq]
    constructor
    · intro h; exact absurd h (by decide)
    · intro h; have := e.2 ⟨h.1.2, h.2⟩; omega
theorem c2_in (hi i : Int) (s : Rng) : inB (c2 hi s) i = ((decide (s.1 ≤ i) && decide (i < s.2)) && decide (hi ≤ i)) := by
  have e : (mx s.1 hi ≤ i) ↔ (s.1 ≤ i ∧ hi ≤ i) := by unfold mx; split <;> omega
  unfold c2
  split
  · rename_i hc
    rw [Bool.eq_iff_iff]
    simp only [inB, List.any_cons, List.any_nil, Bool.or_false, Bool.and_eq_true, decide_eq_true_eq]
    rw [e]; omega
  · rename_i hc
    rw [Bool.eq_iff_iff]
    simp only [inB, List.any_nil, Bool.and_eq_true, decide_eq_true_eq]
    constructor
    · intro h; exact absurd h (by decide)
    · intro h; have := e.2 ⟨h.1.1, h.2⟩; omega
theorem cts_in (lo hi : Int) (i : Int) : ∀ L : List Rng, inB (cts lo hi L) i = (inB L i && (decide (i < lo) || decide (hi ≤ i)))
  | [] => rfl
  | s :: r => by
    have hs : inB (s :: r) i = ((decide (s.1 ≤ i) && decide (i < s.2)) || inB r i) := rfl
    simp only [cts]
    rw [inB_app, inB_app, c1_in, c2_in, cts_in lo hi i r, hs]
    cases decide (s.1 ≤ i) && decide (i < s.2) <;> cases decide (i < lo) <;> cases decide (hi ≤ i) <;> cases inB r i <;> rfl

theorem cts_rg {L : List Rng} {lo hi : Int} (h1 : spansOkB L = true) (h2 : spanOkB lo hi = true) : rg (cutF L lo hi) 48 = cts lo hi L := by
  simp only [spansOkB, Bool.and_eq_true, decide_eq_true_eq] at h1
  rw [← rg_inB (cts lo hi L) (-1) (by omega) (cts_ok lo hi h2 L _ h1.2)]
  refine rg_congr fun i _ => ?_
  rw [cts_in]
  unfold cutF
  have e1 : decide ((i : Int) < lo) = !decide (lo ≤ (i : Int)) := by rw [Bool.eq_iff_iff]; simp
  have e2 : decide (hi ≤ (i : Int)) = !decide ((i : Int) < hi) := by rw [Bool.eq_iff_iff]; simp
  rw [e1, e2, Bool.not_and]

/-- Where every range meets, only the first can stand out below and only the last above. -/
theorem cts_one (lo hi : Int) : ∀ (L : List Rng) (e : Int), lo ≤ e → okFrom e L = true → (mts lo hi L).length = L.length → (cts lo hi L).length ≤ 1
  | [], _, _, _, _ => by simp [cts]
  | s :: r, e, he, hm, hl => by
    simp only [okFrom, Bool.and_eq_true, decide_eq_true_eq] at hm
    obtain ⟨h0, h1, h2⟩ := spanOkB_iff.1 hm.1
    have hr := mts_len lo hi r
    by_cases hc : mx s.1 lo < mn s.2 hi
    · have hl' : (mts lo hi r).length = r.length := by
        simp only [mts, if_pos hc, List.length_cons] at hl; omega
      have n1 : c1 lo s = [] := by
        unfold c1; rw [if_neg]; unfold mn; split <;> omega
      simp only [cts, n1, List.nil_append, List.length_append]
      by_cases h3 : mx s.1 hi < s.2
      · have hnil : r = [] := by
          cases r with
          | nil => rfl
          | cons t q =>
            exfalso
            simp only [okFrom, Bool.and_eq_true, decide_eq_true_eq] at hm
            have hq := mts_len lo hi q
            have hhi : hi < s.2 := by unfold mx at h3; split at h3 <;> omega
            have hn : ¬ mx t.1 lo < mn t.2 hi := by
              have : t.1 ≤ mx t.1 lo := by unfold mx; split <;> omega
              have : mn t.2 hi ≤ hi := by unfold mn; split <;> omega
              omega
            simp only [mts, if_neg hn, List.length_cons] at hl'
            omega
        subst hnil
        unfold c2; rw [if_pos h3]; simp [cts]
      · have ih := cts_one lo hi r s.2 (by omega) hm.2.2 hl'
        unfold c2; rw [if_neg h3]; simpa using ih
    · simp only [mts, if_neg hc, List.length_cons] at hl
      omega
theorem cts_two (lo hi : Int) : ∀ (L : List Rng) (e : Int), okFrom e L = true → (mts lo hi L).length = L.length → (cts lo hi L).length ≤ 2
  | [], _, _, _ => by simp [cts]
  | s :: r, e, hm, hl => by
    simp only [okFrom, Bool.and_eq_true, decide_eq_true_eq] at hm
    obtain ⟨h0, h1, h2⟩ := spanOkB_iff.1 hm.1
    have hr := mts_len lo hi r
    have k1 : (c1 lo s).length ≤ 1 := by unfold c1; split <;> simp
    by_cases hc : mx s.1 lo < mn s.2 hi
    · have hl' : (mts lo hi r).length = r.length := by
        simp only [mts, if_pos hc, List.length_cons] at hl; omega
      have hlo : lo < s.2 := by
        have : lo ≤ mx s.1 lo := by unfold mx; split <;> omega
        have : mn s.2 hi ≤ s.2 := by unfold mn; split <;> omega
        omega
      have ih := cts_one lo hi r s.2 (by omega) hm.2.2 hl'
      simp only [cts, List.length_append]
      by_cases h3 : mx s.1 hi < s.2
      · have hnil : r = [] := by
          cases r with
          | nil => rfl
          | cons t q =>
            exfalso
            simp only [okFrom, Bool.and_eq_true, decide_eq_true_eq] at hm
            have hq := mts_len lo hi q
            have hhi : hi < s.2 := by unfold mx at h3; split at h3 <;> omega
            have hn : ¬ mx t.1 lo < mn t.2 hi := by
              have : t.1 ≤ mx t.1 lo := by unfold mx; split <;> omega
              have : mn t.2 hi ≤ hi := by unfold mn; split <;> omega
              omega
            simp only [mts, if_neg hn, List.length_cons] at hl'
            omega
        subst hnil
        have : (c2 hi s).length ≤ 1 := by unfold c2; split <;> simp
        simp only [cts, List.length_nil]
        omega
      · have : (c2 hi s).length = 0 := by unfold c2; rw [if_neg h3]; rfl
        omega
    · simp only [mts, if_neg hc, List.length_cons] at hl
      omega

end Go.Proofs.YteglfdcoeogilaaDoor
