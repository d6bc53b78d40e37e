/-
  Plain facts: a table is one just if nobody stands in the way of what each may write.
-/
import Derived.Test.YteabigobnjebaaaLBars
import Derived.Test.YteabigobnjebaaaModes
namespace Go.Proofs.Yteabigobnjebaaa

theorem anyB_any (R : List RunT) (want lo hi : Int) : anyB (vsR lo hi R) want = R.any fun r => mtgB lo hi r && brs r.2.2 want := by
  unfold anyB vsR
  rw [List.any_map, List.any_filter]
  rfl

theorem brOf_iff {R : List RunT} {f : Int → Int} (hm : Modes R f) {want lo hi : Int} (hs : spanOkB lo hi = true) : anyB (vsR lo hi R) want = true ↔ ∃ p : Int, lo ≤ p ∧ p < hi ∧ brs (f p) want = true := by
  have hs' := spanOkB_iff.1 hs
  rw [anyB_any, any_pos (fun x => brs x want) lo hi hs'.2.1 R 0 48 hm.1 (by omega) (by omega)]
  constructor
  · rintro ⟨i, h0, h1, h2, h3, h4⟩
    exact ⟨i, h2, h3, by rw [← hm.2 i h0 h1]; exact h4⟩
  · rintro ⟨i, h2, h3, h4⟩
    exact ⟨i, by omega, by omega, h2, h3, by rw [hm.2 i (by omega) (by omega)]; exact h4⟩

theorem brK_nil (who : Int) (b : Nat → Bool) : ∀ m, brK who b m = [] ↔ ∀ i, i < m → (i : Int) ≠ who → b i = false
  | 0 => by simp [brK]
  | m + 1 => by
    unfold brK
    constructor
    · intro h i hi hne
      split at h
      · simp at h
      · rename_i hc
        by_cases e : i = m
        · subst e
          cases hb : b i with
          | false => rfl
          | true => exact absurd ⟨hne, hb⟩ hc
        · exact (brK_nil who b m).1 h i (by omega) hne
    · intro h
      rw [if_neg (fun c => by rw [h m (by omega) c.1] at c; cases c.2)]
      exact (brK_nil who b m).2 fun i hi hne => h i (by omega) hne

theorem brs_two {h : HoldT} {p : Int} : brs (mfn h p) 2 = true ↔ (inB h.2 p = true ∨ inB h.1 p = true) := by
  unfold brs mfn
  by_cases h2 : inB h.2 p = true
  · simp [h2]
  · by_cases h1 : inB h.1 p = true
    · simp [h1, h2]
    · simp [h1, h2]

theorem lockOk_iff (T : List HoldT) : lockOkB T = true ↔ T.length = 3 ∧ (∀ i, i < 3 → okH (T.getD i hd0) = true) ∧ ∀ i, i < 3 → ∀ k, k < 3 → k ≠ i → clrB (T.getD i hd0).2 (T.getD k hd0).2 = true ∧ clrB (T.getD i hd0).2 (T.getD k hd0).1 = true := by
  unfold lockOkB
  simp only [Bool.and_eq_true, decide_eq_true_eq, allN_iff, crsB, Bool.or_eq_true]
  constructor
  · rintro ⟨h1, h2⟩
    exact ⟨h1, fun i hi => (h2 i hi).1, fun i hi k hk hne => ((h2 i hi).2 k hk).resolve_left hne⟩
  · rintro ⟨h1, h2, h3⟩
    refine ⟨h1, fun i hi => ⟨h2 i hi, fun k hk => ?_⟩⟩
    by_cases e : k = i
    · exact .inl e
    · exact .inr (h3 i hi k hk e)

theorem okH_iff {h : HoldT} : okH h = true ↔ spansOkB h.1 = true ∧ spansOkB h.2 = true ∧ clrB h.1 h.2 = true := by unfold okH; simp

theorem rows_ok (T : List HoldT) (hT : T.length = 3) (hok : ∀ i, i < 3 → okH (T.getD i hd0) = true) (Rs : Nat → List RunT) (hm : ∀ i, i < 3 → Modes (Rs i) (mfn (T.getD i hd0))) :
    lockOkB T = true ↔ ∀ i, i < 3 → ∀ s ∈ (T.getD i hd0).2, brK (i : Int) (brOf Rs 2 s.1 s.2) 3 = [] := by
  rw [lockOk_iff]
  have hv : ∀ i, i < 3 → (∀ s ∈ (T.getD i hd0).1, spanOkB s.1 s.2 = true) ∧ (∀ s ∈ (T.getD i hd0).2, spanOkB s.1 s.2 = true) := fun i hi => by
    have := okH_iff.1 (hok i hi)
    exact ⟨spansOkB_all this.1, spansOkB_all this.2.1⟩
  constructor
  · rintro ⟨-, -, h⟩ i hi s hs
    rw [brK_nil]
    intro k hk hne
    have hne' : k ≠ i := fun e => hne (by rw [e])
    obtain ⟨c1, c2⟩ := h i hi k hk hne'
    have d1 := (clrB_iff (hv i hi).2 (hv k hk).2).1 c1
    have d2 := (clrB_iff (hv i hi).2 (hv k hk).1).1 c2
    rw [Bool.eq_false_iff]
    intro c
    obtain ⟨p, p1, p2, p3⟩ := (brOf_iff (hm k hk) ((hv i hi).2 s hs)).1 c
    have hin : inB (T.getD i hd0).2 p = true := inB_iff.2 ⟨s, hs, p1, p2⟩
    rcases brs_two.1 p3 with e | e
    · exact d1 p ⟨hin, e⟩
    · exact d2 p ⟨hin, e⟩
  · intro h
    refine ⟨hT, hok, fun i hi k hk hne => ?_⟩
    have key : ∀ p : Int, inB (T.getD i hd0).2 p = true → ¬ (inB (T.getD k hd0).2 p = true ∨ inB (T.getD k hd0).1 p = true) := fun p hp hc => by
      obtain ⟨s, hs, s1, s2⟩ := inB_iff.1 hp
      have := (brK_nil _ _ _).1 (h i hi s hs) k hk (by omega)
      have h2 : brOf Rs 2 s.1 s.2 k = true := (brOf_iff (hm k hk) ((hv i hi).2 s hs)).2 ⟨p, s1, s2, brs_two.2 hc⟩
      rw [h2] at this
      cases this
    exact ⟨(clrB_iff (hv i hi).2 (hv k hk).2).2 fun p ⟨a, b⟩ => key p a (.inl b), (clrB_iff (hv i hi).2 (hv k hk).1).2 fun p ⟨a, b⟩ => key p a (.inr b)⟩

end Go.Proofs.Yteabigobnjebaaa
