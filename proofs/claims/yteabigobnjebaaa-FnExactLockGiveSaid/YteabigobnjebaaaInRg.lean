/-
  Plain facts: what a set of positions and its ranges have in common.
-/
import Derived.Test.YteabigobnjebaaaOkRg
import Derived.Test.YteabigobnjebaaaGiveMath
import Derived.Test.YteabigobnjebaaaBarMath
namespace Go.Proofs.Yteabigobnjebaaa

theorem rg_succN (f : Nat → Bool) (k : Nat) : rg f (k + 1) = if f k = true then (if endsAt (rg f k) k = true then (rg f k).set ((rg f k).length - 1) (((rg f k).getD ((rg f k).length - 1) (0, 0)).1, (k : Int) + 1) else rg f k ++ [((k : Int), (k : Int) + 1)]) else rg f k := rfl
theorem inB_appN (a : List Rng) (s : Rng) (i : Int) : inB (a ++ [s]) i = (inB a i || (decide (s.1 ≤ i) && decide (i < s.2))) := by
  unfold inB; rw [List.any_append]; simp


/-- A position is in the ranges of a set if it is in the set. -/
theorem inB_rgN (f : Nat → Bool) : ∀ k : Nat, k ≤ 48 → (∀ i : Nat, i < k → inB (rg f k) (i : Int) = f i) ∧ (∀ i : Int, (k : Int) ≤ i → inB (rg f k) i = false)
  | 0, _ => ⟨fun i h => by omega, fun i _ => rfl⟩
  | k + 1, hk => by
    obtain ⟨h1, h2⟩ := inB_rgN f k (by omega)
    rw [rg_succN]
    by_cases hf : f k = true
    · rw [if_pos hf]
      by_cases he : endsAt (rg f k) k = true
      · rw [if_pos he]
        rcases List.eq_nil_or_concat (rg f k) with e | ⟨a, s, e⟩
        · rw [e] at he; simp [endsAt] at he
        · rw [List.concat_eq_append] at e
          rw [e] at h1 h2 he ⊢
          rw [endsAt_append] at he
          rw [set_append, getD_append]
          simp only [decide_eq_true_eq] at he
          have ho := (okFrom_rg f k (by omega)).1
          rw [e, okFrom_append] at ho
          simp only [Bool.and_eq_true] at ho
          have hs := spanOkB_iff.1 ho.2.1
          constructor
          · intro i hi
            rw [inB_appN]
            by_cases hlt : i < k
            · rw [← h1 i hlt, inB_appN]
              congr 2
              rw [Bool.eq_iff_iff]; simp only [decide_eq_true_eq]; omega
            · obtain rfl : i = k := by omega
              rw [hf]
              simp; right; omega
          · intro i hi
            have := h2 i (by omega)
            rw [inB_appN] at this ⊢
            simp only [Bool.or_eq_false_iff] at this ⊢
            refine ⟨this.1, ?_⟩
            simp; omega
      · rw [if_neg he]
        constructor
        · intro i hi
          rw [inB_appN]
          by_cases hlt : i < k
          · rw [h1 i hlt]; simp; omega
          · obtain rfl : i = k := by omega
            rw [hf]; simp; right; omega
        · intro i hi
          rw [inB_appN, h2 i (by omega)]
          simp; omega
    · rw [if_neg hf]
      constructor
      · intro i hi
        by_cases hlt : i < k
        · exact h1 i hlt
        · obtain rfl : i = k := by omega
          rw [h2 i (by omega)]
          simpa using hf
      · intro i hi
        exact h2 i (by omega)

theorem mH_1 (f : Int → Int) {i : Int} (h0 : 0 ≤ i) (h1 : i < 48) : inB (mH f).1 i = decide (f i = 1) := by
  obtain ⟨n, rfl⟩ : ∃ n : Nat, i = (n : Int) := ⟨i.toNat, by omega⟩
  exact (inB_rgN (fun i => decide (f (i : Int) = 1)) 48 (Nat.le_refl _)).1 n (by omega)
theorem mH_2 (f : Int → Int) {i : Int} (h0 : 0 ≤ i) (h1 : i < 48) : inB (mH f).2 i = decide (f i = 2) := by
  obtain ⟨n, rfl⟩ : ∃ n : Nat, i = (n : Int) := ⟨i.toNat, by omega⟩
  exact (inB_rgN (fun i => decide (f (i : Int) = 2)) 48 (Nat.le_refl _)).1 n (by omega)

/-- Where another one stands in the way, the changed table is not valid. -/
theorem give_conf {T : List HoldT} {k : Nat} {wr : Bool} {lo hi : Int} (hq : lockOkB T = true) (hk : k < 3) (hs : spanOkB lo hi = true) (hb : brK (k : Int) (fun i => stB (T.getD i hd0) wr lo hi) 3 ≠ []) :
    lockOkB (T.set k (mH (putM (T.getD k hd0) lo hi (fun x => mx x (wantOf wr))))) = false := by
  obtain ⟨h3, hok, -⟩ := (lockOk_iff T).1 hq
  obtain ⟨i, hi3, hne, hst⟩ := brK_any hb
  have hik : i ≠ k := fun e => hne (by rw [e])
  rw [Bool.eq_false_iff]
  intro hN
  obtain ⟨-, hokN, hcr⟩ := (lockOk_iff _).1 hN
  have eK := set_at (T := T) (i := k) (x := mH (putM (T.getD k hd0) lo hi (fun x => mx x (wantOf wr)))) (by omega)
  have eI := set_off (T := T) (i := i) (k := k) (x := mH (putM (T.getD k hd0) lo hi (fun x => mx x (wantOf wr)))) hik
  have okK := okH_iff.1 (hokN k hk)
  have okI := okH_iff.1 (hok i hi3)
  have c1 := hcr i hi3 k hk (Ne.symm hik)
  have c2 := hcr k hk i hi3 hik
  rw [eK] at okK c1 c2
  rw [eI] at c1 c2
  have aI1 := spansOkB_all okI.1
  have aI2 := spansOkB_all okI.2.1
  have aK1 := spansOkB_all okK.1
  have aK2 := spansOkB_all okK.2.1
  have d1 := (clrB_iff aI2 aK2).1 c1.1
  have d2 := (clrB_iff aI2 aK1).1 c1.2
  have d3 := (clrB_iff aK2 aI1).1 c2.2
  obtain ⟨s0, s1, s2⟩ := spanOkB_iff.1 hs
  have hp : ∀ p : Int, lo ≤ p → p < hi → putM (T.getD k hd0) lo hi (fun x => mx x (wantOf wr)) p = mx (mfn (T.getD k hd0) p) (wantOf wr) := fun p h1 h2 => by unfold putM; rw [if_pos ⟨h1, h2⟩]
  unfold stB at hst
  rw [Bool.or_eq_true] at hst
  rcases hst with h | h
  · have h' : clrB (T.getD i hd0).2 [(lo, hi)] = false := by simpa using h
    obtain ⟨p, p1, p2, p3⟩ := (clr_one aI2 hs).1 h'
    have e := hp p p1 p2
    rcases mfn_cases (T.getD k hd0) p with m | m | m <;> rw [m] at e
    · cases wr
      · exact d2 p ⟨p3, by rw [mH_1 _ (by omega) (by omega), e]; simp [wantOf, mx]⟩
      · exact d1 p ⟨p3, by rw [mH_2 _ (by omega) (by omega), e]; simp [wantOf, mx]⟩
    · cases wr
      · exact d2 p ⟨p3, by rw [mH_1 _ (by omega) (by omega), e]; simp [wantOf, mx]⟩
      · exact d1 p ⟨p3, by rw [mH_2 _ (by omega) (by omega), e]; simp [wantOf, mx]⟩
    · exact d1 p ⟨p3, by rw [mH_2 _ (by omega) (by omega), e]; cases wr <;> simp [wantOf, mx]⟩
  · rw [Bool.and_eq_true] at h
    obtain ⟨hw, h⟩ := h
    subst hw
    have h' : clrB (T.getD i hd0).1 [(lo, hi)] = false := by simpa using h
    obtain ⟨p, p1, p2, p3⟩ := (clr_one aI1 hs).1 h'
    have e := hp p p1 p2
    refine d3 p ⟨?_, p3⟩
    rw [mH_2 _ (by omega) (by omega), e]
    rcases mfn_cases (T.getD k hd0) p with m | m | m <;> rw [m] <;> simp [wantOf, mx]

theorem chT_conf {T : List HoldT} {k : Nat} {wr : Bool} {lo hi : Int} (hq : lockOkB T = true) (hk : k < 3) (hs : spanOkB lo hi = true) (hb : brK (k : Int) (fun i => stB (T.getD i hd0) wr lo hi) 3 ≠ []) :
    chT T (k : Int) lo hi (fun x => mx x (wantOf wr)) = (T, false) := by
  unfold chT
  rw [if_pos hq, if_pos (by rw [hs, whoB_iff.2 (by omega)]; rfl), Int.toNat_natCast, if_neg (by rw [give_conf hq hk hs hb]; simp)]

/-- The list with one range after another taken out. -/
def wiL (B : List Rng) : Nat → List Rng → List Rng
  | 0, L => L
  | k + 1, L => rg (cutF (wiL B k L) (B.getD k (0, 0)).1 (B.getD k (0, 0)).2) 48
theorem wiL_in (B : List Rng) (f : Nat → Bool) : ∀ (k : Nat), k ≤ B.length → wiL B k (rg f 48) = rg (fun i => f i && !inB (B.take k) (i : Int)) 48
  | 0, _ => rg_congr fun i _ => by simp [inB]
  | k + 1, hk => by
    unfold wiL
    rw [wiL_in B f k (by omega)]
    refine rg_congr fun i hi => ?_
    unfold cutF
    rw [(inB_rgN _ 48 (Nat.le_refl _)).1 i hi, List.take_add_one]
    have : B[k]?.toList = [B.getD k (0, 0)] := by rw [List.getD_eq_getElem?_getD, List.getElem?_eq_getElem (by omega)]; rfl
    rw [this, inB_appN]
    cases f i <;> cases inB (B.take k) (i : Int) <;> simp

end Go.Proofs.Yteabigobnjebaaa
