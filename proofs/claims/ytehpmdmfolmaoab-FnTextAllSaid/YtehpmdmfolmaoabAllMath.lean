/-
  Writes at places apart from one another: their order does not matter. Plain mathematics.
-/
import Derived.Test.YtehpmdmfolmaoabTextLaws
import Derived.Test.YtehpmdmfolmaoabPatches
namespace Go.Proofs.Ytehpmdmfolmaoab

/-- Two patches have no place in common. -/
def apart (p q : Pch) : Prop := p.1.toNat + p.2.length ≤ q.1.toNat ∨ q.1.toNat + q.2.length ≤ p.1.toNat
def wr1 (l : List UInt8) (p : Pch) : List UInt8 := wrL l p.1.toNat p.2

theorem wr_comm (l : List UInt8) (p q : Pch) (h : apart p q) : wr1 (wr1 l p) q = wr1 (wr1 l q) p := by
  unfold wr1
  unfold apart at h
  obtain ⟨pa, d⟩ := p
  obtain ⟨qa, e⟩ := q
  simp only at h ⊢
  generalize pa.toNat = a at *
  generalize qa.toNat = b at *
  have h1 := wrL_len l a d
  have h2 := wrL_len l b e
  refine ext_getD (by simp only [wrL_len]; omega) fun i hi => ?_
  rw [wrL_len, h2] at hi
  rw [wrL_getD (wrL l a d) b e i (by rw [h1]; omega), wrL_getD (wrL l b e) a d i (by rw [h2]; omega), h1, h2]
  by_cases cb : b ≤ i ∧ i < b + e.length
  · rw [if_pos cb, if_neg (show ¬ (a ≤ i ∧ i < a + d.length) by omega), if_pos (by omega), wrL_getD l b e i (by omega), if_pos cb]
  · rw [if_neg cb]
    by_cases ca : a ≤ i ∧ i < a + d.length
    · rw [if_pos ca, if_pos (by omega), wrL_getD l a d i (by omega), if_pos ca]
    · rw [if_neg ca]
      by_cases c1 : i < max l.length (a + d.length) <;> by_cases c2 : i < max l.length (b + e.length)
      · rw [if_pos c1, if_pos c2, wrL_getD l a d i c1, if_neg ca, wrL_getD l b e i c2, if_neg cb]
      · rw [if_pos c1, if_neg c2, wrL_getD l a d i c1, if_neg ca, if_neg (by omega)]
      · rw [if_neg c1, if_pos c2, wrL_getD l b e i c2, if_neg cb, if_neg (by omega)]
      · rw [if_neg c1, if_neg c2]

theorem foldl_comm : ∀ (P : List Pch) (l : List UInt8) (p : Pch), (∀ q ∈ P, apart p q) → P.foldl wr1 (wr1 l p) = wr1 (P.foldl wr1 l) p
  | [], _, _, _ => rfl
  | q :: P, l, p, h => by
    show P.foldl wr1 (wr1 (wr1 l p) q) = wr1 (P.foldl wr1 (wr1 l q)) p
    rw [wr_comm l p q (h q (by simp)), foldl_comm P (wr1 l q) p (fun r hr => h r (by simp [hr]))]
theorem foldl_rev : ∀ (P : List Pch) (l : List UInt8), P.Pairwise apart → P.reverse.foldl wr1 l = P.foldl wr1 l
  | [], _, _ => rfl
  | p :: P, l, h => by
    have h' := List.pairwise_cons.1 h
    rw [List.reverse_cons, List.foldl_append, foldl_rev P l h'.2]
    show wr1 (P.foldl wr1 l) p = P.foldl wr1 (wr1 l p)
    rw [foldl_comm P l p h'.1]

theorem getD_take (P : List Pch) (k : Nat) (h : k < P.length) : P.take (k + 1) = P.take k ++ [P.getD k (0, [])] := by
  rw [List.take_add_one, List.getElem?_eq_getElem h, List.getD_eq_getElem?_getD, List.getElem?_eq_getElem h]; rfl

/-- Where each can be done all are done. -/
theorem run_fold (P : List Pch) (l : List UInt8) (h : ∀ i, i < P.length → wokB (P.getD i (0, [])).1 (P.getD i (0, [])).2 = true) : ∀ k, k ≤ P.length → runE (edF P) k l = some ((P.take k).foldl wr1 l)
  | 0, _ => rfl
  | k + 1, hk => by
    show (runE (edF P) k l).bind (edF P k) = _
    rw [run_fold P l h k (by omega), getD_take P k (by omega), List.foldl_append]
    show wrF _ _ _ = _
    rw [wrF_yes (h k (by omega))]
    rfl
theorem wok_of_run {P : List Pch} {l X : List UInt8} (h : runE (edF P) P.length l = some X) : ∀ i, i < P.length → wokB (P.getD i (0, [])).1 (P.getD i (0, [])).2 = true := by
  intro i hi
  cases hr : runE (edF P) i l with
  | none => rw [runE_none hr P.length (by omega)] at h; cases h
  | some L =>
    by_cases hw : wokB (P.getD i (0, [])).1 (P.getD i (0, [])).2 = true
    · exact hw
    · have hs : runE (edF P) (i + 1) l = none := by
        show (runE (edF P) i l).bind (edF P i) = _
        rw [hr]
        exact wrF_no (by simpa using hw)
      rw [runE_none hs P.length (by omega)] at h; cases h
/-- Turned round they leave the same. -/
theorem run_rev {P : List Pch} {l X : List UInt8} (h : runE (edF P) P.length l = some X) (hp : ∀ i k, k < i → i < P.length → apart (P.getD k (0, [])) (P.getD i (0, []))) : runE (edF P.reverse) P.length l = some X := by
  have hw := wok_of_run h
  have h1 := run_fold P l hw P.length (Nat.le_refl _)
  rw [h, List.take_of_length_le (Nat.le_refl _)] at h1
  have hgr : ∀ i, i < P.length → P.reverse.getD i (0, []) = P.getD (P.length - 1 - i) (0, []) := fun i hi => by
    rw [List.getD_eq_getElem?_getD, List.getElem?_reverse hi, List.getD_eq_getElem?_getD]
  have h2 := run_fold P.reverse l (fun i hi => by
    rw [List.length_reverse] at hi
    rw [hgr i hi]; exact hw _ (by omega)) P.length (by rw [List.length_reverse]; exact Nat.le_refl _)
  rw [List.take_of_length_le (by rw [List.length_reverse]; exact Nat.le_refl _)] at h2
  rw [h2, h1]
  congr 1
  refine foldl_rev P l ?_
  rw [List.pairwise_iff_getElem]
  intro i j hi hj hij
  have := hp j i hij hj
  rw [List.getD_eq_getElem?_getD, List.getElem?_eq_getElem hi, List.getD_eq_getElem?_getD, List.getElem?_eq_getElem hj] at this
  exact this

end Go.Proofs.Ytehpmdmfolmaoab
