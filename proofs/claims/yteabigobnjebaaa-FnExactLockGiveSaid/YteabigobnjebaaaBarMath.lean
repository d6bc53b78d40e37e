/-
  Plain facts: who stands in one's way.
-/
import Derived.Test.YteabigobnjebaaaLockEq
import Derived.Test.YteabigobnjebaaaImplMay
namespace Go.Proofs.Yteabigobnjebaaa

def stB (h : HoldT) (wr : Bool) (lo hi : Int) : Bool := !clrB h.2 [(lo, hi)] || (wr && !clrB h.1 [(lo, hi)])
def barsL (T : List HoldT) (who : Int) (wr : Bool) (lo hi : Int) : List Int := if (lockOkB T && (whoB who && spanOkB lo hi)) = true then brK who (fun i => stB (T.getD i hd0) wr lo hi) 3 else []

theorem brK_congr (who : Int) (b b' : Nat → Bool) : ∀ k, (∀ i, i < k → b i = b' i) → brK who b k = brK who b' k
  | 0, _ => rfl
  | k + 1, h => by
    unfold brK
    rw [brK_congr who b b' k (fun i hi => h i (by omega)), h k (by omega)]

theorem clr_one {A : List Rng} (hA : ∀ s ∈ A, spanOkB s.1 s.2 = true) {lo hi : Int} (hs : spanOkB lo hi = true) : clrB A [(lo, hi)] = false ↔ ∃ p : Int, lo ≤ p ∧ p < hi ∧ inB A p = true := by
  have hB : ∀ s ∈ [((lo, hi) : Rng)], spanOkB s.1 s.2 = true := fun s h => by
    obtain rfl : s = (lo, hi) := by simpa using h
    exact hs
  have hk := clrB_iff hA hB
  have hi1 : ∀ p : Int, inB [((lo, hi) : Rng)] p = true ↔ (lo ≤ p ∧ p < hi) := fun p => by rw [inB_iff]; simp
  constructor
  · intro h
    apply Classical.byContradiction
    intro c
    have : clrB A [(lo, hi)] = true := hk.2 fun i ⟨h1, h2⟩ => c ⟨i, ((hi1 i).1 h2).1, ((hi1 i).1 h2).2, h1⟩
    rw [this] at h; cases h
  · rintro ⟨p, h1, h2, h3⟩
    rw [Bool.eq_false_iff]
    intro c
    exact hk.1 c p ⟨h3, (hi1 p).2 ⟨h1, h2⟩⟩

theorem brs_one {h : HoldT} {p : Int} : brs (mfn h p) 1 = true ↔ inB h.2 p = true := by
  unfold brs mfn
  by_cases h2 : inB h.2 p = true
  · simp [h2]
  · by_cases h1 : inB h.1 p = true
    · simp [h1, h2]
    · simp [h1, h2]

theorem bar_eq {R : List RunT} {h : HoldT} (hm : Modes R (mfn h)) (hok : okH h = true) {wr : Bool} {lo hi : Int} (hs : spanOkB lo hi = true) : anyB (vsR lo hi R) (wantOf wr) = stB h wr lo hi := by
  have ho := okH_iff.1 hok
  have h1 := clr_one (spansOkB_all ho.1) hs
  have h2 := clr_one (spansOkB_all ho.2.1) hs
  have hb := brOf_iff hm (want := wantOf wr) hs
  rw [Bool.eq_iff_iff, hb]
  unfold stB
  cases wr
  · simp only [Bool.false_and, Bool.or_false, Bool.not_eq_true', h2]
    unfold wantOf
    simp only [Bool.false_eq_true, if_false, brs_one]
  · simp only [Bool.true_and, Bool.or_eq_true, Bool.not_eq_true', h1, h2]
    unfold wantOf
    simp only [if_true, brs_two]
    constructor
    · rintro ⟨p, a, b, c | c⟩
      · exact .inl ⟨p, a, b, c⟩
      · exact .inr ⟨p, a, b, c⟩
    · rintro (⟨p, a, b, c⟩ | ⟨p, a, b, c⟩)
      · exact ⟨p, a, b, .inl c⟩
      · exact ⟨p, a, b, .inr c⟩

theorem bars_rows {T : List HoldT} {Rs : Nat → List RunT} (h : lockOkB T = true) (hm : ∀ i, i < 3 → Modes (Rs i) (mfn (T.getD i hd0))) {who : Int} (hw : whoB who = true) {wr : Bool} {lo hi : Int} (hs : spanOkB lo hi = true) :
    barsL T who wr lo hi = brK who (brOf Rs (wantOf wr) lo hi) 3 := by
  unfold barsL
  rw [if_pos (by rw [h, hw, hs]; rfl)]
  exact brK_congr _ _ _ 3 fun i hi' => (bar_eq (hm i hi') (((lockOk_iff T).1 h).2.1 i hi') hs).symm

theorem barsL_len (T : List HoldT) (who : Int) (wr : Bool) (lo hi : Int) : (barsL T who wr lo hi).length ≤ 3 := by
  unfold barsL; split
  · exact brK_len _ _ _
  · simp

abbrev intL (L : List Int) : List Value := L.map (fun x => Value.int .i64 x)

end Go.Proofs.Yteabigobnjebaaa
