/-
  How long a file is, by how long its objects are: the plain function that both sides are shown to return.
-/
import Derived.Test.YtjbkahfbaploaaaLayMath
namespace Go.Proofs.Ytjbkahfbaploaaa

/-- All lengths are in bounds; the greatest end so far. -/
def okL (L : Nat → Int) : Nat → Bool
  | 0 => true
  | k + 1 => okL L k && decide (0 ≤ L k ∧ L k ≤ 48)
def lmax (size many : Int) (L : Nat → Int) : Nat → Int
  | 0 => 0
  | k + 1 => if 0 < L k then (if backF size many k (L k - 1) + 1 < lmax size many L k then lmax size many L k else backF size many k (L k - 1) + 1) else lmax size many L k
def llF (size many : Int) (n : Nat) (L : Nat → Int) : Int :=
  if layOkB size many = true ∧ (n : Int) = many ∧ okL L n = true ∧ lmax size many L n ≤ 48 then lmax size many L n else -1

theorem okL_le {L : Nat → Int} {n k : Nat} (h : okL L n = true) (hk : k ≤ n) : okL L k = true := by
  induction n with
  | zero => obtain rfl : k = 0 := by omega
            exact h
  | succ m ih =>
    by_cases e : k = m + 1
    · subst e; exact h
    · simp only [okL, Bool.and_eq_true] at h
      exact ih h.1 (by omega)
theorem okL_at {L : Nat → Int} {n k : Nat} (h : okL L n = true) (hk : k < n) : 0 ≤ L k ∧ L k ≤ 48 := by
  have := okL_le h (show k + 1 ≤ n by omega)
  simp only [okL, Bool.and_eq_true, decide_eq_true_eq] at this
  exact this.2
theorem okL_bad {L : Nat → Int} {n k : Nat} (hk : k < n) (h : ¬ (0 ≤ L k ∧ L k ≤ 48)) : okL L n = false := by
  cases e : okL L n with
  | false => rfl
  | true => exact absurd (okL_at e hk) h
theorem okL_step {L : Nat → Int} {k : Nat} (h : okL L k = true) (h2 : 0 ≤ L k ∧ L k ≤ 48) : okL L (k + 1) = true := by
  simp only [okL, Bool.and_eq_true, decide_eq_true_eq]; exact ⟨h, h2⟩

theorem lmax_pos {size many : Int} {L : Nat → Int} {k : Nat} (h : 0 < L k) :
    lmax size many L (k + 1) = if backF size many k (L k - 1) + 1 < lmax size many L k then lmax size many L k else backF size many k (L k - 1) + 1 := by
  show (if _ then _ else _) = _; rw [if_pos h]
theorem lmax_zero {size many : Int} {L : Nat → Int} {k : Nat} (h : ¬ 0 < L k) : lmax size many L (k + 1) = lmax size many L k := by
  show (if _ then _ else _) = _; rw [if_neg h]
theorem lmax_bd {size many : Int} {L : Nat → Int} (h : layOkB size many = true) : ∀ {k : Nat}, okL L k = true → (k : Int) ≤ many → 0 ≤ lmax size many L k ∧ lmax size many L k ≤ 1200
  | 0, _, _ => ⟨Int.le_refl _, by show (0 : Int) ≤ 1200; omega⟩
  | k + 1, ho, hk => by
    have ih := lmax_bd h (k := k) (okL_le ho (by omega)) (by omega)
    have c := okL_at ho (show k < k + 1 by omega)
    by_cases hp : 0 < L k
    · rw [lmax_pos hp]
      have b := back_bd (a := L k - 1) h (show (0 : Int) ≤ k by omega) (show (k : Int) < many by omega) (by omega)
      split <;> omega
    · rw [lmax_zero hp]; exact ih

theorem llF_form {size many : Int} {n : Nat} {L : Nat → Int} (h : ¬ (layOkB size many = true ∧ (n : Int) = many)) : llF size many n L = -1 :=
  if_neg fun c => h ⟨c.1, c.2.1⟩
theorem llF_bad {size many : Int} {n : Nat} {L : Nat → Int} (h : okL L n = false) : llF size many n L = -1 :=
  if_neg fun c => by rw [h] at c; exact absurd c.2.2.1 (by simp)
theorem llF_long {size many : Int} {n : Nat} {L : Nat → Int} (h : 48 < lmax size many L n) : llF size many n L = -1 :=
  if_neg fun c => by omega
theorem llF_ok {size many : Int} {n : Nat} {L : Nat → Int} (h1 : layOkB size many = true) (h2 : (n : Int) = many) (h3 : okL L n = true) (h4 : lmax size many L n ≤ 48) : llF size many n L = lmax size many L n :=
  if_pos ⟨h1, h2, h3, h4⟩

end Go.Proofs.Ytjbkahfbaploaaa
