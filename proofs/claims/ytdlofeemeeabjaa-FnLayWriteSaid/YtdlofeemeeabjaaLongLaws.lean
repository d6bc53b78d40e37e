/-
  How long a file is: the farthest end is some object's; longer objects make no shorter file.
-/
import Derived.Test.YtdlofeemeeabjaaLongMath
namespace Go.Proofs.Ytdlofeemeeabjaa

def farB (size many : Int) (L : Nat → Int) (N : Int) : Nat → Bool
  | 0 => false
  | k + 1 => farB size many L N k || (decide (0 < L k) && decide (backF size many k (L k - 1) = N - 1))

theorem farB_of {size many : Int} {L : Nat → Int} {N : Int} {j k : Nat} (hj : j < k) (h1 : 0 < L j) (h2 : backF size many j (L j - 1) = N - 1) : farB size many L N k = true := by
  induction k with
  | zero => omega
  | succ m ih =>
    show (_ || _) = true
    by_cases e : j = m
    · subst e; simp [h1, h2]
    · rw [ih (by omega)]; rfl

theorem lmax_far {size many : Int} {L : Nat → Int} : ∀ k : Nat, lmax size many L k = 0 ∨ ∃ j, j < k ∧ 0 < L j ∧ backF size many j (L j - 1) + 1 = lmax size many L k
  | 0 => Or.inl rfl
  | k + 1 => by
    by_cases hp : 0 < L k
    · rw [lmax_pos hp]
      split
      · rcases lmax_far (size := size) (many := many) (L := L) k with h | ⟨j, h1, h2, h3⟩
        · exact Or.inl h
        · exact Or.inr ⟨j, by omega, h2, h3⟩
      · exact Or.inr ⟨k, by omega, hp, rfl⟩
    · rw [lmax_zero hp]
      rcases lmax_far (size := size) (many := many) (L := L) k with h | ⟨j, h1, h2, h3⟩
      · exact Or.inl h
      · exact Or.inr ⟨j, by omega, h2, h3⟩

theorem far_end {size many : Int} {L : Nat → Int} {n : Nat} (h : lmax size many L n ≠ 0) : farB size many L (lmax size many L n) n = true := by
  rcases lmax_far (size := size) (many := many) (L := L) n with h0 | ⟨j, h1, h2, h3⟩
  · exact absurd h0 h
  · exact farB_of h1 h2 (by omega)

theorem lmax_ge {size many : Int} {L : Nat → Int} {j : Nat} (h : 0 < L j) : ∀ {k : Nat}, j < k → backF size many j (L j - 1) + 1 ≤ lmax size many L k
  | 0, hj => by omega
  | k + 1, hj => by
    by_cases e : j = k
    · subst e
      rw [lmax_pos h]; split <;> omega
    · have ih := lmax_ge (size := size) (many := many) h (k := k) (by omega)
      by_cases hp : 0 < L k
      · rw [lmax_pos hp]; split <;> omega
      · rw [lmax_zero hp]; exact ih

theorem back_mono {size many obj a b : Int} (h : layOkB size many = true) (hab : a ≤ b) : backF size many obj a ≤ backF size many obj b := by
  obtain ⟨h1, h2, h3, h4⟩ := layOkB_iff.1 h
  have r1 := rem_bd (n := a) (k := size) (by omega)
  have r2 := rem_bd (n := b) (k := size) (by omega)
  have d1 := Int.mul_ediv_add_emod a size
  have d2 := Int.mul_ediv_add_emod b size
  have hq : a / size ≤ b / size := Int.ediv_le_ediv (by omega) hab
  unfold backF
  by_cases e : a / size = b / size
  · rw [e] at d1 ⊢; omega
  · have hq2 : a / size + 1 ≤ b / size := by omega
    have m1 : (a / size + 1) * many ≤ b / size * many := Int.mul_le_mul_of_nonneg_right hq2 (by omega)
    have m2 : ((a / size + 1) * many + obj) * size ≤ (b / size * many + obj) * size := Int.mul_le_mul_of_nonneg_right (by omega) (by omega)
    have m3 : (a / size * many + obj + 1) * size ≤ ((a / size + 1) * many + obj) * size := Int.mul_le_mul_of_nonneg_right (by rw [Int.add_mul]; omega) (by omega)
    have m4 : (a / size * many + obj + 1) * size = (a / size * many + obj) * size + size := by rw [Int.add_mul]; omega
    omega

theorem lmax_mono {size many : Int} {L M : Nat → Int} (h : layOkB size many = true) : ∀ {k : Nat}, (k : Int) ≤ many → (∀ j, j < k → L j ≤ M j) → lmax size many L k ≤ lmax size many M k
  | 0, _, _ => Int.le_refl _
  | k + 1, hk, hle => by
    have ih := lmax_mono h (k := k) (by omega) (fun j hj => hle j (by omega))
    have hc := hle k (by omega)
    by_cases hp : 0 < L k
    · have hp2 : 0 < M k := by omega
      have hb := back_mono (many := many) (obj := (k : Int)) (a := L k - 1) (b := M k - 1) h (by omega)
      rw [lmax_pos hp, lmax_pos hp2]
      split <;> split <;> omega
    · rw [lmax_zero hp]
      by_cases hp2 : 0 < M k
      · rw [lmax_pos hp2]; split <;> omega
      · rw [lmax_zero hp2]; exact ih

/-- With one object longer the file is no shorter, or there is none. -/
theorem llF_more {size many : Int} {n i : Nat} {L : Nat → Int} (hN : llF size many n L ≠ -1) :
    llF size many n (fun j => if j = i then L i + 1 else L j) = -1 ∨ llF size many n L ≤ llF size many n (fun j => if j = i then L i + 1 else L j) := by
  by_cases c : layOkB size many = true ∧ (n : Int) = many ∧ okL L n = true ∧ lmax size many L n ≤ 48
  · by_cases d : layOkB size many = true ∧ (n : Int) = many ∧ okL (fun j => if j = i then L i + 1 else L j) n = true ∧ lmax size many (fun j => if j = i then L i + 1 else L j) n ≤ 48
    · right
      unfold llF
      rw [if_pos c, if_pos d]
      refine lmax_mono c.1 (by omega) fun j _ => ?_
      show L j ≤ if j = i then L i + 1 else L j
      split
      · next e => subst e; omega
      · exact Int.le_refl _
    · left
      unfold llF
      exact if_neg d
  · exact absurd (if_neg c) hN

theorem llF_valid {size many : Int} {n : Nat} {L : Nat → Int} (hN : llF size many n L ≠ -1) :
    layOkB size many = true ∧ (n : Int) = many ∧ okL L n = true ∧ lmax size many L n ≤ 48 ∧ llF size many n L = lmax size many L n := by
  by_cases c : layOkB size many = true ∧ (n : Int) = many ∧ okL L n = true ∧ lmax size many L n ≤ 48
  · exact ⟨c.1, c.2.1, c.2.2.1, c.2.2.2, if_pos c⟩
  · exact absurd (if_neg c) hN

end Go.Proofs.Ytdlofeemeeabjaa
