/-
  Striping's laws as plain arithmetic: there and back; the next position of a unit lies behind it.
-/
import Derived.Test.YtjbkahfbaploaaaLayMath
namespace Go.Proofs.Ytjbkahfbaploaaa

theorem lbF_at {size many p : Int} (h : layOkB size many = true) (h0 : 0 ≤ p) (h1 : p < 48) : lbF size many (objF size many p) (atF size many p) = p := by
  have b := at_bd h h0
  have e := back_at (p := p) h
  unfold lbF
  rw [if_pos ⟨h, b.1, b.2.1, b.2.2.1, by omega, by rw [e]; exact h1⟩, e]

theorem next_in {size many p : Int} (h : layOkB size many = true) (hm : 0 < (p + 1) % size) :
    objF size many (p + 1) = objF size many p ∧ atF size many (p + 1) = atF size many p + 1 := by
  obtain ⟨h1, h2, h3, h4⟩ := layOkB_iff.1 h
  have c := rem_bd (n := p) (k := size) (by omega)
  have e := Int.mul_ediv_add_emod p size
  have hr : p % size + 1 < size := by
    by_cases a : p % size + 1 < size
    · exact a
    · exfalso
      have e2 : p + 1 = size * (p / size + 1) := by rw [Int.mul_add, Int.mul_one]; omega
      rw [e2, Int.mul_emod_right] at hm
      omega
  have e3 : p + 1 = (p % size + 1) + size * (p / size) := by omega
  have q1 : (p + 1) / size = p / size := by
    rw [e3, Int.add_mul_ediv_left _ _ (by omega), Int.ediv_eq_zero_of_lt (by omega) hr]; omega
  have q2 : (p + 1) % size = p % size + 1 := by
    rw [e3, Int.add_mul_emod_self_left, Int.emod_eq_of_lt (by omega) hr]
  unfold objF atF
  rw [q1, q2]
  exact ⟨rfl, by omega⟩

/-- Where LayBack returns a position, LayAt leads there. -/
theorem lbF_back {size many obj a : Int} (h : lbF size many obj a ≠ -1) :
    laObj size many (lbF size many obj a) = obj ∧ laAt size many (lbF size many obj a) = a ∧ 0 ≤ lbF size many obj a ∧ lbF size many obj a < 48 := by
  unfold lbF at *
  by_cases c : layOkB size many = true ∧ 0 ≤ obj ∧ obj < many ∧ 0 ≤ a ∧ a < 48 ∧ backF size many obj a < 48
  · rw [if_pos c]
    obtain ⟨c1, c2, c3, c4, c5, c6⟩ := c
    have e := at_back (a := a) c1 c2 c3
    have b := back_bd c1 c2 c3 c4
    unfold laObj laAt
    rw [if_pos ⟨c1, by omega, c6⟩, if_pos ⟨c1, by omega, c6⟩]
    exact ⟨e.1, e.2, by omega, c6⟩
  · rw [if_neg c] at h
    exact absurd rfl h

end Go.Proofs.Ytjbkahfbaploaaa
