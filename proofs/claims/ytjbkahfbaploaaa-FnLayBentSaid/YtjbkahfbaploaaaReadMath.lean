/-
  What TextRead returns, in numbers: plain mathematics.
-/
import Derived.Test.YtjbkahfbaploaaaTextMath
namespace Go.Proofs.Ytjbkahfbaploaaa
theorem rdL_clip (l : List UInt8) (lo hi : Nat) : (l.take (min hi l.length)).drop (min lo l.length) = rdL l lo hi := by
  unfold rdL
  by_cases h1 : hi ≤ l.length
  · rw [Nat.min_eq_left h1]
    by_cases h2 : lo ≤ l.length
    · rw [Nat.min_eq_left h2]
    · rw [Nat.min_eq_right (by omega), List.drop_eq_nil_of_le (by rw [List.length_take]; omega), List.drop_eq_nil_of_le (by rw [List.length_take]; omega)]
  · have e1 : min hi l.length = l.length := by omega
    have e2 : l.take l.length = l := List.take_of_length_le (Nat.le_refl _)
    have e3 : l.take hi = l := List.take_of_length_le (by omega)
    rw [e1, e2, e3]
    by_cases h2 : lo ≤ l.length
    · rw [Nat.min_eq_left h2]
    · rw [show min lo l.length = l.length by omega, List.drop_eq_nil_of_le (Nat.le_refl _), List.drop_eq_nil_of_le (by omega)]
theorem rdL_len (l : List UInt8) (lo hi : Nat) : (rdL l lo hi).length = min hi l.length - lo := by
  unfold rdL; rw [List.length_drop, List.length_take]
theorem rdL_get (l : List UInt8) (lo hi i : Nat) (h : i < min hi l.length - lo) : (rdL l lo hi)[i]? = l[lo + i]? := by
  unfold rdL
  rw [List.getElem?_drop, List.getElem?_take, if_pos (by omega)]
end Go.Proofs.Ytjbkahfbaploaaa
