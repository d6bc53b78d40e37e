/-
  What TextRead returns, in numbers: plain mathematics.
  Laws of cuts, writes and reads of lists of bytes: plain mathematics (no program).
-/
import Derived.Test.YtadoihddmbbjoaaDoorKDoMath
namespace Go.Proofs.YtadoihddmbbjoaaDoor
theorem rdL_clip (l : List UInt8) (lo hi : Nat) : (l.take (min hi l.length)).drop (min lo l.length) = rdL l lo hi := by
  unfold rdL
  by_cases h1 : hi ≤ l.length
  · rw [Nat.min_eq_left h1]
    by_cases h2 : lo ≤ l.length
    · rw [Nat.min_eq_left h2]
    · rw [Nat.min_eq_right (by omega), List.drop_eq_nil_of_le (by rw [List.length_take]; omega), List.drop_eq_nil_of_le (by rw [List.length_take]; omega)]
  · have e1 : min hi l.length = l.length := by omega
    have e2 : l.take l.length = l := List.take_of_length_le (Nat.le_refl _)
    have e3 : l.take hi = l := List.take_of_length_le (by omega)
    rw [e1, e2, e3]
    by_cases h2 : lo ≤ l.length
    · rw [Nat.min_eq_left h2]
    · rw [show min lo l.length = l.length by omega, List.drop_eq_nil_of_le (Nat.le_refl _), List.drop_eq_nil_of_le (by omega)]
theorem rdL_len (l : List UInt8) (lo hi : Nat) : (rdL l lo hi).length = min hi l.length - lo := by
  unfold rdL; rw [List.length_drop, List.length_take]
theorem rdL_get (l : List UInt8) (lo hi i : Nat) (h : i < min hi l.length - lo) : (rdL l lo hi)[i]? = l[lo + i]? := by
  unfold rdL
  rw [List.getElem?_drop, List.getElem?_take, if_pos (by omega)]
end Go.Proofs.YtadoihddmbbjoaaDoor

namespace Go.Proofs.YtadoihddmbbjoaaDoor

theorem getD_of_get {l : List UInt8} {i : Nat} {v : UInt8} (h : l[i]? = some v) : l.getD i 46 = v := by rw [List.getD_eq_getElem?_getD, h]; rfl
theorem get_of_getD {l : List UInt8} {i : Nat} (h : i < l.length) : l[i]? = some (l.getD i 46) := by rw [List.getD_eq_getElem?_getD, List.getElem?_eq_getElem h]; rfl
theorem ext_getD {a b : List UInt8} (hl : a.length = b.length) (h : ∀ i, i < b.length → a.getD i 46 = b.getD i 46) : a = b := by
  apply List.ext_getElem?
  intro i
  by_cases hi : i < b.length
  · rw [get_of_getD (by omega), get_of_getD hi, h i hi]
  · rw [List.getElem?_eq_none (by omega), List.getElem?_eq_none (by omega)]
theorem cutL_getD (l : List UInt8) (n i : Nat) (h : i < n) : (cutL l n).getD i 46 = if i < l.length then l.getD i 46 else 46 := getD_of_get (cutL_get l n i h)
theorem wrL_getD (l : List UInt8) (a : Nat) (d : List UInt8) (i : Nat) (h : i < max l.length (a + d.length)) :
    (wrL l a d).getD i 46 = if a ≤ i ∧ i < a + d.length then d.getD (i - a) 46 else if i < l.length then l.getD i 46 else 46 := getD_of_get (wrL_get l a d i h)
theorem rdL_getD (l : List UInt8) (lo hi i : Nat) (h : i < min hi l.length - lo) : (rdL l lo hi).getD i 46 = l.getD (lo + i) 46 := by
  rw [List.getD_eq_getElem?_getD, rdL_get l lo hi i h, List.getD_eq_getElem?_getD]

theorem cut_cut (l : List UInt8) (n : Nat) : cutL (cutL l n) n = cutL l n := by
  refine ext_getD (by rw [cutL_len, cutL_len]) fun i hi => ?_
  rw [cutL_len] at hi
  rw [cutL_getD _ n i hi, cutL_len, if_pos hi]
theorem wr_wr (l : List UInt8) (a : Nat) (d : List UInt8) : wrL (wrL l a d) a d = wrL l a d := by
  have hl := wrL_len l a d
  refine ext_getD (by rw [wrL_len, hl]; omega) fun i hi => ?_
  rw [hl] at hi
  rw [wrL_getD (wrL l a d) a d i (by omega), hl, if_pos hi]
  split
  · rename_i h
    rw [wrL_getD l a d i hi, if_pos h]
  · rfl
theorem rd_wr (l : List UInt8) (a : Nat) (d : List UInt8) : rdL (wrL l a d) a (a + d.length) = d := by
  have hl := wrL_len l a d
  refine ext_getD (by rw [rdL_len, hl]; omega) fun i hi => ?_
  rw [rdL_getD _ _ _ _ (by rw [hl]; omega), wrL_getD l a d (a + i) (by omega), if_pos ⟨by omega, by omega⟩, show a + i - a = i by omega]
theorem wr_back (l : List UInt8) (a : Nat) (d : List UInt8) (h : a + d.length ≤ l.length) : wrL (wrL l a d) a (rdL l a (a + d.length)) = l := by
  have hl := wrL_len l a d
  have hr : (rdL l a (a + d.length)).length = d.length := by rw [rdL_len]; omega
  refine ext_getD (by rw [wrL_len, hl, hr]; omega) fun i hi => ?_
  rw [wrL_getD _ a _ i (by rw [hl]; omega), hr, hl]
  by_cases c : a ≤ i ∧ i < a + d.length
  · rw [if_pos c, rdL_getD _ _ _ _ (by omega), show a + (i - a) = i by omega]
  · rw [if_neg c, if_pos (by omega), wrL_getD l a d i (by omega), if_neg c, if_pos hi]
theorem wr_split (l : List UInt8) (a k : Nat) (d : List UInt8) (hk : k ≤ d.length) : wrL (wrL l a (d.take k)) (a + k) (d.drop k) = wrL l a d := by
  have h1 : (d.take k).length = k := by rw [List.length_take]; omega
  have h2 : (d.drop k).length = d.length - k := by rw [List.length_drop]
  have hl := wrL_len l a (d.take k)
  rw [h1] at hl
  refine ext_getD (by rw [wrL_len, hl, wrL_len, h2]; omega) fun i hi => ?_
  rw [wrL_len] at hi
  rw [wrL_getD _ (a + k) _ i (by rw [hl, h2]; omega), h2, hl, wrL_getD l a d i hi]
  by_cases c : a + k ≤ i ∧ i < a + k + (d.length - k)
  · rw [if_pos c, if_pos ⟨by omega, by omega⟩]
    rw [List.getD_eq_getElem?_getD, List.getElem?_drop, List.getD_eq_getElem?_getD, show k + (i - (a + k)) = i - a by omega]
  · rw [if_neg c]
    by_cases c2 : i < max l.length (a + k)
    · rw [if_pos c2, wrL_getD l a (d.take k) i (by omega), h1]
      by_cases c3 : a ≤ i ∧ i < a + k
      · rw [if_pos c3, if_pos ⟨c3.1, by omega⟩]
        rw [List.getD_eq_getElem?_getD, List.getElem?_take, if_pos (by omega), List.getD_eq_getElem?_getD]
      · rw [if_neg c3, if_neg (show ¬ (a ≤ i ∧ i < a + d.length) by omega)]
    · exfalso; omega
theorem rd_split (l : List UInt8) (lo k hi : Nat) (h1 : lo ≤ k) (h2 : k ≤ hi) : rdL l lo k ++ rdL l k hi = rdL l lo hi := by
  unfold rdL
  have e : l.take k = (l.take hi).take k := by rw [List.take_take, Nat.min_eq_left h2]
  rw [e]
  generalize l.take hi = X
  apply List.ext_getElem?
  intro i
  by_cases c : i < min k X.length - lo
  · rw [List.getElem?_append_left (by rw [List.length_drop, List.length_take]; omega), List.getElem?_drop, List.getElem?_drop, List.getElem?_take, if_pos (by omega)]
  · rw [List.getElem?_append_right (by rw [List.length_drop, List.length_take]; omega), List.getElem?_drop, List.getElem?_drop, List.length_drop, List.length_take]
    by_cases c2 : k ≤ X.length
    · congr 1; omega
    · rw [List.getElem?_eq_none (by omega), List.getElem?_eq_none (by omega)]

end Go.Proofs.YtadoihddmbbjoaaDoor
