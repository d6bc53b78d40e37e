/-
  Strings of bytes ('mkB') and the contracts of l2Byte, fileByte, TextOk of both sides: what each returns at every string; the world is left alone. Condition: the string's length is at most the greatest int.
-/
import Derived.Test.YtldafphfnkamjaaTextMath
import Derived.Test.YtldafphfnkamjaaSpan
import Derived.Lib.Hide
namespace Go.Proofs.Ytldafphfnkamjaa
open Go.RowKit

/-- The string of a list of bytes. -/
def mkB (l : List UInt8) : ByteArray := ⟨l.toArray⟩
theorem mkB_size (l : List UInt8) : (mkB l).size = l.length := by show l.toArray.size = _; simp
theorem mkB_toList (l : List UInt8) : (mkB l).data.toList = l := rfl
theorem mkB_self (s : ByteArray) : mkB s.data.toList = s := by unfold mkB; rw [Array.toArray_toList]
theorem mkB_of (s : ByteArray) : ∃ l, s = mkB l ∧ l.length = s.size := ⟨s.data.toList, (mkB_self s).symm, by show s.data.toList.length = s.data.size; simp⟩
theorem mkB_app (a b : List UInt8) : mkB a ++ mkB b = mkB (a ++ b) := ByteArray.mk_append_mk a b
theorem mkB_extract (l : List UInt8) (a b : Nat) : (mkB l).extract a b = mkB ((l.take b).drop a) := by
  unfold mkB
  rw [ByteArray.extract_mk, ← List.drop_take]

theorem fbN_true {n : Nat} (h : n = 46 ∨ (97 ≤ n ∧ n ≤ 122) ∨ (48 ≤ n ∧ n ≤ 57)) : fbN n = true := decide_eq_true h
theorem fbN_false {n : Nat} (h : ¬ (n = 46 ∨ (97 ≤ n ∧ n ≤ 122) ∨ (48 ≤ n ∧ n ≤ 57))) : fbN n = false := decide_eq_false h



theorem all_take_succ (s : ByteArray) (k : Nat) (h : k < s.size) : (s.data.toList.take (k + 1)).all fb = ((s.data.toList.take k).all fb && fb s[k]) := by
  have e : s.data.toList.take (k + 1) = s.data.toList.take k ++ [s[k]] := by
    rw [List.take_succ_eq_append_getElem (by simpa using h)]; rfl
  rw [e, List.all_append]
  simp
theorem all_false_of_take (s : ByteArray) (k : Nat) (h : (s.data.toList.take k).all fb = false) : tokB s.data.toList = false := by
  unfold tokB
  rw [Bool.and_eq_false_iff]
  right
  rw [← List.take_append_drop k s.data.toList, List.all_append, h, Bool.false_and]
theorem size_length (s : ByteArray) : s.data.toList.length = s.size := by show s.data.toList.length = s.data.size; simp

theorem all_of_take (s : ByteArray) (h : (s.data.toList.take s.size).all fb = true) : tokB s.data.toList = decide (s.size ≤ 48) := by
  rw [List.take_of_length_le (by rw [size_length]; omega)] at h
  unfold tokB
  rw [h, Bool.and_true, size_length]



end Go.Proofs.Ytldafphfnkamjaa
