/-
  What LayText returns: a striped file put together again. Plain mathematics.
-/
import Derived.Test.YtjbkahfbaploaaaLongMath
import Derived.Test.YtjbkahfbaploaaaLayLaws
import Derived.Test.YtjbkahfbaploaaaTextMath
import Derived.Test.YtjbkahfbaploaaaTextLaws
namespace Go.Proofs.Ytjbkahfbaploaaa

/-- The byte of a place of the file. -/
def ltT (size many : Int) (S : Nat → List UInt8) (i : Nat) : UInt8 := (S (objF size many i).toNat).getD (atF size many i).toNat 46
def ltL (size many : Int) (S : Nat → List UInt8) (n : Nat) : List UInt8 := (List.range n).map (ltT size many S)
def ltK (S : Nat → List UInt8) (z : Nat) : Bool := (List.range z).all fun i => tokB (S i)
def lens (S : Nat → List UInt8) : Nat → Int := fun i => ((S i).length : Int)
def ltN (size many : Int) (S : Nat → List UInt8) (z : Nat) : Int := llF size many z (lens S)
def ltB (size many : Int) (S : Nat → List UInt8) (z : Nat) : Bool := ltK S z && decide (0 ≤ ltN size many S z)
def ltS (size many : Int) (S : Nat → List UInt8) (z : Nat) : List UInt8 := if ltB size many S z = true then ltL size many S (ltN size many S z).toNat else []

theorem ltL_len (size many : Int) (S : Nat → List UInt8) (n : Nat) : (ltL size many S n).length = n := by unfold ltL; simp
theorem ltL_succ (size many : Int) (S : Nat → List UInt8) (n : Nat) : ltL size many S (n + 1) = ltL size many S n ++ [ltT size many S n] := by unfold ltL; rw [List.range_succ, List.map_append]; rfl
theorem ltL_getD (size many : Int) (S : Nat → List UInt8) {n i : Nat} (h : i < n) : (ltL size many S n).getD i 46 = ltT size many S i := by
  unfold ltL
  rw [List.getD_eq_getElem?_getD, List.getElem?_map, List.getElem?_range h]; rfl
theorem ltK_at {S : Nat → List UInt8} {z i : Nat} (h : ltK S z = true) (hi : i < z) : tokB (S i) = true := List.all_eq_true.1 h i (List.mem_range.2 hi)
theorem ltK_all {S : Nat → List UInt8} {z : Nat} (h : ∀ i, i < z → tokB (S i) = true) : ltK S z = true := List.all_eq_true.2 fun i hi => h i (List.mem_range.1 hi)
theorem ltK_bad {S : Nat → List UInt8} {z i : Nat} (hi : i < z) (h : tokB (S i) = false) : ltK S z = false := by
  cases e : ltK S z
  · rfl
  · rw [ltK_at e hi] at h; cases h
theorem ltB_bad {size many : Int} {S : Nat → List UInt8} {z i : Nat} (hi : i < z) (h : tokB (S i) = false) : ltB size many S z = false := by unfold ltB; rw [ltK_bad hi h]; rfl
theorem ltB_neg {size many : Int} {S : Nat → List UInt8} {z : Nat} (h : ltN size many S z < 0) : ltB size many S z = false := by
  unfold ltB; rw [Bool.and_eq_false_iff]; right; simp; omega
theorem ltB_ok {size many : Int} {S : Nat → List UInt8} {z : Nat} (h : ltK S z = true) (h2 : 0 ≤ ltN size many S z) : ltB size many S z = true := by unfold ltB; rw [h]; simpa using h2
theorem ltS_no {size many : Int} {S : Nat → List UInt8} {z : Nat} (h : ltB size many S z = false) : ltS size many S z = [] := if_neg (by rw [h]; simp)
theorem ltS_yes {size many : Int} {S : Nat → List UInt8} {z : Nat} (h : ltB size many S z = true) : ltS size many S z = ltL size many S (ltN size many S z).toNat := if_pos h
/-- A length that there is. -/
theorem ltN_form {size many : Int} {S : Nat → List UInt8} {z : Nat} (h : 0 ≤ ltN size many S z) : layOkB size many = true ∧ (z : Int) = many ∧ ltN size many S z ≤ 48 := by
  unfold ltN llF at h ⊢
  by_cases c : layOkB size many = true ∧ (z : Int) = many ∧ okL (lens S) z = true ∧ lmax size many (lens S) z ≤ 48
  · rw [if_pos c]; exact ⟨c.1, c.2.1, c.2.2.2⟩
  · rw [if_neg c] at h; omega
theorem fb_ltT {size many : Int} {S : Nat → List UInt8} {z : Nat} (hk : ltK S z = true) (hz : (z : Int) = many) (hy : layOkB size many = true) {i : Nat} (hi : i ≤ 48) : fb (ltT size many S i) = true := by
  have b := at_bd (p := (i : Int)) hy (by omega)
  have ht := ltK_at (i := (objF size many i).toNat) hk (by omega)
  unfold ltT
  rw [List.getD_eq_getElem?_getD]
  cases e : (S (objF size many i).toNat)[(atF size many i).toNat]? with
  | none => exact fb_dot
  | some c => exact (tokB_iff.1 ht).2 c (List.mem_of_getElem? e)
theorem tokB_ltL {size many : Int} {S : Nat → List UInt8} {z n : Nat} (hk : ltK S z = true) (hz : (z : Int) = many) (hy : layOkB size many = true) (hn : n ≤ 48) : tokB (ltL size many S n) = true := by
  refine tokB_iff.2 ⟨by rw [ltL_len]; exact hn, fun c hc => ?_⟩
  unfold ltL at hc
  obtain ⟨i, hi, rfl⟩ := List.mem_map.1 hc
  exact fb_ltT hk hz hy (by have := List.mem_range.1 hi; omega)

end Go.Proofs.Ytjbkahfbaploaaa
