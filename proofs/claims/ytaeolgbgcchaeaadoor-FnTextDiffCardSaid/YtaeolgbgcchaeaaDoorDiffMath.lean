/-
  Plain facts: where two texts differ, as a set of places.
-/
import Derived.Test.YtaeolgbgcchaeaaDoorBitsMath
import Derived.Test.YtaeolgbgcchaeaaDoorRgMath
import Derived.Test.YtaeolgbgcchaeaaDoorTextMath
namespace Go.Proofs.YtaeolgbgcchaeaaDoor

/-- Whether two texts differ at place i. -/
def dif (a b : List UInt8) (i : Nat) : Bool := decide (a.length ≤ i) || (decide (b.length ≤ i) || a.getD i 46 != b.getD i 46)
/-- The first k places' differences, as a number's bits. -/
def dfN (a b : List UInt8) : Nat → Nat
  | 0 => 0
  | k + 1 => if dif a b k then dfN a b k ||| msk ((k : Int), (k : Int) + 1) else dfN a b k
theorem one_ok {k : Nat} (h : k < 48) : spanOkB (k : Int) ((k : Int) + 1) = true := spanOkB_iff.2 ⟨by omega, by omega, by omega⟩
theorem dfN_lt {a b : List UInt8} : ∀ k, k ≤ 48 → dfN a b k < 2 ^ 48
  | 0, _ => by unfold dfN; decide
  | k + 1, h => by
    unfold dfN
    split
    · exact Nat.or_lt_two_pow (dfN_lt k (by omega)) (msk_lt _ (one_ok (by omega)))
    · exact dfN_lt k (by omega)
theorem dfN_bit {a b : List UInt8} : ∀ k, k ≤ 48 → ∀ i : Nat, (dfN a b k).testBit i = (decide (i < k) && dif a b i)
  | 0, _, i => by simp [dfN]
  | k + 1, h, i => by
    have ih := dfN_bit (a := a) (b := b) k (by omega) i
    unfold dfN
    have hm := msk_bit ((k : Int), (k : Int) + 1) (one_ok (by omega)) i
    by_cases hd : dif a b k = true
    · rw [if_pos hd, Nat.testBit_or, ih, hm]
      by_cases e : i = k
      · subst e; rw [hd]; simp; omega
      · by_cases e2 : i < k
        · have e3 : i < k + 1 := by omega
          simp [e2, e3]; omega
        · have e3 : ¬ i < k + 1 := by omega
          simp [e2, e3]; omega
    · rw [if_neg hd, ih]
      by_cases e : i = k
      · subst e; simp [hd]
      · by_cases e2 : i < k
        · have e3 : i < k + 1 := by omega
          simp [e2, e3]
        · have e3 : ¬ i < k + 1 := by omega
          simp [e2, e3]
/-- A set's ranges end where the set ends. -/
theorem rg_stop (f : Nat → Bool) (n : Nat) (h : ∀ i, n ≤ i → f i = false) : ∀ j, rg f (n + j) = rg f n
  | 0 => rfl
  | j + 1 => by
    rw [← Nat.add_assoc]
    show (if f (n + j) = true then _ else rg f (n + j)) = rg f n
    rw [if_neg (by rw [h (n + j) (by omega)]; simp), rg_stop f n h j]
theorem rg_ext {f g : Nat → Bool} : ∀ n, (∀ i, i < n → f i = g i) → rg f n = rg g n
  | 0, _ => rfl
  | n + 1, h => by
    have ih := rg_ext n fun i hi => h i (by omega)
    simp only [rg, h n (by omega), ih]
/-- How many places two texts have. -/
def dfM (a b : List UInt8) : Nat := max a.length b.length
theorem dfN_rg {a b : List UInt8} (h : dfM a b ≤ 48) : rg (fun i => (dfN a b (dfM a b)).testBit i) 48 = rg (dif a b) (dfM a b) := by
  have e : 48 = dfM a b + (48 - dfM a b) := by omega
  rw [e, rg_stop _ (dfM a b) (fun i hi => by rw [dfN_bit _ h]; simp; omega)]
  exact rg_ext _ fun i hi => by rw [dfN_bit _ h]; simp [hi]
/-- What TextDiff returns. -/
def dfL (a b : List UInt8) : List Rng := if tokB a = true ∧ tokB b = true then rg (dif a b) (dfM a b) else []

end Go.Proofs.YtaeolgbgcchaeaaDoor
