/-
  A range divided by units: the list of its parts, place by place.
-/
import Derived.Test.YtjbkahfbaploaaaLayLaws
namespace Go.Proofs.Ytjbkahfbaploaaa

/-- A part: its object, its range there, and where it begins in the file. -/
abbrev PartT := Int × Int × Int × Int
def bmp (x : PartT) : PartT := (x.1, x.2.1, x.2.2.1 + 1, x.2.2.2)
def bump : List PartT → List PartT
  | [] => []
  | [x] => [bmp x]
  | x :: y :: l => x :: bump (y :: l)
theorem bump_snoc (l : List PartT) (x : PartT) : bump (l ++ [x]) = l ++ [bmp x] := by
  induction l with
  | nil => rfl
  | cons a l ih =>
    cases l with
    | nil => rfl
    | cons b l => show a :: bump (b :: l ++ [x]) = _; rw [ih]; rfl

/-- The parts of the first k places from lo on. -/
def prS (size many lo : Int) : Nat → List PartT
  | 0 => []
  | k + 1 => if 0 < k ∧ 0 < (lo + k) % size then bump (prS size many lo k) else prS size many lo k ++ [(objF size many (lo + k), atF size many (lo + k), atF size many (lo + k) + 1, lo + k)]

theorem prS_new {size many lo : Int} {k : Nat} (h : ¬ (0 < k ∧ 0 < (lo + k) % size)) : prS size many lo (k + 1) = prS size many lo k ++ [(objF size many (lo + k), atF size many (lo + k), atF size many (lo + k) + 1, lo + k)] := if_neg h
theorem prS_bump {size many lo : Int} {k : Nat} (h : 0 < k ∧ 0 < (lo + k) % size) : prS size many lo (k + 1) = bump (prS size many lo k) := if_pos h

theorem prS_last {size many lo : Int} (hy : layOkB size many = true) : ∀ k : Nat, 0 < k → ∃ l a fr, prS size many lo k = l ++ [(objF size many (lo + k - 1), a, atF size many (lo + k - 1) + 1, fr)]
  | 0, h => absurd h (by omega)
  | k + 1, _ => by
    have e : lo + ((k + 1 : Nat) : Int) - 1 = lo + k := by omega
    rw [e]
    by_cases c : 0 < k ∧ 0 < (lo + k) % size
    · obtain ⟨l, a, fr, h⟩ := prS_last hy k c.1
      have hn := next_in (size := size) (many := many) (p := lo + k - 1) hy (by rw [Int.sub_add_cancel]; exact c.2)
      rw [Int.sub_add_cancel] at hn
      refine ⟨l, a, fr, ?_⟩
      rw [prS_bump c, h, bump_snoc, hn.1, hn.2]
      rfl
    · exact ⟨_, _, _, prS_new c⟩

theorem prS_len {size many lo : Int} : ∀ k : Nat, (prS size many lo k).length ≤ k
  | 0 => Nat.le_refl _
  | k + 1 => by
    have ih := prS_len (size := size) (many := many) (lo := lo) k
    by_cases c : 0 < k ∧ 0 < (lo + k) % size
    · rw [prS_bump c]
      have hb : ∀ l : List PartT, (bump l).length = l.length := fun l => by
        induction l with
        | nil => rfl
        | cons a l ih =>
          cases l with
          | nil => rfl
          | cons b l => show (bump (b :: l)).length + 1 = _; rw [ih]; rfl
      rw [hb]; omega
    · rw [prS_new c, List.length_append]; simp; omega

/-- A whole unit, or what there is of it. -/
theorem prS_unit {size many lo f : Int} (hy : layOkB size many = true) {k : Nat} (hf : f = lo + k) (hb : k = 0 ∨ f % size = 0) : ∀ j : Nat, 1 ≤ j → f % size + j ≤ size →
    prS size many lo (k + j) = prS size many lo k ++ [(objF size many f, atF size many f, atF size many f + j, f)]
  | 0, h, _ => absurd h (by omega)
  | j + 1, _, hj => by
    obtain ⟨h1, h2, h3, h4⟩ := layOkB_iff.1 hy
    have r := rem_bd (n := f) (k := size) (by omega)
    rw [← Nat.add_assoc]
    by_cases e : j = 0
    · subst e
      have c : ¬ (0 < k ∧ 0 < (lo + k) % size) := by rw [← hf]; omega
      rw [Nat.add_zero, prS_new c, ← hf]
      rfl
    · have ih := prS_unit hy hf hb j (by omega) (by omega)
      have hm : (lo + ((k + j : Nat) : Int)) % size = f % size + j := by
        have e2 : lo + ((k + j : Nat) : Int) = (f % size + j) + size * (f / size) := by have := Int.mul_ediv_add_emod f size; omega
        rw [e2, Int.add_mul_emod_self_left, Int.emod_eq_of_lt (by omega) (by omega)]
      rw [prS_bump (by rw [hm]; omega), ih, bump_snoc]
      show _ ++ [(_, _, _ + (j : Int) + 1, _)] = _ ++ [(_, _, _ + ((j + 1 : Nat) : Int), _)]
      rw [show ((j + 1 : Nat) : Int) = (j : Int) + 1 by omega, ← Int.add_assoc]

/-- The next boundary. -/
theorem bound_next {size f : Int} : (f - f % size + size) % size = 0 := by
  have e : f - f % size + size = size * (f / size + 1) := by have := Int.mul_ediv_add_emod f size; rw [Int.mul_add, Int.mul_one]; omega
  rw [e, Int.mul_emod_right]

/-- The parts of lo..hi. -/
def prts (size many lo hi : Int) : List PartT := prS size many lo (hi - lo).toNat

theorem prts_step {size many lo f e : Int} (hy : layOkB size many = true) (h1 : lo ≤ f) (h2 : f < e) (hb : f = lo ∨ f % size = 0) (he : e ≤ f - f % size + size) :
    prts size many lo e = prts size many lo f ++ [(objF size many f, atF size many f, atF size many f + e - f, f)] := by
  have := prS_unit (lo := lo) (f := f) hy (k := (f - lo).toNat) (by omega) (by omega) (e - f).toNat (by omega) (by omega)
  unfold prts
  rw [show (e - lo).toNat = (f - lo).toNat + (e - f).toNat by omega, this]
  rw [show atF size many f + ((e - f).toNat : Int) = atF size many f + e - f by omega]

end Go.Proofs.Ytjbkahfbaploaaa
