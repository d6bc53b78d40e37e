/-
  What each object has of a file: the plain function, place by place and unit by unit.
-/
import Derived.Test.YtjbkahfbaploaaaPartChain
import Derived.Test.YtjbkahfbaploaaaText
namespace Go.Proofs.Ytjbkahfbaploaaa

/-- What object o has of the first k bytes of l. -/
def loF (size many : Int) (l : List UInt8) (o : Nat) : Nat → List UInt8
  | 0 => []
  | k + 1 => if objF size many k = o then loF size many l o k ++ [l.getD k 46] else loF size many l o k

/-- What LayOf returns. -/
def loL (size many : Int) (l : List UInt8) : List (List UInt8) := if layOkB size many = true ∧ tokB l = true then (List.range many.toNat).map (fun o => loF size many l o l.length) else []

theorem loF_hit {size many : Int} {l : List UInt8} {o k : Nat} (h : objF size many k = o) : loF size many l o (k + 1) = loF size many l o k ++ [l.getD k 46] := if_pos h
theorem loF_miss {size many : Int} {l : List UInt8} {o k : Nat} (h : ¬ objF size many k = o) : loF size many l o (k + 1) = loF size many l o k := if_neg h

theorem loF_len {size many : Int} {l : List UInt8} {o : Nat} : ∀ k, (loF size many l o k).length ≤ k
  | 0 => Nat.le_refl _
  | k + 1 => by
    have ih := loF_len (size := size) (many := many) (l := l) (o := o) k
    by_cases h : objF size many k = o
    · rw [loF_hit h, List.length_append]; simp; omega
    · rw [loF_miss h]; omega

/-- Where unit j begins. -/
theorem unit_mod {sz j : Nat} : ((j * sz : Nat) : Int) % (sz : Int) = 0 := by
  rw [← Int.natCast_emod, Nat.mul_mod_left]; rfl
theorem unit_obj {many : Int} {sz j : Nat} (h : 1 ≤ sz) : objF sz many ((j * sz : Nat) : Int) = (j : Int) % many := by
  unfold objF
  rw [← Int.natCast_ediv, Nat.mul_div_cancel _ (by omega)]

theorem loF_unit {many : Int} {sz : Nat} {l : List UInt8} {o j : Nat} (hy : layOkB sz many = true) : ∀ t, t ≤ sz → j * sz + t ≤ l.length →
    loF sz many l o (j * sz + t) = if (j : Int) % many = o then loF sz many l o (j * sz) ++ (l.drop (j * sz)).take t else loF sz many l o (j * sz)
  | 0, _, _ => by simp
  | t + 1, ht, hl => by
    obtain ⟨h1, h2, h3, h4⟩ := layOkB_iff.1 hy
    have ih := loF_unit (l := l) (o := o) (j := j) hy t (by omega) (by omega)
    have hu := unit_at (many := many) (f := ((j * sz : Nat) : Int)) hy t (by rw [unit_mod]; omega)
    have ho : objF sz many ((j * sz + t : Nat) : Int) = (j : Int) % many := by
      rw [Int.natCast_add, hu.1, unit_obj (by omega)]
    by_cases e : (j : Int) % many = o
    · rw [if_pos e] at ih ⊢
      rw [← Nat.add_assoc, loF_hit (by rw [ho]; exact e), ih, List.append_assoc]
      congr 1
      rw [List.take_add_one, List.getElem?_drop, List.getD_eq_getElem?_getD, List.getElem?_eq_getElem (by omega)]
      rfl
    · rw [if_neg e] at ih ⊢
      rw [← Nat.add_assoc, loF_miss (by rw [ho]; exact e), ih]

/-- The objects behind the first k bytes. -/
def loC (size many : Int) (l : List UInt8) (m k : Nat) : List (List UInt8) := (List.range m).map (fun o => loF size many l o k)
theorem loC_len (size many : Int) (l : List UInt8) (m k : Nat) : (loC size many l m k).length = m := by unfold loC; simp
theorem loC_get {size many : Int} {l : List UInt8} {m k o : Nat} (h : o < m) : (loC size many l m k).getD o [] = loF size many l o k := by
  unfold loC; simp [List.getD_eq_getElem?_getD, h]
theorem loC_get? {size many : Int} {l : List UInt8} {m k o : Nat} (h : o < m) : (loC size many l m k)[o]? = some (loF size many l o k) := by
  unfold loC; simp [h]

theorem loC_step {size many : Int} {l : List UInt8} {m k o : Nat} (ho : objF size many k = o) : loC size many l m (k + 1) = (loC size many l m k).set o (loF size many l o k ++ [l.getD k 46]) := by
  apply List.ext_getElem?
  intro i
  rw [List.getElem?_set, loC_len]
  by_cases hi : i < m
  · rw [loC_get? hi, loC_get? hi]
    by_cases e : o = i
    · subst e; rw [if_pos rfl, if_pos hi, loF_hit ho]
    · rw [if_neg e, loF_miss (by rw [ho]; omega)]
  · have h1 : ∀ k', (loC size many l m k')[i]? = none := fun k' => List.getElem?_eq_none (by rw [loC_len]; omega)
    rw [h1, h1]
    split <;> (try split) <;> first | rfl | omega

theorem loC_unit {many : Int} {sz : Nat} {l : List UInt8} {m j o t : Nat} (hy : layOkB sz many = true) (ht : t ≤ sz) (hl : j * sz + t ≤ l.length) (ho : (j : Int) % many = o) :
    loC sz many l m (j * sz + t) = (loC sz many l m (j * sz)).set o (loF sz many l o (j * sz) ++ (l.drop (j * sz)).take t) := by
  apply List.ext_getElem?
  intro i
  rw [List.getElem?_set, loC_len]
  by_cases hi : i < m
  · rw [loC_get? hi, loC_get? hi, loF_unit hy t ht hl]
    by_cases e : o = i
    · subst e; rw [if_pos ho, if_pos rfl, if_pos hi]
    · rw [if_neg (by rw [ho]; omega), if_neg e]
  · have h1 : ∀ k', (loC sz many l m k')[i]? = none := fun k' => List.getElem?_eq_none (by rw [loC_len]; omega)
    rw [h1, h1]
    split <;> (try split) <;> first | rfl | omega

theorem loC_zero (size many : Int) (l : List UInt8) (m : Nat) : loC size many l m 0 = List.replicate m [] := by
  apply List.ext_getElem?
  intro i
  by_cases hi : i < m
  · rw [loC_get? hi]; simp [hi]; rfl
  · rw [List.getElem?_eq_none (by rw [loC_len]; omega), List.getElem?_eq_none (by simp; omega)]

end Go.Proofs.Ytjbkahfbaploaaa
