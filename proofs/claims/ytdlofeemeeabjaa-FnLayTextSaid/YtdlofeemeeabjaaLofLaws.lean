/-
  What each object has of a file: one object has all; of a shorter file a beginning.
-/
import Derived.Test.YtdlofeemeeabjaaLofMath
namespace Go.Proofs.Ytdlofeemeeabjaa

theorem loF_one {size : Int} {l : List UInt8} : ∀ k, k ≤ l.length → loF size 1 l 0 k = l.take k
  | 0, _ => by simp [loF]
  | k + 1, h => by
    have ho : objF size 1 k = ((0 : Nat) : Int) := by unfold objF; rw [Int.emod_one]; rfl
    rw [loF_hit ho, loF_one k (by omega), List.take_add_one, List.getD_eq_getElem?_getD, List.getElem?_eq_getElem (by omega)]
    rfl

theorem loL_one {size : Int} {l : List UInt8} (hy : layOkB size 1 = true) (ht : tokB l = true) : loL size 1 l = [l] := by
  unfold loL
  rw [if_pos ⟨hy, ht⟩]
  show [loF size 1 l 0 l.length] = [l]
  rw [loF_one _ (Nat.le_refl _), List.take_length]

theorem loF_pre {size many : Int} {l : List UInt8} {o : Nat} (k : Nat) : ∀ j, loF size many l o k <+: loF size many l o (k + j)
  | 0 => ⟨[], by simp⟩
  | j + 1 => by
    have ih := loF_pre (size := size) (many := many) (l := l) (o := o) k j
    rw [← Nat.add_assoc]
    by_cases h : objF size many ((k + j : Nat) : Int) = o
    · rw [loF_hit h]; exact ih.trans ⟨_, rfl⟩
    · rw [loF_miss h]; exact ih

theorem loF_take {size many : Int} {l : List UInt8} {o n : Nat} : ∀ k, k ≤ n → n ≤ l.length → loF size many (l.take n) o k = loF size many l o k
  | 0, _, _ => rfl
  | k + 1, h, hn => by
    have e : (l.take n).getD k 46 = l.getD k 46 := by
      rw [List.getD_eq_getElem?_getD, List.getD_eq_getElem?_getD, List.getElem?_take, if_pos (by omega)]
    by_cases c : objF size many k = o
    · rw [loF_hit c, loF_hit c, loF_take k (by omega) hn, e]
    · rw [loF_miss c, loF_miss c, loF_take k (by omega) hn]

theorem tokB_take {l : List UInt8} (h : tokB l = true) (n : Nat) : tokB (l.take n) = true := by
  rw [tokB_iff] at h ⊢
  exact ⟨by rw [List.length_take]; omega, fun c hc => h.2 c (List.mem_of_mem_take hc)⟩

theorem loL_len {size many : Int} {l : List UInt8} (hy : layOkB size many = true) (ht : tokB l = true) : (loL size many l).length = many.toNat := by
  unfold loL; rw [if_pos ⟨hy, ht⟩]; simp
theorem loL_get {size many : Int} {l : List UInt8} (hy : layOkB size many = true) (ht : tokB l = true) {o : Nat} (ho : o < many.toNat) : (loL size many l).getD o [] = loF size many l o l.length := by
  unfold loL; rw [if_pos ⟨hy, ht⟩]
  simp [List.getD_eq_getElem?_getD, ho]

/-- Of the shorter file each object has a beginning. -/
theorem lof_cut {size many : Int} {l : List UInt8} {n : Nat} (hy : layOkB size many = true) (ht : tokB l = true) (hn : n ≤ l.length) {o : Nat} (ho : o < many.toNat) :
    (loL size many (l.take n)).getD o [] <+: (loL size many l).getD o [] := by
  rw [loL_get hy (tokB_take ht n) ho, loL_get hy ht ho, List.length_take, Nat.min_eq_left hn, loF_take _ (Nat.le_refl _) hn]
  have := loF_pre (size := size) (many := many) (l := l) (o := o) n (l.length - n)
  rwa [Nat.add_sub_cancel' hn] at this

end Go.Proofs.Ytdlofeemeeabjaa
