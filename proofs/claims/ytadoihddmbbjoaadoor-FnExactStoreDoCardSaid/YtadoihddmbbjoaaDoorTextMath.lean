/-
  File contents as lists of bytes: plain mathematics (no program). tokB: is it a file; cutL, wrL, allL: what a cut, a write, a list of writes leave; rdL: what is read.
-/
import Derived.Laws.CopyOwn
namespace Go.Proofs.YtadoihddmbbjoaaDoor

/-- A byte of a file. -/
def fbN (n : Nat) : Bool := decide (n = 46 ∨ (97 ≤ n ∧ n ≤ 122) ∨ (48 ≤ n ∧ n ≤ 57))
def fb (c : UInt8) : Bool := fbN c.toNat
def tokB (l : List UInt8) : Bool := decide (l.length ≤ 48) && l.all fb
/-- So long at least. -/
def padL (l : List UInt8) (n : Nat) : List UInt8 := l ++ List.replicate (n - l.length) 46
def cutL (l : List UInt8) (n : Nat) : List UInt8 := (padL l n).take n
def wrL (l : List UInt8) (at' : Nat) (d : List UInt8) : List UInt8 := (padL l at').take at' ++ d ++ (padL l at').drop (at' + d.length)
def rdL (l : List UInt8) (lo hi : Nat) : List UInt8 := (l.take hi).drop lo

theorem tokB_iff {l : List UInt8} : tokB l = true ↔ l.length ≤ 48 ∧ ∀ c ∈ l, fb c = true := by
  unfold tokB; simp
theorem tokB_len {l : List UInt8} (h : tokB l = true) : l.length ≤ 48 := (tokB_iff.1 h).1
theorem fb_dot : fb 46 = true := by decide
theorem padL_len (l : List UInt8) (n : Nat) : (padL l n).length = max l.length n := by unfold padL; simp; omega
theorem padL_get (l : List UInt8) (n i : Nat) (h : i < max l.length n) : (padL l n)[i]? = some (if i < l.length then l.getD i 46 else 46) := by
  unfold padL
  by_cases hi : i < l.length
  · rw [if_pos hi, List.getElem?_append_left hi]
    simp [List.getD_eq_getElem?_getD, hi]
  · rw [if_neg hi, List.getElem?_append_right (by omega), List.getElem?_replicate, if_pos (by omega)]
theorem padL_id {l : List UInt8} {n : Nat} (h : n ≤ l.length) : padL l n = l := by
  unfold padL; rw [show n - l.length = 0 by omega]; simp
theorem cutL_len (l : List UInt8) (n : Nat) : (cutL l n).length = n := by unfold cutL; rw [List.length_take, padL_len]; omega
theorem cutL_eq (l : List UInt8) (n : Nat) : cutL l n = l.take n ++ List.replicate (n - l.length) 46 := by
  unfold cutL padL
  rw [List.take_append]
  congr 1
  rw [List.take_of_length_le (by simp)]
theorem cutL_get (l : List UInt8) (n i : Nat) (h : i < n) : (cutL l n)[i]? = some (if i < l.length then l.getD i 46 else 46) := by
  unfold cutL
  rw [List.getElem?_take, if_pos h, padL_get l n i (by omega)]
theorem wrL_len (l : List UInt8) (at' : Nat) (d : List UInt8) : (wrL l at' d).length = max l.length (at' + d.length) := by
  unfold wrL
  rw [List.length_append, List.length_append, List.length_take, List.length_drop, padL_len]
  omega
theorem wrL_get (l : List UInt8) (at' : Nat) (d : List UInt8) (i : Nat) (h : i < max l.length (at' + d.length)) :
    (wrL l at' d)[i]? = some (if at' ≤ i ∧ i < at' + d.length then d.getD (i - at') 46 else if i < l.length then l.getD i 46 else 46) := by
  unfold wrL
  have h1 : ((padL l at').take at').length = at' := by rw [List.length_take, padL_len]; omega
  by_cases c1 : i < at'
  · rw [if_neg (by omega), List.append_assoc, List.getElem?_append_left (by omega), List.getElem?_take, if_pos c1, padL_get l at' i (by omega)]
  · by_cases c2 : i < at' + d.length
    · rw [if_pos ⟨by omega, c2⟩, List.getElem?_append_left (by rw [List.length_append]; omega), List.getElem?_append_right (by omega), h1]
      rw [List.getElem?_eq_getElem (by omega), List.getD_eq_getElem?_getD, List.getElem?_eq_getElem (by omega)]
      rfl
    · rw [if_neg (by omega), List.getElem?_append_right (by rw [List.length_append]; omega), List.length_append, h1, List.getElem?_drop]
      rw [show at' + d.length + (i - (at' + d.length)) = i by omega, padL_get l at' i (by omega)]

theorem splice_getElem? {α : Type} (L : List α) (off : Nat) (cs : List α) (h : off + cs.length ≤ L.length) (i : Nat) :
    (splice L off cs)[i]? = if off ≤ i ∧ i < off + cs.length then cs[i - off]? else L[i]? := by
  unfold splice
  by_cases c1 : i < off
  · rw [if_neg (by omega), List.getElem?_append_left (by rw [List.length_take]; omega), List.getElem?_take, if_pos c1]
  · have h1 : (L.take off).length = off := by rw [List.length_take]; omega
    rw [List.getElem?_append_right (by omega), h1]
    by_cases c2 : i < off + cs.length
    · rw [if_pos ⟨by omega, c2⟩, List.getElem?_append_left (by omega)]
    · rw [if_neg (by omega), List.getElem?_append_right (by omega), List.getElem?_drop]
      congr 1; omega

/-- What the program's write leaves is what the model's leaves. -/
theorem splice_wrL (l : List UInt8) (at' : Nat) (d : List UInt8) : splice (cutL l (max l.length (at' + d.length))) at' d = wrL l at' d := by
  apply List.ext_getElem?
  intro i
  have hlen : (cutL l (max l.length (at' + d.length))).length = max l.length (at' + d.length) := cutL_len _ _
  rw [splice_getElem? _ _ _ (by rw [hlen]; omega)]
  by_cases hi : i < max l.length (at' + d.length)
  · rw [wrL_get l at' d i hi, cutL_get l _ i hi]
    by_cases c : at' ≤ i ∧ i < at' + d.length
    · rw [if_pos c, if_pos c, List.getElem?_eq_getElem (by omega), List.getD_eq_getElem?_getD, List.getElem?_eq_getElem (by omega)]; rfl
    · rw [if_neg c, if_neg c]
  · rw [if_neg (by omega), List.getElem?_eq_none (by omega), List.getElem?_eq_none (by rw [wrL_len]; omega)]

theorem all_padL {l : List UInt8} {n : Nat} (h : ∀ c ∈ l, fb c = true) : ∀ c ∈ padL l n, fb c = true := by
  intro c hc
  unfold padL at hc
  rcases List.mem_append.1 hc with h1 | h1
  · exact h c h1
  · rw [(List.mem_replicate.1 h1).2]; exact fb_dot
theorem tokB_cutL {l : List UInt8} {n : Nat} (h : tokB l = true) (hn : n ≤ 48) : tokB (cutL l n) = true :=
  tokB_iff.2 ⟨by rw [cutL_len]; exact hn, fun c hc => all_padL (tokB_iff.1 h).2 c (List.mem_of_mem_take hc)⟩
theorem tokB_wrL {l d : List UInt8} {at' : Nat} (h : tokB l = true) (hd : tokB d = true) (hn : at' + d.length ≤ 48) : tokB (wrL l at' d) = true := by
  refine tokB_iff.2 ⟨by rw [wrL_len]; have := tokB_len h; omega, fun c hc => ?_⟩
  unfold wrL at hc
  rcases List.mem_append.1 hc with h1 | h1
  · rcases List.mem_append.1 h1 with h2 | h2
    · exact all_padL (tokB_iff.1 h).2 c (List.mem_of_mem_take h2)
    · exact (tokB_iff.1 hd).2 c h2
  · exact all_padL (tokB_iff.1 h).2 c (List.mem_of_mem_drop h1)

/-- Whether a write can be done. -/
def wokB (at' : Int) (d : List UInt8) : Bool := decide (0 ≤ at') && (decide (d ≠ []) && (tokB d && decide (at' + d.length ≤ 48)))
theorem wokB_iff {at' : Int} {d : List UInt8} : wokB at' d = true ↔ 0 ≤ at' ∧ d ≠ [] ∧ tokB d = true ∧ at' + d.length ≤ 48 := by
  unfold wokB; simp
/-- What TextWrite answers: the text and whether it was done. -/
def twS (l : List UInt8) (at' : Int) (d : List UInt8) : List UInt8 := if tokB l = true then (if wokB at' d = true then wrL l at'.toNat d else l) else []
def twB (l : List UInt8) (at' : Int) (d : List UInt8) : Bool := tokB l && wokB at' d
def tcS (l : List UInt8) (n : Int) : List UInt8 := if tokB l = true then (if 0 ≤ n ∧ n ≤ 48 then cutL l n.toNat else l) else []
def tcB (l : List UInt8) (n : Int) : Bool := tokB l && decide (0 ≤ n ∧ n ≤ 48)
def trS (l : List UInt8) (lo hi : Int) : List UInt8 := if tokB l = true ∧ (0 ≤ lo ∧ lo < hi ∧ hi ≤ 48) then rdL l lo.toNat hi.toNat else []

end Go.Proofs.YtadoihddmbbjoaaDoor
