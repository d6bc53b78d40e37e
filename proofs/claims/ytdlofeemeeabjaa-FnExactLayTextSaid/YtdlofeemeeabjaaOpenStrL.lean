/-
  An argument that is a slice of strings reads as a list of texts.
-/
import Derived.Test.YtdlofeemeeabjaaOpenVls
import Derived.Test.YtdlofeemeeabjaaStoV
namespace Go.Proofs.Ytdlofeemeeabjaa
open Go.RowKit

theorem mkB_back (s : ByteArray) : mkB s.data.toList = s := rfl
theorem strs_list {w : World} {v : Value} {n : Nat} {S : Nat → ByteArray} (h : Vls w v n (fun i => .string (S i))) (hs : ∀ i, (S i).size ≤ maxLen) :
    ∃ L : List (List UInt8), L.length = n ∧ Vls w v L.length (strF L) ∧ ∀ i, (L.getD i []).length ≤ 9223372036854775807 := by
  have hl : ((List.range n).map fun i => (S i).data.toList).length = n := by simp
  have hg : ∀ i, i < n → ((List.range n).map fun i => (S i).data.toList).getD i [] = (S i).data.toList := fun i hi => by
    rw [List.getD_eq_getElem?_getD, List.getElem?_map, List.getElem?_range hi]; rfl
  refine ⟨_, hl, ?_, fun i => ?_⟩
  · rw [hl]
    exact h.congr fun i hi => by show _ = Value.string (mkB _); rw [hg i hi, mkB_back]
  · by_cases hi : i < n
    · rw [hg i hi]
      have := hs i
      unfold maxLen at this
      have e : (S i).data.toList.length = (S i).size := rfl
      omega
    · rw [List.getD_eq_getElem?_getD, List.getElem?_eq_none (by rw [hl]; omega)]; simp

end Go.Proofs.Ytdlofeemeeabjaa
