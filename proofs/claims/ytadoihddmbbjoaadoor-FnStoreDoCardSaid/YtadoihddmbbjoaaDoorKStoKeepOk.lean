/-
  What is valid stays so: stores that were made sure, have fallen, were fenced, or were asked.
-/
import Derived.Test.YtadoihddmbbjoaaDoorKDoMath
import Derived.Test.YtadoihddmbbjoaaDoorKStoBox
import Derived.Test.YtadoihddmbbjoaaDoorKStoOk
namespace Go.Proofs.YtadoihddmbbjoaaDoor
open Go.RowKit

theorem stOkB_new : stOkB ⟨[[], [], []], [[], [], []], [0, 0, 0], [0, 0, 0], [0, 0, 0]⟩ = true := by decide
theorem num_at {S : StT} (h : stOkB S = true) {i : Nat} (hi : i < 3) : 0 ≤ S.slast.getD i 0 ∧ S.slast.getD i 0 ≤ S.last.getD i 0 ∧ S.last.getD i 0 ≤ 1000 ∧ 0 ≤ S.floors.getD i 0 ∧ S.floors.getD i 0 ≤ 100 :=
  numB_iff.1 ((nmB_iff.1 (stOk_iff.1 h).2.2).2 i hi)
theorem stOkB_sync {S : StT} (h : stOkB S = true) : stOkB (syncT S) = true := by
  unfold syncT
  rw [if_pos h]
  obtain ⟨h1, h2, h3⟩ := stOk_iff.1 h
  obtain ⟨l1, l2, l3⟩ := lensB_iff.1 (nmB_iff.1 h3).1
  refine stOk_iff.2 ⟨h1, h1, nmB_iff.2 ⟨lensB_iff.2 ⟨l1, l1, l3⟩, fun i hi => ?_⟩⟩
  obtain ⟨a1, a2, a3, a4, a5⟩ := num_at h hi
  exact numB_iff.2 ⟨by dsimp only; omega, Int.le_refl _, a3, a4, a5⟩
theorem stOkB_fall {S : StT} (h : stOkB S = true) : stOkB (fallT S) = true := by
  unfold fallT
  rw [if_pos h]
  obtain ⟨h1, h2, h3⟩ := stOk_iff.1 h
  obtain ⟨l1, l2, l3⟩ := lensB_iff.1 (nmB_iff.1 h3).1
  refine stOk_iff.2 ⟨h2, h2, nmB_iff.2 ⟨lensB_iff.2 ⟨l2, l2, l3⟩, fun i hi => ?_⟩⟩
  obtain ⟨a1, a2, a3, a4, a5⟩ := num_at h hi
  exact numB_iff.2 ⟨a1, Int.le_refl _, by dsimp only; omega, a4, a5⟩
theorem stOkB_fen {S : StT} (who e : Int) (h : stOkB S = true) : stOkB (fenT S who e) = true := by
  unfold fenT
  rw [if_pos h]
  split
  · rename_i hc
    rw [Bool.and_eq_true] at hc
    obtain ⟨e0, e1⟩ : 0 ≤ e ∧ e ≤ 100 := of_decide_eq_true hc.2
    obtain ⟨h1, h2, h3⟩ := stOk_iff.1 h
    obtain ⟨l1, l2, l3⟩ := lensB_iff.1 (nmB_iff.1 h3).1
    refine stOk_iff.2 ⟨h1, h2, nmB_iff.2 ⟨lensB_iff.2 ⟨l1, l2, by simpa using l3⟩, fun i hi => ?_⟩⟩
    obtain ⟨a1, a2, a3, a4, a5⟩ := num_at h hi
    show numB (S.slast.getD i 0) (S.last.getD i 0) ((S.floors.set _ _).getD i 0) = true
    rw [getD_set]
    split
    · rename_i q
      rw [q.1]
      exact numB_iff.2 ⟨a1, a2, a3, by omega, by omega⟩
    · exact numB_iff.2 ⟨a1, a2, a3, a4, a5⟩
  · exact h
theorem stOkB_doT {S : StT} {q : ReqT} (h : stOkB S = true) : stOkB (doT S q) = true := by
  unfold doT; rw [if_pos h]; exact stOkB_doS h
theorem szL_of {L : List (List UInt8)} (h : txB L = true) : szL L := fun i => by
  obtain ⟨h1, h2⟩ := txB_iff.1 h
  by_cases hi : i < 3
  · have := tokB_len (h2 i hi); omega
  · rw [List.getD_eq_getElem?_getD, List.getElem?_eq_none (by omega)]; simp
theorem szT_of {S : StT} (h : stOkB S = true) : szT S := ⟨szL_of (stOk_iff.1 h).1, szL_of (stOk_iff.1 h).2.1⟩
theorem le_of {S : StT} (h : stOkB S = true) : S.n5.le := by
  obtain ⟨h1, h2, h3, h4, h5⟩ := stOk_lens h
  exact ⟨by show S.now.length ≤ _; omega, by show S.sure.length ≤ _; omega, by show S.last.length ≤ _; omega, by show S.slast.length ≤ _; omega, by show S.floors.length ≤ _; omega⟩

end Go.Proofs.YtadoihddmbbjoaaDoor
