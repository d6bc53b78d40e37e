/-
  What impl's and the model's lists of ranges leave, as lists that can be read.
-/
import Derived.Test.YteglfdcoeogilaaDoorImpl3
namespace Go.Proofs.YteglfdcoeogilaaDoor
open Go.RowKit

theorem Rgo.spn {w w' : World} {L : List Rng} {e : Ending} (h : Rgo w L e w') : ∃ v, e = .returned v ∧ Spn w' v L ∧ Below w.heap.size w w' := by
  obtain ⟨v, rfl, ho, hb⟩ := h
  refine ⟨_, rfl, ?_, hb⟩
  rcases id ho.2 with ⟨rfl, h0⟩ | ⟨g, cap, cur, rfl, hg, hgb, c1, c2, _⟩
  · have e0 := List.eq_nil_of_length_eq_zero h0
    subst e0
    exact ⟨none, 0, rfl, Nat.le_refl _, Nat.zero_le _, fun hn => absurd rfl hn⟩
  · exact ⟨some ⟨g, 0, none⟩, cap, rfl, c1, c2, fun _ => ⟨g, 0, rfl, fun i hi' => by
      have q1 := (ho.cellAt (i * 2) (by omega)).trans (flat_get0 L i hi')
      have q2 := (ho.cellAt (i * 2 + 1) (by omega)).trans (flat_get1 L i hi')
      rw [Nat.zero_add]
      exact ⟨q1, q2⟩⟩⟩

theorem Rgs.spn {w w' : World} {L : List Rng} {e : Ending} (h : Rgs w L e w') : ∃ v, e = .returned v ∧ Spn w' v L ∧ Below w.heap.size w w' := by
  obtain ⟨g, cap, rfl, hg, c1, c2, hr, hb⟩ := h
  exact ⟨_, rfl, ⟨_, cap, rfl, c1, c2, fun _ => ⟨g, 0, rfl, fun i hi => by have := hr i hi; simp only [Nat.zero_add]; exact ⟨this.1, this.2.1⟩⟩⟩, hb⟩

theorem Spn.one {w : World} {v : Value} {lo hi : Int} (h : Spn w v [(lo, hi)]) : ∃ b off cap, v = .slice (some ⟨b, off, none⟩) 1 cap ∧ 1 ≤ cap ∧ cap ≤ maxLen ∧ w.cell? ⟨b, off, none⟩ = some (.int .i64 lo) ∧ w.cell? ⟨b, off + 1, none⟩ = some (.int .i64 hi) := by
  obtain ⟨a, cap, rfl, c1, c2, hc⟩ := h
  obtain ⟨b, off, rfl, hcc⟩ := hc (by simp)
  exact ⟨b, off, cap, rfl, c1, c2, (hcc 0 Nat.one_pos).1, (hcc 0 Nat.one_pos).2⟩

theorem Spn.form {w : World} {v : Value} {L : List Rng} (h : Spn w v L) : ∃ a cap, v = .slice a L.length cap ∧ L.length ≤ cap ∧ cap ≤ maxLen := by
  obtain ⟨a, cap, rfl, c1, c2, _⟩ := h
  exact ⟨a, cap, rfl, c1, c2⟩

end Go.Proofs.YteglfdcoeogilaaDoor
