/-
  Contracts of the draws of a range (l1Span, l1Some).
-/
import Derived.Test.YtadoihddmbbjoaaDoorKDrawText
import Derived.Test.YtadoihddmbbjoaaDoorKMeetW
namespace Go.Proofs.YtadoihddmbbjoaaDoor
open Go.RowKit

theorem grown_new {a b : World} {row : Option Nat} {g o : Nat} {v : Value} (h : a.grownBy b row) (hg : a.heap.size ≤ g) : a.grownBy (b.setCell ⟨g, o, none⟩ v) row :=
  ⟨h.os, h.tape, h.output, by simpa [World.setCell] using h.size, fun i hi hne => (Below.heap_setCell b _ v i (by intro e; simp only at e; omega)).trans (h.block i hi hne)⟩
theorem grown_alloc {a b : World} {row : Option Nat} (h : a.grownBy b row) (o : Obj) : a.grownBy (b.alloc o) row :=
  grown_trans h (grown_below ((Below.refl _ _).alloc (Nat.le_refl _) _) _)
theorem Rd.lt {w : World} {rb p : Nat} (h : Rd w rb p) : rb < w.heap.size := by
  obtain ⟨z, a, len, cap, h0, -⟩ := h
  exact World.block_lt_of_cell? w _ h0
theorem Rd.set {w : World} {rb p g o : Nat} {u : Value} (h : Rd w rb p) (hg : rb < g) : Rd (w.setCell ⟨g, o, none⟩ u) rb p := by
  obtain ⟨z, a, len, cap, h0, h1, h2, h3, h4⟩ := h
  refine ⟨z, a, len, cap, by rw [World.cell?_setCell_far _ _ _ _ (Nat.ne_of_gt hg)]; exact h0, by rw [World.cell?_setCell_far _ _ _ _ (Nat.ne_of_gt hg)]; exact h1, by go_simp, h3, fun hp => ?_⟩
  obtain ⟨b, off, ha, hne, hc⟩ := h4 hp
  exact ⟨b, off, ha, hne, fun i hi => ⟨by rw [World.cell?_setCell_far _ _ _ _ (by simp only; omega)]; exact (hc i hi).1, (hc i hi).2⟩⟩

/-- What the draw of a range leaves: two numbers of the kind C; the reader's place moved on; nothing else changed. -/
def Ds (C : Int → Int → Prop) (w : World) (rb q : Nat) (e : Ending) (w' : World) : Prop :=
  ∃ lo hi : Int, e = .returned (.agg #[.int .i64 lo, .int .i64 hi]) ∧ C lo hi ∧ Rd w' rb q ∧ w.grownBy w' (some rb)




end Go.Proofs.YtadoihddmbbjoaaDoor
