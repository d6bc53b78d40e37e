/-
  A value that holds a row of ranges in a block between two places of the heap ('Rww'): it stays through new memory and through the marking of another row; marking and finding it.
-/
import Derived.Test.YtaeolgbgcchaeaaDoorMark
import Derived.Test.YtaeolgbgcchaeaaDoorRow2
import Derived.Test.YtaeolgbgcchaeaaDoorRgMath
namespace Go.Proofs.YtaeolgbgcchaeaaDoor
open Go.RowKit

def Rww (w : World) (lo hi : Nat) (v : Value) (n : Nat) (f : Nat → Rng) : Prop :=
  ∃ ptr cap, v = .slice ptr n cap ∧ n ≤ cap ∧ cap ≤ maxLen ∧ (n = 0 ∨ ∃ g, ptr = some ⟨g, 0, none⟩ ∧ lo ≤ g ∧ g < hi ∧ Row2 w g n f)

/-- Nothing has changed but blocks from lo on up to hi, and new ones. -/
def Apart (lo hi : Nat) (w w' : World) : Prop := ∃ row, w.grownBy w' row ∧ ∀ b, row = some b → lo ≤ b ∧ b < hi

theorem Apart.below {lo hi : Nat} {w w' : World} (h : Apart lo hi w w') (hl : lo ≤ w.heap.size) : Below lo w w' := by
  obtain ⟨row, hg, hr⟩ := h
  exact (Below.refl lo w).grown hg hl (fun k e => (hr k e).1)

theorem Row2.apart {w w' : World} {lo hi g n : Nat} {f : Nat → Rng} (h : Row2 w g n f) (ha : Apart lo hi w w') (hg : g < lo ∨ hi ≤ g) : Row2 w' g n f := fun i hi' => by
  obtain ⟨h0, h1, h2, h3⟩ := h i hi'
  obtain ⟨row, hgr, hr⟩ := ha
  have hlt := World.block_lt_of_cell? w _ h0
  have hb : w'.heap[g]? = w.heap[g]? := hgr.block g hlt (fun e => by have := hr g e.symm; omega)
  simp only [World.cell?, World.frozen?, hb] at h0 h1 h2 h3 ⊢
  exact ⟨h0, h1, h2, h3⟩

theorem Rww.apart {w w' : World} {lo hi l2 h2 n : Nat} {v : Value} {f : Nat → Rng} (h : Rww w l2 h2 v n f) (ha : Apart lo hi w w') (hg : h2 ≤ lo ∨ hi ≤ l2) : Rww w' l2 h2 v n f := by
  obtain ⟨ptr, cap, e, c1, c2, hr⟩ := h
  exact ⟨ptr, cap, e, c1, c2, hr.imp id fun ⟨g, e1, e2, e3, hr⟩ => ⟨g, e1, e2, e3, hr.apart ha (by omega)⟩⟩

theorem Rww.keep {w w' : World} {l2 h2 n : Nat} {v : Value} {f : Nat → Rng} (h : Rww w l2 h2 v n f) (hb : Below w.heap.size w w') : Rww w' l2 h2 v n f := by
  obtain ⟨ptr, cap, e, c1, c2, hr⟩ := h
  exact ⟨ptr, cap, e, c1, c2, hr.imp id fun ⟨g, e1, e2, e3, hr⟩ => ⟨g, e1, e2, e3, hr.keep hb⟩⟩

theorem Rww.spn {w : World} {l2 h2 : Nat} {v : Value} {L : List Rng} (h : Rww w l2 h2 v L.length (fun i => L.getD i (0, 0))) : Spn w v L := by
  obtain ⟨ptr, cap, e, c1, c2, hr⟩ := h
  refine ⟨ptr, cap, e, c1, c2, fun hn => ?_⟩
  rcases hr with h0 | ⟨g, e1, _, _, hr⟩
  · exact absurd (List.eq_nil_of_length_eq_zero h0) hn
  · exact ⟨g, 0, e1, fun i hi => by have := hr i hi; simp only [Nat.zero_add]; exact ⟨this.1, this.2.1⟩⟩

theorem Rww.of_own {w' : World} {B : Nat} {v : Value} {L : List Rng} (ho : w'.ownsRow B 33 2 v L.length (flat L)) : Rww w' B w'.heap.size v L.length (fun i => L.getD i (0, 0)) := by
  rcases id ho.2 with ⟨rfl, h0⟩ | ⟨g, cap, cur, rfl, hg, hgb, c1, c2, _⟩
  · rw [h0]; exact ⟨none, 0, rfl, Nat.le_refl _, Nat.zero_le _, .inl rfl⟩
  · exact ⟨_, cap, rfl, c1, c2, .inr ⟨g, rfl, hg, (Array.getElem?_eq_some_iff.1 hgb).1, fun i hi' =>
      ⟨by rw [ho.cellAt _ (by omega)]; exact flat_get0 _ _ hi', by rw [ho.cellAt _ (by omega)]; exact flat_get1 _ _ hi', ho.frozenAt _, ho.frozenAt _⟩⟩⟩

theorem Rww.of_row {w : World} {lo g n cap : Nat} {f : Nat → Rng} (hg : lo ≤ g) (c1 : n ≤ cap) (c2 : cap ≤ maxLen) (h : Row2 w g n f) : Rww w lo w.heap.size (.slice (some ⟨g, 0, none⟩) n cap) n f := by
  refine ⟨_, cap, rfl, c1, c2, ?_⟩
  by_cases h0 : n = 0
  · exact .inl h0
  · exact .inr ⟨g, rfl, hg, World.block_lt_of_cell? w _ (h 0 (by omega)).1, h⟩

def mk2 (k : Int) (i : Nat) : Rng := (k + 2 * i, k + 2 * i + 1)

theorem mark_rww {lo hi n : Nat} {v : Value} {f : Nat → Rng} {w : World} (h : Rww w lo hi v n f) (k : Int) (hn : n ≤ 1048576) (h0 : 0 ≤ k) (h1 : k ≤ 1000000000) :
    Calls Tryd.prog 14 #[v, .int .i64 k] w fun e w' => e = .returned (.int .i64 (k + 2 * n)) ∧ Rww w' lo hi v n (mk2 k) ∧ Apart lo hi w w' := by
  obtain ⟨ptr, cap, rfl, c1, c2, hr⟩ := h
  by_cases hz : n = 0
  · subst hz
    refine (mark_nil ptr cap k w).mono ?_; rintro e w' ⟨rfl, rfl⟩
    exact ⟨by simp, ⟨ptr, cap, rfl, c1, c2, .inl rfl⟩, none, World.grownBy.refl w none, fun b e => by cases e⟩
  · rcases hr with hr | ⟨g, rfl, e2, e3, hr⟩
    · exact absurd hr hz
    · refine (mark_any g n cap k f w hr hn h0 h1).mono ?_; rintro e w' ⟨rfl, hr', hg⟩
      exact ⟨rfl, ⟨_, cap, rfl, c1, c2, .inr ⟨g, rfl, e2, e3, hr'⟩⟩, _, hg, fun b e => by cases e; exact ⟨e2, e3⟩⟩

theorem held_rww {lo hi n : Nat} {v : Value} {w : World} (k : Int) (h : Rww w lo hi v n (mk2 k)) (hn : n ≤ 1048576) (h0 : 0 ≤ k) (h1 : k ≤ 1000000000) :
    Calls Tryd.prog 15 #[v, .int .i64 k] w fun e w' => e = .returned (.int .i64 (k + 2 * n)) ∧ w = w' := by
  obtain ⟨ptr, cap, rfl, c1, c2, hr⟩ := h
  by_cases hz : n = 0
  · subst hz
    refine (held_nil ptr cap k w).mono ?_; rintro e w' ⟨rfl, rfl⟩
    exact ⟨by simp, rfl⟩
  · rcases hr with hr | ⟨g, rfl, e2, e3, hr⟩
    · exact absurd hr hz
    · exact held_any g n cap k w hr hn h0 h1

end Go.Proofs.YtaeolgbgcchaeaaDoor
