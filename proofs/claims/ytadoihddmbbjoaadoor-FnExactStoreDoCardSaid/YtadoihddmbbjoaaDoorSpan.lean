/-
  Contracts of the small functions on one range (toSpan, SpanOk of both sides, eqSpan, l1Max, l1Min): what each returns at any two numbers, and that nothing that existed has changed.
-/
import Derived.Test.YtadoihddmbbjoaaDoorRows
import Derived.WalkKit
import Derived.WalkSpells
import Derived.WalkLawsBesides
import Derived.Deep.RegionHeld3
namespace Go.Proofs.YtadoihddmbbjoaaDoor
open Go.RowKit

/-- A range is one: the Bool that both sides return. -/
def spanOkB (lo hi : Int) : Bool := decide (0 ≤ lo ∧ lo < hi ∧ hi ≤ 48)

theorem spanOkB_true {lo hi : Int} (h : 0 ≤ lo ∧ lo < hi ∧ hi ≤ 48) : spanOkB lo hi = true := by unfold spanOkB; simpa using h
theorem spanOkB_false {lo hi : Int} (h : ¬ (0 ≤ lo ∧ lo < hi ∧ hi ≤ 48)) : spanOkB lo hi = false := by unfold spanOkB; simpa using h
theorem spanOkB_iff {lo hi : Int} : spanOkB lo hi = true ↔ (0 ≤ lo ∧ lo < hi ∧ hi ≤ 48) := by unfold spanOkB; simp

/-- Behind a call that left all that existed alone: the old cells and marks, as two rules for the walk. -/
theorem bcell {W w1 : World} (hb : Below W.heap.size W w1) : (∀ b o, b < W.heap.size → w1.cell? ⟨b, o, none⟩ = W.cell? ⟨b, o, none⟩) ∧ (∀ b o, b < W.heap.size → w1.frozen? ⟨b, o, none⟩ = W.frozen? ⟨b, o, none⟩) :=
  ⟨fun b o h => hb.cell (p := ⟨b, o, none⟩) h, fun b o h => hb.frozen (p := ⟨b, o, none⟩) h⟩

/-- A cell that is there stays as it is behind such a call. -/
theorem cell_keep {W w1 : World} (hb : Below W.heap.size W w1) {b o : Nat} {v : Value} (h : W.cell? ⟨b, o, none⟩ = some v) : w1.cell? ⟨b, o, none⟩ = some v := by
  by_cases hlt : b < W.heap.size
  · rw [hb.cell (p := ⟨b, o, none⟩) hlt]; exact h
  · have e : W.heap[b]? = none := by simpa using hlt
    simp [World.cell?, e] at h

/-- A box of two numbers that may be written: its two cells. -/
def Box2 (w : World) (b : Nat) (x y : Int) : Prop :=
  w.cell? ⟨b, 0, none⟩ = some (.int .i64 x) ∧ w.cell? ⟨b, 1, none⟩ = some (.int .i64 y) ∧ w.frozen? ⟨b, 0, none⟩ = false ∧ w.frozen? ⟨b, 1, none⟩ = false
theorem Box2.keep {W w1 : World} {b : Nat} {x y : Int} (h : Box2 W b x y) (hb : Below W.heap.size W w1) : Box2 w1 b x y := by
  obtain ⟨h0, h1, h2, h3⟩ := h
  have hlt := World.block_lt_of_cell? W _ h0
  exact ⟨cell_keep hb h0, cell_keep hb h1, (hb.frozen (p := ⟨b, 0, none⟩) hlt).trans h2, (hb.frozen (p := ⟨b, 1, none⟩) hlt).trans h3⟩

theorem box_alloc {X w' : World} {x y : Int} {T : TypeId} (hb : Below (X.alloc (.cells #[.int .i64 x, .int .i64 y] T)).heap.size (X.alloc (.cells #[.int .i64 x, .int .i64 y] T)) w') : Box2 w' X.heap.size x y :=
  Box2.keep (W := X.alloc (.cells #[.int .i64 x, .int .i64 y] T)) ⟨by go_simp, by go_simp, by go_simp, by go_simp⟩ hb
theorem box_alloc_drew {X w' : World} {x y : Int} {T : TypeId} (hb : Below (X.alloc (.cells #[.int .i64 x, .int .i64 y] T)).drew.heap.size (X.alloc (.cells #[.int .i64 x, .int .i64 y] T)).drew w') : Box2 w' X.heap.size x y :=
  Box2.keep (W := (X.alloc (.cells #[.int .i64 x, .int .i64 y] T)).drew) ⟨by go_simp, by go_simp, by go_simp, by go_simp⟩ hb
theorem alloc_swap {w' : World} {o o' : Obj} {b f : Nat} {v : Value} (hlt : b < w'.heap.size) (h : (w'.alloc o).cell? ⟨b, f, none⟩ = some v) : (w'.alloc o').cell? ⟨b, f, none⟩ = some v := by
  rw [World.cell?_alloc_lt _ _ _ hlt] at h ⊢; exact h
theorem set2_far {w' : World} {g b f : Nat} {x y v : Value} (hne : g ≠ b) (h : w'.cell? ⟨b, f, none⟩ = some v) : ((w'.setCell ⟨g, 0, none⟩ x).setCell ⟨g, 1, none⟩ y).cell? ⟨b, f, none⟩ = some v := by
  rw [World.cell?_setCell_far _ _ _ _ hne, World.cell?_setCell_far _ _ _ _ hne]; exact h

theorem set2_box {w' : World} {g : Nat} {x y u v : Int} (h : Box2 w' g u v) : Box2 ((w'.setCell ⟨g, 0, none⟩ (.int .i64 x)).setCell ⟨g, 1, none⟩ (.int .i64 y)) g x y := by
  obtain ⟨h1, h2, h3, h4⟩ := h
  exact ⟨by go_simp, by go_simp, by go_simp, by go_simp⟩
theorem new_box (w' : World) (x y : Int) (T : TypeId) : Box2 (w'.alloc (.cells #[.int .i64 x, .int .i64 y] T)) w'.heap.size x y := ⟨by go_simp, by go_simp, by go_simp, by go_simp⟩

/-- .. and the heap has not shrunk. -/
theorem size_keep {W w1 : World} (hb : Below W.heap.size W w1) {n : Nat} (h : n < W.heap.size) : n < w1.heap.size := Nat.lt_of_lt_of_le h hb.size

theorem ret_bool {a b : Bool} (h : a = b) : Ending.returned (.bool a) = .returned (.bool b) := by rw [h]



set_option maxHeartbeats 400000 in
theorem implSpanOk_any (lo hi : Int) (w : World) :
    Calls Tryd.prog 50 #[.agg #[.int .i64 lo, .int .i64 hi]] w fun e w' => e = .returned (.bool (spanOkB lo hi)) ∧ Below w.heap.size w w' := by
  by_cases h1 : 0 ≤ lo <;> by_cases h2 : lo < hi <;> by_cases h3 : hi ≤ 48 <;> first | (exfalso; omega) | skip
  all_goals
    go_enter Tryd.func50, Tryd.ntmps50
    go_wp2
    go_ret
    refine ⟨ret_bool ?_, (Below.refl _ _).alloc (Nat.le_refl _) _⟩
    first | exact (spanOkB_true (by omega)).symm | exact (spanOkB_false (by omega)).symm

end Go.Proofs.YtadoihddmbbjoaaDoor
