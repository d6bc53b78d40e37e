/-
  Caches in memory: a text and two lists of ranges; boxes of three values.
-/
import Derived.Test.YtldafphfnkamjaaToSpan
import Derived.Test.YtldafphfnkamjaaText
import Derived.Test.YtldafphfnkamjaaBtn
namespace Go.Proofs.Ytldafphfnkamjaa
open Go.RowKit

/-- A cache's contents. -/
structure OwT where
  text : List UInt8
  hav : List Rng
  dirt : List Rng
/-- A cache with nothing, not even a text. -/
def ow0 : OwT := ⟨[], [], []⟩
/-- Three values that read as a cache (the text is a value by itself). -/
structure Ow (w : World) (v1 v2 : Value) (O : OwT) : Prop where
  hav : Spn w v1 O.hav
  dirt : Spn w v2 O.dirt
theorem Ow.keep {w w1 : World} {v1 v2 : Value} {O : OwT} (h : Ow w v1 v2 O) (hb : Below w.heap.size w w1) : Ow w1 v1 v2 O := ⟨h.hav.keep hb, h.dirt.keep hb⟩
theorem spn_form {w : World} {v : Value} {L : List Rng} (h : Spn w v L) : ∃ a cap, v = .slice a L.length cap ∧ L.length ≤ cap ∧ cap ≤ maxLen := by
  obtain ⟨a, cap, rfl, c1, c2, _⟩ := h
  exact ⟨a, cap, rfl, c1, c2⟩

/-- A box of three values. -/
def Box3 (w : World) (b : Nat) (x y z : Value) : Prop := w.cell? ⟨b, 0, none⟩ = some x ∧ w.cell? ⟨b, 1, none⟩ = some y ∧ w.cell? ⟨b, 2, none⟩ = some z
theorem Box3.keep {w w1 : World} {b : Nat} {x y z : Value} (h : Box3 w b x y z) (hb : Below w.heap.size w w1) : Box3 w1 b x y z := ⟨cell_keep hb h.1, cell_keep hb h.2.1, cell_keep hb h.2.2⟩
theorem btn_cell3 {w w1 : World} {b o lo hi : Nat} {v : Value} (hb : Btn lo hi w w1) (hd : b < lo ∨ hi ≤ b) (h : w.cell? ⟨b, o, none⟩ = some v) : w1.cell? ⟨b, o, none⟩ = some v :=
  (World.cell?_of_block (a := ⟨b, o, none⟩) (hb.block b (World.block_lt_of_cell? w _ h) (by omega))).trans h
theorem Box3.btn {w w1 : World} {b lo hi : Nat} {x y z : Value} (h : Box3 w b x y z) (hb : Btn lo hi w w1) (hd : b < lo ∨ hi ≤ b) : Box3 w1 b x y z := ⟨btn_cell3 hb hd h.1, btn_cell3 hb hd h.2.1, btn_cell3 hb hd h.2.2⟩
theorem new_box3 (w : World) (x y z : Value) (T : TypeId) : Box3 (w.alloc (.cells #[x, y, z] T)) w.heap.size x y z := ⟨by go_simp, by go_simp, by go_simp⟩
/-- .. that may be written. -/
def Box3W (w : World) (b : Nat) (x y z : Value) : Prop := w.cell? ⟨b, 0, none⟩ = some x ∧ w.cell? ⟨b, 1, none⟩ = some y ∧ w.cell? ⟨b, 2, none⟩ = some z ∧ w.frozen? ⟨b, 0, none⟩ = false ∧ w.frozen? ⟨b, 1, none⟩ = false ∧ w.frozen? ⟨b, 2, none⟩ = false
theorem Box3W.same {w w1 : World} {b : Nat} {x y z : Value} (h : Box3W w b x y z) (hh : w1.heap[b]? = w.heap[b]?) : Box3W w1 b x y z := by
  obtain ⟨h0, h1, h2, f0, f1, f2⟩ := h
  exact ⟨(World.cell?_of_block (a := ⟨b, 0, none⟩) hh).trans h0, (World.cell?_of_block (a := ⟨b, 1, none⟩) hh).trans h1, (World.cell?_of_block (a := ⟨b, 2, none⟩) hh).trans h2,
    (World.frozen?_of_block (a := ⟨b, 0, none⟩) hh).trans f0, (World.frozen?_of_block (a := ⟨b, 1, none⟩) hh).trans f1, (World.frozen?_of_block (a := ⟨b, 2, none⟩) hh).trans f2⟩
theorem Box3W.keep {w w1 : World} {b : Nat} {x y z : Value} (h : Box3W w b x y z) (hb : Below w.heap.size w w1) : Box3W w1 b x y z := h.same (hb.block b (World.block_lt_of_cell? w _ h.1))
theorem Box3W.btn {w w1 : World} {b lo hi : Nat} {x y z : Value} (h : Box3W w b x y z) (hb : Btn lo hi w w1) (hd : b < lo ∨ hi ≤ b) : Box3W w1 b x y z := h.same (hb.block b (World.block_lt_of_cell? w _ h.1) (by omega))
theorem new_box3W (w : World) (x y z : Value) (T : TypeId) : Box3W (w.alloc (.cells #[x, y, z] T)) w.heap.size x y z := ⟨by go_simp, by go_simp, by go_simp, by go_simp, by go_simp, by go_simp⟩
theorem Box3W.set0 {w : World} {b : Nat} {x y z : Value} (h : Box3W w b x y z) (u : Value) : Box3W (w.setCell ⟨b, 0, none⟩ u) b u y z := by
  obtain ⟨c0, c1, c2, f0, f1, f2⟩ := h
  exact ⟨by go_simp, by go_simp, by go_simp, by go_simp, by go_simp, by go_simp⟩
theorem Box3W.set1 {w : World} {b : Nat} {x y z : Value} (h : Box3W w b x y z) (u : Value) : Box3W (w.setCell ⟨b, 1, none⟩ u) b x u z := by
  obtain ⟨c0, c1, c2, f0, f1, f2⟩ := h
  exact ⟨by go_simp, by go_simp, by go_simp, by go_simp, by go_simp, by go_simp⟩
theorem Box3W.set2 {w : World} {b : Nat} {x y z : Value} (h : Box3W w b x y z) (u : Value) : Box3W (w.setCell ⟨b, 2, none⟩ u) b x y u := by
  obtain ⟨c0, c1, c2, f0, f1, f2⟩ := h
  exact ⟨by go_simp, by go_simp, by go_simp, by go_simp, by go_simp, by go_simp⟩
theorem Box3W.box {w : World} {b : Nat} {x y z : Value} (h : Box3W w b x y z) : Box3 w b x y z := ⟨h.1, h.2.1, h.2.2.1⟩

theorem row2_btn {w w1 : World} {g n lo hi : Nat} {f : Nat → Rng} (h : Row2 w g n f) (hb : Btn lo hi w w1) (hd : g < lo ∨ hi ≤ g) : Row2 w1 g n f := fun i hi' => by
  obtain ⟨h0, h1, h2, h3⟩ := h i hi'
  have hh := hb.block g (World.block_lt_of_cell? w _ h0) (by omega)
  exact ⟨(World.cell?_of_block (a := ⟨g, _, none⟩) hh).trans h0, (World.cell?_of_block (a := ⟨g, _, none⟩) hh).trans h1, (World.frozen?_of_block (a := ⟨g, _, none⟩) hh).trans h2, (World.frozen?_of_block (a := ⟨g, _, none⟩) hh).trans h3⟩
theorem row2_spn {w : World} {g : Nat} {L : List Rng} (h : Row2 w g L.length (fun i => L.getD i (0, 0))) (hm : L.length ≤ maxLen) : Spn w (.slice (some ⟨g, 0, none⟩) L.length L.length) L :=
  ⟨_, _, rfl, Nat.le_refl _, hm, fun _ => ⟨g, 0, rfl, fun i hi => by rw [Nat.zero_add]; exact ⟨(h i hi).1, (h i hi).2.1⟩⟩⟩

/-- What toOwn leaves: a cache in two new rows, one ahead of the other. -/
def ToOw (w : World) (O : OwT) (e : Ending) (w' : World) : Prop :=
  ∃ b1 b2, e = .returned (.agg #[.string (mkB O.text), .slice (some ⟨b1, 0, none⟩) O.hav.length O.hav.length, .slice (some ⟨b2, 0, none⟩) O.dirt.length O.dirt.length]) ∧ w.heap.size ≤ b1 ∧ b1 < b2 ∧ b2 < w'.heap.size ∧
    Hid (Row2 w' b1 O.hav.length (fun i => O.hav.getD i (0, 0))) ∧ Hid (Row2 w' b2 O.dirt.length (fun i => O.dirt.getD i (0, 0))) ∧ Below w.heap.size w w'

end Go.Proofs.Ytldafphfnkamjaa
