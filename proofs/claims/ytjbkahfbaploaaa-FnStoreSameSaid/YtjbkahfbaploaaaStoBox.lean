/-
  Stores in boxes: contracts of toStore, eqStore, markStore, heldStore, szStore.
-/
import Derived.Test.YtjbkahfbaploaaaStoTo
import Derived.Test.YtjbkahfbaploaaaEqList
import Derived.Test.YtjbkahfbaploaaaStoMark
import Derived.Deep.LoopGhost
namespace Go.Proofs.Ytjbkahfbaploaaa
open Go.RowKit

/-- A box of five values that may be written. -/
structure Box5W (w : World) (b : Nat) (v0 v1 v2 v3 v4 : Value) : Prop where
  c0 : w.cell? ⟨b, 0, none⟩ = some v0
  c1 : w.cell? ⟨b, 1, none⟩ = some v1
  c2 : w.cell? ⟨b, 2, none⟩ = some v2
  c3 : w.cell? ⟨b, 3, none⟩ = some v3
  c4 : w.cell? ⟨b, 4, none⟩ = some v4
  f0 : w.frozen? ⟨b, 0, none⟩ = false
  f1 : w.frozen? ⟨b, 1, none⟩ = false
  f2 : w.frozen? ⟨b, 2, none⟩ = false
  f3 : w.frozen? ⟨b, 3, none⟩ = false
  f4 : w.frozen? ⟨b, 4, none⟩ = false
theorem Box5W.same {w w1 : World} {b : Nat} {v0 v1 v2 v3 v4 : Value} (h : Box5W w b v0 v1 v2 v3 v4) (hh : w1.heap[b]? = w.heap[b]?) : Box5W w1 b v0 v1 v2 v3 v4 :=
  ⟨(World.cell?_of_block (a := ⟨b, 0, none⟩) hh).trans h.c0, (World.cell?_of_block (a := ⟨b, 1, none⟩) hh).trans h.c1, (World.cell?_of_block (a := ⟨b, 2, none⟩) hh).trans h.c2, (World.cell?_of_block (a := ⟨b, 3, none⟩) hh).trans h.c3, (World.cell?_of_block (a := ⟨b, 4, none⟩) hh).trans h.c4,
   (World.frozen?_of_block (a := ⟨b, 0, none⟩) hh).trans h.f0, (World.frozen?_of_block (a := ⟨b, 1, none⟩) hh).trans h.f1, (World.frozen?_of_block (a := ⟨b, 2, none⟩) hh).trans h.f2, (World.frozen?_of_block (a := ⟨b, 3, none⟩) hh).trans h.f3, (World.frozen?_of_block (a := ⟨b, 4, none⟩) hh).trans h.f4⟩
theorem Box5W.keep {w w1 : World} {b : Nat} {v0 v1 v2 v3 v4 : Value} (h : Box5W w b v0 v1 v2 v3 v4) (hb : Below w.heap.size w w1) : Box5W w1 b v0 v1 v2 v3 v4 :=
  h.same (hb.block b (World.block_lt_of_cell? w _ h.c0))
theorem Box5W.btn {w w1 : World} {b lo hi : Nat} {v0 v1 v2 v3 v4 : Value} (h : Box5W w b v0 v1 v2 v3 v4) (hb : Btn lo hi w w1) (hd : b < lo ∨ hi ≤ b) : Box5W w1 b v0 v1 v2 v3 v4 :=
  h.same (hb.block b (World.block_lt_of_cell? w _ h.c0) (by omega))
theorem Box5W.box {w : World} {b : Nat} {v0 v1 v2 v3 v4 : Value} (h : Box5W w b v0 v1 v2 v3 v4) : Box5 w b v0 v1 v2 v3 v4 := ⟨h.c0, h.c1, h.c2, h.c3, h.c4⟩
theorem new_box5W (w : World) (v0 v1 v2 v3 v4 : Value) (T : TypeId) : Box5W (w.alloc (.cells #[v0, v1, v2, v3, v4] T)) w.heap.size v0 v1 v2 v3 v4 := ⟨by go_simp, by go_simp, by go_simp, by go_simp, by go_simp, by go_simp, by go_simp, by go_simp, by go_simp, by go_simp⟩
theorem Box5W.set0 {w : World} {b : Nat} {v0 v1 v2 v3 v4 : Value} (h : Box5W w b v0 v1 v2 v3 v4) (x : Value) : Box5W (w.setCell ⟨b, 0, none⟩ x) b x v1 v2 v3 v4 := by
  obtain ⟨c0, c1, c2, c3, c4, f0, f1, f2, f3, f4⟩ := h
  exact ⟨by go_simp, by go_simp, by go_simp, by go_simp, by go_simp, by go_simp, by go_simp, by go_simp, by go_simp, by go_simp⟩
theorem Box5W.set1 {w : World} {b : Nat} {v0 v1 v2 v3 v4 : Value} (h : Box5W w b v0 v1 v2 v3 v4) (x : Value) : Box5W (w.setCell ⟨b, 1, none⟩ x) b v0 x v2 v3 v4 := by
  obtain ⟨c0, c1, c2, c3, c4, f0, f1, f2, f3, f4⟩ := h
  exact ⟨by go_simp, by go_simp, by go_simp, by go_simp, by go_simp, by go_simp, by go_simp, by go_simp, by go_simp, by go_simp⟩
theorem Box5W.set2 {w : World} {b : Nat} {v0 v1 v2 v3 v4 : Value} (h : Box5W w b v0 v1 v2 v3 v4) (x : Value) : Box5W (w.setCell ⟨b, 2, none⟩ x) b v0 v1 x v3 v4 := by
  obtain ⟨c0, c1, c2, c3, c4, f0, f1, f2, f3, f4⟩ := h
  exact ⟨by go_simp, by go_simp, by go_simp, by go_simp, by go_simp, by go_simp, by go_simp, by go_simp, by go_simp, by go_simp⟩
theorem Box5W.set3 {w : World} {b : Nat} {v0 v1 v2 v3 v4 : Value} (h : Box5W w b v0 v1 v2 v3 v4) (x : Value) : Box5W (w.setCell ⟨b, 3, none⟩ x) b v0 v1 v2 x v4 := by
  obtain ⟨c0, c1, c2, c3, c4, f0, f1, f2, f3, f4⟩ := h
  exact ⟨by go_simp, by go_simp, by go_simp, by go_simp, by go_simp, by go_simp, by go_simp, by go_simp, by go_simp, by go_simp⟩
theorem Box5W.set4 {w : World} {b : Nat} {v0 v1 v2 v3 v4 : Value} (h : Box5W w b v0 v1 v2 v3 v4) (x : Value) : Box5W (w.setCell ⟨b, 4, none⟩ x) b v0 v1 v2 v3 x := by
  obtain ⟨c0, c1, c2, c3, c4, f0, f1, f2, f3, f4⟩ := h
  exact ⟨by go_simp, by go_simp, by go_simp, by go_simp, by go_simp, by go_simp, by go_simp, by go_simp, by go_simp, by go_simp⟩

/-- How many values a store has, at most. -/
def N5.le (N : N5) : Prop := N.a ≤ 1048576 ∧ N.b ≤ 1048576 ∧ N.c ≤ 1048576 ∧ N.d ≤ 1048576 ∧ N.e ≤ 1048576




/-- What is left when sizes are counted: if anything is, P holds. -/
def SzR (w : World) (left : Int) (P : Prop) (e : Ending) (w' : World) : Prop := ∃ z : Int, e = .returned (.int .i64 z) ∧ -1 ≤ z ∧ z ≤ left ∧ (0 ≤ z → P) ∧ w = w'



/-- A store of bounded size. -/
structure StBd (S : StT) : Prop where
  le : S.n5.le
  now : ∀ i, (S.now.getD i []).length ≤ 1048576
  sure : ∀ i, (S.sure.getD i []).length ≤ 1048576
theorem getD_all {α : Type} {L : List α} {d : α} {P : α → Prop} (h : ∀ i, i < L.length → P (L.getD i d)) (hd : P d) (i : Nat) : P (L.getD i d) := by
  by_cases e : i < L.length
  · exact h i e
  · rw [List.getD_eq_getElem?_getD, List.getElem?_eq_none (by omega)]; exact hd



/-- What is marked. -/
def mk5 (k : Nat) (N : N5) : F5 := ⟨mkS k, mkS (k + N.a), mkI ((k + N.a + N.b : Nat) : Int), mkI ((k + N.a + N.b + N.c : Nat) : Int), mkI ((k + N.a + N.b + N.c + N.d : Nat) : Int)⟩
theorem dis_same {w w1 : World} {v u : Value} (hg : w.grownBy w1 v.ownBlock) (hd : Dis u v) : ∀ b, u.ownBlock = some b → b < w.heap.size → w1.heap[b]? = w.heap[b]? := fun b hb hlt => hg.block b hlt (fun e => hd b hb e.symm)
theorem M5.marka {w w1 : World} {lo hi : Nat} {v0 v1 v2 v3 v4 : Value} {N : N5} {F : F5} {f : Nat → Value} (h : M5 w lo hi v0 v1 v2 v3 v4 N F) (hm : Mk1 w1 lo hi v0 N.a f) (hg : w.grownBy w1 v0.ownBlock) : M5 w1 lo hi v0 v1 v2 v3 v4 N { F with a := f } :=
  { h with a := hm, b := h.b.same (dis_same hg h.ab.symm), c := h.c.same (dis_same hg h.ac.symm), d := h.d.same (dis_same hg h.ad.symm), e := h.e.same (dis_same hg h.ae.symm) }
theorem M5.markb {w w1 : World} {lo hi : Nat} {v0 v1 v2 v3 v4 : Value} {N : N5} {F : F5} {f : Nat → Value} (h : M5 w lo hi v0 v1 v2 v3 v4 N F) (hm : Mk1 w1 lo hi v1 N.b f) (hg : w.grownBy w1 v1.ownBlock) : M5 w1 lo hi v0 v1 v2 v3 v4 N { F with b := f } :=
  { h with a := h.a.same (dis_same hg h.ab), b := hm, c := h.c.same (dis_same hg h.bc.symm), d := h.d.same (dis_same hg h.bd.symm), e := h.e.same (dis_same hg h.be.symm) }
theorem M5.markc {w w1 : World} {lo hi : Nat} {v0 v1 v2 v3 v4 : Value} {N : N5} {F : F5} {f : Nat → Value} (h : M5 w lo hi v0 v1 v2 v3 v4 N F) (hm : Mk1 w1 lo hi v2 N.c f) (hg : w.grownBy w1 v2.ownBlock) : M5 w1 lo hi v0 v1 v2 v3 v4 N { F with c := f } :=
  { h with a := h.a.same (dis_same hg h.ac), b := h.b.same (dis_same hg h.bc), c := hm, d := h.d.same (dis_same hg h.cd.symm), e := h.e.same (dis_same hg h.ce.symm) }
theorem M5.markd {w w1 : World} {lo hi : Nat} {v0 v1 v2 v3 v4 : Value} {N : N5} {F : F5} {f : Nat → Value} (h : M5 w lo hi v0 v1 v2 v3 v4 N F) (hm : Mk1 w1 lo hi v3 N.d f) (hg : w.grownBy w1 v3.ownBlock) : M5 w1 lo hi v0 v1 v2 v3 v4 N { F with d := f } :=
  { h with a := h.a.same (dis_same hg h.ad), b := h.b.same (dis_same hg h.bd), c := h.c.same (dis_same hg h.cd), d := hm, e := h.e.same (dis_same hg h.de.symm) }
theorem M5.marke {w w1 : World} {lo hi : Nat} {v0 v1 v2 v3 v4 : Value} {N : N5} {F : F5} {f : Nat → Value} (h : M5 w lo hi v0 v1 v2 v3 v4 N F) (hm : Mk1 w1 lo hi v4 N.e f) (hg : w.grownBy w1 v4.ownBlock) : M5 w1 lo hi v0 v1 v2 v3 v4 N { F with e := f } :=
  { h with a := h.a.same (dis_same hg h.ae), b := h.b.same (dis_same hg h.be), c := h.c.same (dis_same hg h.ce), d := h.d.same (dis_same hg h.de), e := hm }





end Go.Proofs.Ytjbkahfbaploaaa
