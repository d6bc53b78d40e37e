/-
  spec.LayOf: what each object has of a file.
-/
import Derived.Test.YtjbkahfbaploaaaLofMath
import Derived.Test.YtjbkahfbaploaaaLayFn
import Derived.Test.YtjbkahfbaploaaaRow1
import Derived.Test.YtjbkahfbaploaaaSpecLong
import Derived.Deep.LoopGhost
import Derived.Deep.RegionHeld3
import Derived.Laws.OwnMore
namespace Go.Proofs.Ytjbkahfbaploaaa
open Go.RowKit Go.Lib

abbrev strs (L : List (List UInt8)) : List Value := L.map (fun s => Value.string (mkB s))

/-- What a function that makes a list of strings leaves. -/
def RgS (w : World) (L : List (List UInt8)) (e : Ending) (w' : World) : Prop :=
  ∃ v, e = .returned v ∧ Hid (w'.ownsRow w.heap.size 9 1 v L.length (strs L)) ∧ Below w.heap.size w w'

theorem infoStr : (Try.prog.info? 9).map (fun i => (i.zero, i.size, i.bytes)) = some (some (.string (mkB [])), 1, 16) := by kernel_rfl

theorem own_base1 {W : World} {b b' : Nat} {e : TypeId} {size : Nat} {v : Value} {k : Nat} {xs : List Value} (h : W.ownsRow b e size v k xs) (hb : b' ≤ b) : W.ownsRow b' e size v k xs :=
  ⟨h.1, h.2.imp id fun ⟨g, cap, cur, h1, h2, h3⟩ => ⟨g, cap, cur, h1, Nat.le_trans hb h2, h3⟩⟩

/-- What holds at the head of a round: the box of the layout, the row. -/
structure SLI (w wr : World) (size many : Int) (v : Value) (L : List (List UInt8)) : Prop where
  own : wr.ownsRow (w.heap.size + 1) 9 1 v L.length (strs L)
  kl : Box2 wr w.heap.size size many
  bel : Below w.heap.size w wr
  sz : w.heap.size + 1 ≤ wr.heap.size

theorem SLI.keep {w wr w1 : World} {size many : Int} {v : Value} {L : List (List UInt8)} (h : SLI w wr size many v L) (hb : Below wr.heap.size wr w1) : SLI w w1 size many v L :=
  ⟨own_below1 h.own hb, h.kl.keep hb, h.bel.trans (hb.mono h.bel.size), Nat.le_trans h.sz hb.size⟩

theorem box_far1 {w : World} {b g o : Nat} {x y : Int} {u : Value} (h : Box2 w b x y) (hne : g ≠ b) : Box2 (w.setCell ⟨g, o, none⟩ u) b x y := by
  obtain ⟨p1, p2, p3, p4⟩ := h
  exact ⟨by rw [World.cell?_setCell_far _ _ _ _ hne]; exact p1, by rw [World.cell?_setCell_far _ _ _ _ hne]; exact p2, by go_simp, by go_simp⟩

theorem strs_set (L : List (List UInt8)) (o : Nat) (s : List UInt8) : (strs L).set o (.string (mkB s)) = strs (L.set o s) := by
  unfold strs; rw [List.map_set]

theorem SLI.put {w wr : World} {size many : Int} {g cap o n : Nat} {L : List (List UInt8)} {s : List UInt8} (hn : L.length = n) (h : SLI w wr size many (.slice (some ⟨g, 0, none⟩) n cap) L) :
    SLI w (wr.setCell ⟨g, o, none⟩ (.string (mkB s))) size many (.slice (some ⟨g, 0, none⟩) n cap) (L.set o s) := by
  subst hn
  have hg := (h.own.lt g rfl).1
  have hs := (h.own.stored o (.string (mkB s))).1
  rw [strs_set] at hs
  have hl : (L.set o s).length = L.length := by simp
  exact ⟨by rw [hl]; exact hs, box_far1 h.kl (by omega), h.bel.setCell (p := ⟨g, o, none⟩) (by simp only; omega) _, by simpa [World.setCell] using h.sz⟩

theorem SLI.added {w wr w9 : World} {size many : Int} {v v' : Value} {L : List (List UInt8)} {s : List UInt8} {n : Nat} {C : Array Value} {U : TypeId} (h : SLI w wr size many v L) (hn : n = L.length)
    (hown : w9.ownsRow (w.heap.size + 1) 9 1 v' (n + 1) (strs L ++ [.string (mkB s)]))
    (hgrow : (wr.alloc (.cells C U)).grownBy w9 v.ownBlock) : SLI w w9 size many v' (L ++ [s]) := by
  have hb : Below wr.heap.size wr (wr.alloc (.cells C U)) := (Below.refl _ _).alloc (Nat.le_refl _) _
  have hk := h.keep hb
  have ho : w9.ownsRow (w.heap.size + 1) 9 1 v' (L ++ [s]).length (strs (L ++ [s])) := by
    unfold strs at hown ⊢
    rw [List.map_append, List.length_append, ← hn]; exact hown
  have hne : ∀ b, b < w.heap.size + 1 → v.ownBlock ≠ some b := fun b hlt e => by have := (h.own.lt b e).1; omega
  have hsz := hgrow.size
  have hbx : Box2 w9 w.heap.size size many := by
    obtain ⟨h0, h1, h2, h3⟩ := hk.kl
    have hblk : w9.heap[w.heap.size]? = (wr.alloc (.cells C U)).heap[w.heap.size]? := hgrow.block _ (World.block_lt_of_cell? _ _ h0) (fun e => hne _ (by omega) e.symm)
    exact ⟨(World.cell?_of_block (a := ⟨w.heap.size, 0, none⟩) hblk).trans h0, (World.cell?_of_block (a := ⟨w.heap.size, 1, none⟩) hblk).trans h1, (World.frozen?_of_block (a := ⟨w.heap.size, 0, none⟩) hblk).trans h2, (World.frozen?_of_block (a := ⟨w.heap.size, 1, none⟩) hblk).trans h3⟩
  exact ⟨ho, hbx, hk.bel.trans ⟨hgrow.os, hgrow.tape, hgrow.output, hgrow.size, fun i hi => hgrow.block i (Nat.lt_of_lt_of_le hi hk.bel.size) (fun e => hne i (by omega) e.symm)⟩, Nat.le_trans hk.sz hsz⟩


end Go.Proofs.Ytjbkahfbaploaaa
