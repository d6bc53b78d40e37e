/-
  Contract of DrawLayLong: a layout, a list of at most six small numbers; nothing that existed has changed.
-/
import Derived.Test.YtdlofeemeeabjaaDrawLay
import Derived.Test.YtdlofeemeeabjaaRow1
import Derived.Deep.LoopGhost
import Derived.Deep.DeepCutAuto
namespace Go.Proofs.Ytdlofeemeeabjaa
open Go.RowKit

def DtLL (w : World) (e : Ending) (w' : World) : Prop :=
  ∃ (size many : Int) (v : Value) (L : List Int), e = .returned (.tuple #[.agg #[.int .i64 size, .int .i64 many], v]) ∧ Hid (Vls w' v L.length (fun i => .int .i64 (L.getD i 0))) ∧ (∀ x ∈ L, -1 ≤ x ∧ x ≤ 49) ∧ L.length ≤ 6 ∧ Below w.heap.size w w'

theorem infoIntR : (Try.prog.info? 3).map (fun i => (i.zero, i.size, i.bytes)) = some (some (.int .i64 0), 1, 8) := by kernel_rfl

theorem vls_list {w : World} {v : Value} {n : Nat} {L : List Int} (hn : n = L.length) (h : Vls w v n (fun i => (L.map (Value.int .i64)).getD i (.bool false))) : Vls w v L.length (fun i => .int .i64 (L.getD i 0)) := by
  subst hn
  refine h.congr fun i hi => ?_
  simp [List.getD_eq_getElem?_getD, List.getElem?_map, List.getElem?_eq_getElem hi]

/-- What holds between two draws: the two boxes, the row, the reader. -/
structure LLI (w wr : World) (rb q B : Nat) (size many : Int) (T : TypeId) (v : Value) (xs : List Value) : Prop where
  k0 : Box2 wr w.heap.size 0 0
  kp : Box2 wr B size many
  own : wr.ownsRow (B + 1) T 1 v xs.length xs
  rd : Rd wr rb q
  bel : Below w.heap.size w wr
  b1 : w.heap.size < rb
  b2 : rb < B
  b3 : B < wr.heap.size

theorem LLI.step {w wr w' : World} {rb q q' B : Nat} {size many : Int} {T : TypeId} {v : Value} {xs : List Value} (h : LLI w wr rb q B size many T v xs) (hr : Rd w' rb q') (hg : wr.grownBy w' (some rb)) : LLI w w' rb q' B size many T v xs :=
  ⟨h.k0.grown hg (by have := h.b1; omega), h.kp.grown hg (by have := h.b2; omega), World.ownsRow.kept h.own hg (by
      by_cases e : v.ownBlock = some rb
      · exact absurd (h.own.lt rb e).1 (by have := h.b2; omega)
      · exact Or.inr e), hr, h.bel.trans (below_grown hg (by have := h.b1; omega) h.bel.size), h.b1, h.b2, Nat.lt_of_lt_of_le h.b3 hg.size⟩
theorem LLI.alloc {w wr : World} {rb q B : Nat} {size many : Int} {T : TypeId} {v : Value} {xs : List Value} (h : LLI w wr rb q B size many T v xs) (o : Obj) : LLI w (wr.alloc o) rb q B size many T v xs :=
  have hb : Below wr.heap.size wr (wr.alloc o) := (Below.refl _ _).alloc (Nat.le_refl _) _
  ⟨h.k0.keep hb, h.kp.keep hb, h.own.alloc o, h.rd.keep hb, h.bel.trans (hb.mono h.bel.size), h.b1, h.b2, Nat.lt_of_lt_of_le h.b3 hb.size⟩
theorem rd_grown1 {a b : World} {rb q g : Nat} (h : Rd a rb q) (hg : a.grownBy b (some g)) (hlt : rb < g) : Rd b rb q := by
  obtain ⟨z, x, len, cap, h0, h1, h2, h3, h4⟩ := h
  refine ⟨z, x, len, cap, grown_cell hg (by omega) h0, grown_cell hg (by omega) h1, (grown_frozen hg (by omega) h1).trans h2, h3, fun hp => ?_⟩
  obtain ⟨b', off, ha, hne, hc⟩ := h4 hp
  exact ⟨b', off, ha, hne, fun i hi => ⟨grown_cell hg (by omega) (hc i hi).1, (hc i hi).2⟩⟩
theorem LLI.app {w wr w9 : World} {rb q B n : Nat} {size many : Int} {T : TypeId} {v v' x : Value} {xs : List Value} {C : Array Value} {U : TypeId} (h : LLI w wr rb q B size many T v xs) (hn : n = xs.length)
    (hown : w9.ownsRow (B + 1) T 1 v' (n + 1) (xs ++ [x])) (hgrow : (wr.alloc (.cells C U)).grownBy w9 v.ownBlock) : LLI w w9 rb q B size many T v' (xs ++ [x]) := by
  have ha := h.alloc (.cells C U)
  have hne : ∀ g, v.ownBlock = some g → B + 1 ≤ g := fun g e => (h.own.lt g e).1
  have hsz := hgrow.size
  cases hv : v.ownBlock with
  | none =>
    rw [hv] at hgrow
    have hg2 : (wr.alloc (.cells C U)).grownBy w9 (some rb) := ⟨hgrow.os, hgrow.tape, hgrow.output, hgrow.size, fun i hi _ => hgrow.block i hi (by simp)⟩
    have hb9 : Below (wr.alloc (.cells C U)).heap.size (wr.alloc (.cells C U)) w9 := ⟨hgrow.os, hgrow.tape, hgrow.output, hgrow.size, fun i hi => hgrow.block i hi (by simp)⟩
    exact ⟨ha.k0.keep hb9, ha.kp.keep hb9, by rw [List.length_append, ← hn]; exact hown, ha.rd.keep hb9, ha.bel.trans (hb9.mono ha.bel.size), h.b1, h.b2, Nat.lt_of_lt_of_le ha.b3 hsz⟩
  | some g =>
    have hg := hne g hv
    rw [hv] at hgrow
    exact ⟨ha.k0.grown hgrow (by have := h.b1; have := h.b2; omega), ha.kp.grown hgrow (by omega), by rw [List.length_append, ← hn]; exact hown, rd_grown1 ha.rd hgrow (by have := h.b2; omega),
      ha.bel.trans (below_grown hgrow (by have := h.b1; have := h.b2; omega) ha.bel.size), h.b1, h.b2, Nat.lt_of_lt_of_le ha.b3 hsz⟩


end Go.Proofs.Ytdlofeemeeabjaa
