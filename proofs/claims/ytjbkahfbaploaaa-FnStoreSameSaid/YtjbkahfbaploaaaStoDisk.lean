/-
  The disk: contracts of stateOf, diskOf.
-/
import Derived.Test.YtjbkahfbaploaaaStoOk
import Derived.Test.YtjbkahfbaploaaaEdited
import Derived.Test.YtjbkahfbaploaaaRegOps
import Derived.Laws.Cover3
import Derived.Deep.RegionHeld3
namespace Go.Proofs.Ytjbkahfbaploaaa
open Go.RowKit Go.Lib

/-- A sheet in a block from lo on. -/
def Shg (w : World) (lo : Nat) (v : Value) (l : List UInt8) : Prop :=
  ∃ g cap, v = .slice (some ⟨g, 0, none⟩) l.length cap ∧ l.length ≤ cap ∧ lo ≤ g ∧ g < w.heap.size ∧ ∀ j (h : j < l.length), w.cell? ⟨g, j, none⟩ = some (.int .u8 (l[j].toNat : Int))
theorem Shg.sht {w : World} {lo : Nat} {v : Value} {l : List UInt8} (h : Shg w lo v l) : Sht w v l := by
  obtain ⟨g, cap, e, h1, h2, h3, h4⟩ := h; exact ⟨g, cap, e, h1, h3, h4⟩
theorem Shg.keep {w w1 : World} {lo : Nat} {v : Value} {l : List UInt8} (h : Shg w lo v l) (hb : Below w.heap.size w w1) : Shg w1 lo v l := by
  obtain ⟨g, cap, e, h1, h2, h3, h4⟩ := h; exact ⟨g, cap, e, h1, h2, Nat.lt_of_lt_of_le h3 hb.size, fun j hj => cell_keep hb (h4 j hj)⟩
theorem Shg.btn {w w1 : World} {lo l h' : Nat} {v : Value} {t : List UInt8} (h : Shg w lo v t) (hb : Btn l h' w w1) (hd : h' ≤ lo) : Shg w1 lo v t := by
  obtain ⟨g, cap, e, h1, h2, h3, h4⟩ := h
  exact ⟨g, cap, e, h1, h2, Nat.lt_of_lt_of_le h3 hb.size, fun j hj => (World.cell?_of_block (a := ⟨g, j, none⟩) (hb.block g h3 (by omega))).trans (h4 j hj)⟩
theorem Shg.form {w : World} {lo : Nat} {v : Value} {l : List UInt8} (h : Shg w lo v l) : ∃ g cap, v = .slice (some ⟨g, 0, none⟩) l.length cap := by
  obtain ⟨g, cap, e, -⟩ := h; exact ⟨g, cap, e⟩
theorem Shg.new {w w1 : World} {lo n cap : Nat} {l : List UInt8} (h : Sht w1 (.slice (some ⟨w.heap.size, 0, none⟩) n cap) l) (hl : lo ≤ w.heap.size) : Shg w1 lo (.slice (some ⟨w.heap.size, 0, none⟩) n cap) l := by
  obtain ⟨g, cap', e, h1, h3, h4⟩ := h
  injection e with e1 e2 e3
  injection e1 with e1
  injection e1 with e1
  subst e1 e2 e3
  exact ⟨_, _, rfl, h1, hl, h3, h4⟩
theorem Shg.wide {w : World} {lo lo' : Nat} {v : Value} {l : List UInt8} (h : Shg w lo v l) (hl : lo' ≤ lo) : Shg w lo' v l := by
  obtain ⟨g, cap, e, h1, h2, h3, h4⟩ := h; exact ⟨g, cap, e, h1, Nat.le_trans hl h2, h3, h4⟩

theorem row_cell {w : World} {b : Nat} {C : Array Value} {T : TypeId} (h : w.heap[b]? = some (.cells C T (0, 0))) (i : Nat) (v : Value) (hv : C[i]? = some v) : w.cell? ⟨b, i, none⟩ = some v := by
  rw [cell_of_row w b i _ _ _ h]; exact hv
theorem row_free {w : World} {b : Nat} {C : Array Value} {T : TypeId} (h : w.heap[b]? = some (.cells C T (0, 0))) (i : Nat) : w.frozen? ⟨b, i, none⟩ = false := by
  simp [World.frozen?, h]
theorem row_set {w : World} {b : Nat} {C : Array Value} {T : TypeId} (h : w.heap[b]? = some (.cells C T (0, 0))) (i : Nat) (v : Value) : (w.setCell ⟨b, i, none⟩ v).heap[b]? = some (.cells (C.setIfInBounds i v) T (0, 0)) := by
  rw [Go.heap_setCell_same _ b i _ _ _ h]
theorem row_far {w w1 : World} {b lo hi : Nat} {O : Obj} (h : w.heap[b]? = some O) (hb : Btn lo hi w w1) (hd : b < lo ∨ hi ≤ b) : w1.heap[b]? = some O :=
  (hb.block b (Array.getElem?_eq_some_iff.1 h).1 (by omega)).trans h
theorem row_keep {w w1 : World} {b : Nat} {O : Obj} (h : w.heap[b]? = some O) (hb : Below w.heap.size w w1) : w1.heap[b]? = some O :=
  (hb.block b (Array.getElem?_eq_some_iff.1 h).1).trans h
theorem row_new (w : World) (C : Array Value) (T : TypeId) : (w.alloc (.cells C T)).heap[w.heap.size]? = some (.cells C T (0, 0)) := by show (w.heap.push _)[w.heap.size]? = _; simp

/-- What stateOf leaves. -/
def ToStt (w : World) (a0 a1 a2 : List UInt8) (b0 b1 b2 : Int) (e : Ending) (w' : World) : Prop :=
  ∃ s0 s1 s2, e = .returned (.agg #[s0, s1, s2, .int .i64 b0, .int .i64 b1, .int .i64 b2]) ∧ Hid (Shg w' w.heap.size s0 a0 ∧ Shg w' w.heap.size s1 a1 ∧ Shg w' w.heap.size s2 a2) ∧ Below w.heap.size w w'


end Go.Proofs.Ytjbkahfbaploaaa

namespace Go.Proofs.Ytjbkahfbaploaaa
open Go.RowKit Go.Lib

/-- Block d is a disk that holds the store S; all that is its own lies from lo on. -/
def Dsk (w : World) (lo d : Nat) (S : StT) : Prop :=
  ∃ s0 s1 s2 t0 t1 t2 : Value, w.heap[d]? = some (.cells #[s0, s1, s2, .int .i64 (S.last.getD 0 0), .int .i64 (S.last.getD 1 0), .int .i64 (S.last.getD 2 0), t0, t1, t2, .int .i64 (S.slast.getD 0 0), .int .i64 (S.slast.getD 1 0), .int .i64 (S.slast.getD 2 0), .int .i64 (S.floors.getD 0 0), .int .i64 (S.floors.getD 1 0), .int .i64 (S.floors.getD 2 0)] 84 (0, 0)) ∧ lo ≤ d ∧ Shg w lo s0 (S.now.getD 0 []) ∧ Shg w lo s1 (S.now.getD 1 []) ∧ Shg w lo s2 (S.now.getD 2 []) ∧ Shg w lo t0 (S.sure.getD 0 []) ∧ Shg w lo t1 (S.sure.getD 1 []) ∧ Shg w lo t2 (S.sure.getD 2 []) ∧ (s0.ownBlock ≠ some d ∧ s1.ownBlock ≠ some d ∧ s2.ownBlock ≠ some d ∧ t0.ownBlock ≠ some d ∧ t1.ownBlock ≠ some d ∧ t2.ownBlock ≠ some d)
theorem Dsk.keep {w w1 : World} {lo d : Nat} {S : StT} (h : Dsk w lo d S) (hb : Below w.heap.size w w1) : Dsk w1 lo d S := by
  obtain ⟨s0, s1, s2, t0, t1, t2, h0, hl, h1, h2, h3, h4, h5, h6, h7⟩ := h
  exact ⟨s0, s1, s2, t0, t1, t2, row_keep h0 hb, hl, h1.keep hb, h2.keep hb, h3.keep hb, h4.keep hb, h5.keep hb, h6.keep hb, h7⟩
theorem Dsk.wide {w : World} {lo lo' d : Nat} {S : StT} (h : Dsk w lo d S) (hl' : lo' ≤ lo) : Dsk w lo' d S := by
  obtain ⟨s0, s1, s2, t0, t1, t2, h0, hl, h1, h2, h3, h4, h5, h6, h7⟩ := h
  exact ⟨s0, s1, s2, t0, t1, t2, h0, Nat.le_trans hl' hl, h1.wide hl', h2.wide hl', h3.wide hl', h4.wide hl', h5.wide hl', h6.wide hl', h7⟩

theorem row_allocB {X w' : World} {C : Array Value} {T : TypeId} (hb : Below (X.alloc (.cells C T)).heap.size (X.alloc (.cells C T)) w') : w'.heap[X.heap.size]? = some (.cells C T (0, 0)) := row_keep (row_new X C T) hb
theorem row_allocD {X w' : World} {C : Array Value} {T : TypeId} (hb : Below (X.alloc (.cells C T)).drew.heap.size (X.alloc (.cells C T)).drew w') : w'.heap[X.heap.size]? = some (.cells C T (0, 0)) := row_keep (w := (X.alloc (.cells C T)).drew) (row_new X C T) hb
theorem row_allocE {X w' : World} {C : Array Value} {T : TypeId} (hb : Below (X.drew.alloc (.cells C T)).heap.size (X.drew.alloc (.cells C T)) w') : w'.heap[X.heap.size]? = some (.cells C T (0, 0)) := row_keep (w := X.drew.alloc (.cells C T)) (row_new X.drew C T) hb

theorem bel1 {w w1 W : World} (h : Below w.heap.size w w1) (k : Below w1.heap.size w1 W) : Below w.heap.size w W := h.trans (k.mono h.size)

theorem cell_btn {w w1 : World} {lo hi b o : Nat} {v : Value} (hb : Btn lo hi w w1) (hd : b < lo ∨ hi ≤ b) (h : w.cell? ⟨b, o, none⟩ = some v) : w1.cell? ⟨b, o, none⟩ = some v :=
  (World.cell?_of_block (a := ⟨b, o, none⟩) (hb.block b (World.block_lt_of_cell? w _ h) (by omega))).trans h
theorem Shg.off {w w1 : World} {lo g : Nat} {v : Value} {t : List UInt8} (h : Shg w lo v t) (hb : Btn g (g + 1) w w1) (hg : v.ownBlock ≠ some g) : Shg w1 lo v t := by
  obtain ⟨g', cap, e, h1, h2, h3, h4⟩ := h
  have hne : g' ≠ g := fun e' => hg (by rw [e, e']; rfl)
  exact ⟨g', cap, e, h1, h2, Nat.lt_of_lt_of_le h3 hb.size, fun j hj => (World.cell?_of_block (a := ⟨g', j, none⟩) (hb.block g' h3 (by omega))).trans (h4 j hj)⟩
theorem Shg.lt {w : World} {lo : Nat} {v : Value} {t : List UInt8} (h : Shg w lo v t) : ∀ b, v.ownBlock = some b → lo ≤ b ∧ b < w.heap.size := by
  obtain ⟨g', cap, e, h1, h2, h3, h4⟩ := h
  intro b hb
  rw [e] at hb
  simp [Value.ownBlock] at hb
  omega

/-- What diskOf leaves. -/
def ToD (w : World) (S : StT) (e : Ending) (w' : World) : Prop := ∃ d, e = .returned (.tuple #[.pointer (some ⟨d, 0, none⟩), .bool true]) ∧ Hid (Dsk w' w.heap.size d S) ∧ Below w.heap.size w w'
/-- .. of what is no store. -/
def ToD0 (w : World) (e : Ending) (w' : World) : Prop := e = .returned (.tuple #[.pointer none, .bool false]) ∧ Below w.heap.size w w'


/-- Three sheets and three numbers, as a value. -/
def Stt (w : World) (lo : Nat) (v : Value) (a0 a1 a2 : List UInt8) (b0 b1 b2 : Int) : Prop :=
  ∃ s0 s1 s2, v = .agg #[s0, s1, s2, .int .i64 b0, .int .i64 b1, .int .i64 b2] ∧ Shg w lo s0 a0 ∧ Shg w lo s1 a1 ∧ Shg w lo s2 a2
theorem Stt.keep {w w1 : World} {lo : Nat} {v : Value} {a0 a1 a2 : List UInt8} {b0 b1 b2 : Int} (h : Stt w lo v a0 a1 a2 b0 b1 b2) (hb : Below w.heap.size w w1) : Stt w1 lo v a0 a1 a2 b0 b1 b2 := by
  obtain ⟨s0, s1, s2, e, h0, h1, h2⟩ := h
  exact ⟨s0, s1, s2, e, h0.keep hb, h1.keep hb, h2.keep hb⟩
theorem Stt.wide {w : World} {lo lo' : Nat} {v : Value} {a0 a1 a2 : List UInt8} {b0 b1 b2 : Int} (h : Stt w lo v a0 a1 a2 b0 b1 b2) (hl : lo' ≤ lo) : Stt w lo' v a0 a1 a2 b0 b1 b2 := by
  obtain ⟨s0, s1, s2, e, h0, h1, h2⟩ := h
  exact ⟨s0, s1, s2, e, h0.wide hl, h1.wide hl, h2.wide hl⟩
/-- None of its sheets lies in block g. -/
def Off (v : Value) (g : Nat) : Prop := ∀ s0 s1 s2 p q r, v = .agg #[s0, s1, s2, p, q, r] → s0.ownBlock ≠ some g ∧ s1.ownBlock ≠ some g ∧ s2.ownBlock ≠ some g
theorem Stt.off {w : World} {lo g : Nat} {v : Value} {a0 a1 a2 : List UInt8} {b0 b1 b2 : Int} (h : Stt w lo v a0 a1 a2 b0 b1 b2) (hg : g < lo ∨ w.heap.size ≤ g) : Off v g := by
  obtain ⟨s0, s1, s2, e, h0, h1, h2⟩ := h
  intro s0' s1' s2' p q r e'
  rw [e] at e'
  injection e' with e'
  simp only [Array.mk.injEq, List.cons.injEq] at e'
  obtain ⟨rfl, rfl, rfl, -⟩ := e'
  exact ⟨fun e => by have := h0.lt g e; omega, fun e => by have := h1.lt g e; omega, fun e => by have := h2.lt g e; omega⟩

/-- While a disk is made: what holds of what has come up. -/
structure Dst (w1 : World) (rd : Nat → Option Value) (n0 n1 n2 : List UInt8) (l0 l1 l2 : Int) (u0 u1 u2 : List UInt8) (m0 m1 m2 : Int) (L : Nat → Bool) (x : Nat → Value) (w : World) : Prop where
  bel : Below w1.heap.size w1 w
  r : ∀ i v, rd i = some v → L i = true → x i = v
  c4 : L 4 = true → Stt w w1.heap.size (x 4) n0 n1 n2 l0 l1 l2
  c9 : L 9 = true → Stt w w1.heap.size (x 9) u0 u1 u2 m0 m1 m2
  al : L 15 = true → ∃ g, x 15 = .pointer (some ⟨g, 0, none⟩) ∧ w1.heap.size ≤ g ∧ w.heap[g]? = some (.cells #[.slice none 0 0, .slice none 0 0, .slice none 0 0, .int .i64 0, .int .i64 0, .int .i64 0, .slice none 0 0, .slice none 0 0, .slice none 0 0, .int .i64 0, .int .i64 0, .int .i64 0, .int .i64 0, .int .i64 0, .int .i64 0] 84 (0, 0)) ∧ (L 4 = true → Off (x 4) g) ∧ (L 9 = true → Off (x 9) g)
theorem Dst.read {w1 w : World} {rd : Nat → Option Value} {n0 n1 n2 u0 u1 u2 : List UInt8} {l0 l1 l2 m0 m1 m2 : Int} {L : Nat → Bool} {x : Nat → Value} (h : Dst w1 rd n0 n1 n2 l0 l1 l2 u0 u1 u2 m0 m1 m2 L x w) {i : Nat} (v : Value)
    (hi : i ≠ 4 ∧ i ≠ 9 ∧ i ≠ 15) (hv : ∀ u, rd i = some u → v = u) : Dst w1 rd n0 n1 n2 l0 l1 l2 u0 u1 u2 m0 m1 m2 (lset L i) (upd x i v) w := by
  obtain ⟨i1, i2, i3⟩ := hi
  refine ⟨h.bel, fun k u hk hl => ?_, fun hl => ?_, fun hl => ?_, fun hl => ?_⟩
  · by_cases e : k = i
    · subst e; rw [upd_eq]; exact hv u hk
    · rw [upd_ne e]; rw [lset_ne e] at hl; exact h.r k u hk hl
  · rw [upd_ne (Ne.symm i1)]; rw [lset_ne (Ne.symm i1)] at hl; exact h.c4 hl
  · rw [upd_ne (Ne.symm i2)]; rw [lset_ne (Ne.symm i2)] at hl; exact h.c9 hl
  · rw [lset_ne (Ne.symm i3)] at hl
    obtain ⟨g, h1, h2, h3, h4, h5⟩ := h.al hl
    rw [upd_ne (Ne.symm i3), upd_ne (Ne.symm i1), upd_ne (Ne.symm i2), lset_ne (Ne.symm i1), lset_ne (Ne.symm i2)]
    exact ⟨g, h1, h2, h3, h4, h5⟩
theorem Dst.call4 {w1 w w' : World} {rd : Nat → Option Value} {n0 n1 n2 u0 u1 u2 : List UInt8} {l0 l1 l2 m0 m1 m2 : Int} {L : Nat → Bool} {x : Nat → Value} (h : Dst w1 rd n0 n1 n2 l0 l1 l2 u0 u1 u2 m0 m1 m2 L x w) (v : Value) (hr : rd 4 = none)
    (hv : Stt w' w.heap.size v n0 n1 n2 l0 l1 l2) (hb : Below w.heap.size w w') : Dst w1 rd n0 n1 n2 l0 l1 l2 u0 u1 u2 m0 m1 m2 (lset L 4) (upd x 4 v) w' := by
  have hs := h.bel.size
  refine ⟨h.bel.trans (hb.mono hs), fun k u hk hl => ?_, fun _ => ?_, fun hl => ?_, fun hl => ?_⟩
  · have e : k ≠ 4 := fun e => by rw [e, hr] at hk; cases hk
    rw [upd_ne e]; rw [lset_ne e] at hl; exact h.r k u hk hl
  · rw [upd_eq]; exact hv.wide hs
  · exact (h.c9 hl).keep hb
  · obtain ⟨g, h1, h2, h3, h4, h5⟩ := h.al hl
    have hg := (Array.getElem?_eq_some_iff.1 h3).1
    exact ⟨g, h1, h2, row_keep h3 hb, fun _ => hv.off (.inl hg), h5⟩
theorem Dst.call9 {w1 w w' : World} {rd : Nat → Option Value} {n0 n1 n2 u0 u1 u2 : List UInt8} {l0 l1 l2 m0 m1 m2 : Int} {L : Nat → Bool} {x : Nat → Value} (h : Dst w1 rd n0 n1 n2 l0 l1 l2 u0 u1 u2 m0 m1 m2 L x w) (v : Value) (hr : rd 9 = none)
    (hv : Stt w' w.heap.size v u0 u1 u2 m0 m1 m2) (hb : Below w.heap.size w w') : Dst w1 rd n0 n1 n2 l0 l1 l2 u0 u1 u2 m0 m1 m2 (lset L 9) (upd x 9 v) w' := by
  have hs := h.bel.size
  refine ⟨h.bel.trans (hb.mono hs), fun k u hk hl => ?_, fun hl => ?_, fun _ => ?_, fun hl => ?_⟩
  · have e : k ≠ 9 := fun e => by rw [e, hr] at hk; cases hk
    rw [upd_ne e]; rw [lset_ne e] at hl; exact h.r k u hk hl
  · exact (h.c4 hl).keep hb
  · rw [upd_eq]; exact hv.wide hs
  · obtain ⟨g, h1, h2, h3, h4, h5⟩ := h.al hl
    have hg := (Array.getElem?_eq_some_iff.1 h3).1
    exact ⟨g, h1, h2, row_keep h3 hb, h4, fun _ => hv.off (.inl hg)⟩
theorem Dst.made {w1 w : World} {rd : Nat → Option Value} {n0 n1 n2 u0 u1 u2 : List UInt8} {l0 l1 l2 m0 m1 m2 : Int} {L : Nat → Bool} {x : Nat → Value} (h : Dst w1 rd n0 n1 n2 l0 l1 l2 u0 u1 u2 m0 m1 m2 L x w) (hr : rd 15 = none) :
    Dst w1 rd n0 n1 n2 l0 l1 l2 u0 u1 u2 m0 m1 m2 (lset L 15) (upd x 15 (.pointer (some ⟨w.heap.size, 0, none⟩))) (w.alloc (.cells #[.slice none 0 0, .slice none 0 0, .slice none 0 0, .int .i64 0, .int .i64 0, .int .i64 0, .slice none 0 0, .slice none 0 0, .slice none 0 0, .int .i64 0, .int .i64 0, .int .i64 0, .int .i64 0, .int .i64 0, .int .i64 0] 84)) := by
  have hs := h.bel.size
  have hb : Below w.heap.size w (w.alloc (.cells #[.slice none 0 0, .slice none 0 0, .slice none 0 0, .int .i64 0, .int .i64 0, .int .i64 0, .slice none 0 0, .slice none 0 0, .slice none 0 0, .int .i64 0, .int .i64 0, .int .i64 0, .int .i64 0, .int .i64 0, .int .i64 0] 84)) := (Below.refl _ _).alloc (Nat.le_refl _) _
  refine ⟨h.bel.trans (hb.mono hs), fun k u hk hl => ?_, fun hl => ?_, fun hl => ?_, fun _ => ?_⟩
  · have e : k ≠ 15 := fun e => by rw [e, hr] at hk; cases hk
    rw [upd_ne e]; rw [lset_ne e] at hl; exact h.r k u hk hl
  · exact (h.c4 hl).keep hb
  · exact (h.c9 hl).keep hb
  · exact ⟨w.heap.size, rfl, hs, row_new _ _ _, fun hl => (h.c4 hl).off (.inr (Nat.le_refl _)), fun hl => (h.c9 hl).off (.inr (Nat.le_refl _))⟩

theorem wp_loadR {o : Oper} {a : Act} {w : World} {K : Act → World → Prop} {Q : Exit → Act → World → Prop} (ty : TypeId) (y : Operand) (ho : o.op = .load ty y) (ad : Value) (hy : a.eval y = ad) (v : Value)
    (hr : (Instr.loadAt ty ad).run Try.prog w = .ok v w) (h : K (a.put o.dst v) w) : o.wp Try.prog a w K Q := by
  unfold Oper.wp execOp
  simp only [ho, hy, Sem.run_bind, hr, Result.andThen_ok, Sem.run_pure]
  exact h
theorem load_arr3 (w : World) (b o : Nat) (f0 f1 f2 : Int) (h0 : w.cell? ⟨b, o, none⟩ = some (.int .i64 f0)) (h1 : w.cell? ⟨b, o + 1, none⟩ = some (.int .i64 f1)) (h2 : w.cell? ⟨b, o + 2, none⟩ = some (.int .i64 f2)) :
    (Instr.loadAt 80 (.pointer (some ⟨b, o, none⟩))).run Try.prog w = .ok (.agg #[.int .i64 f0, .int .i64 f1, .int .i64 f2]) w := by go_simp

/-- The frame of diskOf. -/
def Fd (t0 t1 t2 t3 : Value) (q5 q6 q7 : Value) (x : Nat → Value) : Act := { tmps := #[t0, t1, t2, t3, x 15, q5, q6, q7, x 0, x 1, x 2, x 3, x 4, x 5, x 6, x 7, x 8, x 9, x 10, x 11, x 12, x 13, x 14], defers := [] }


end Go.Proofs.Ytjbkahfbaploaaa
