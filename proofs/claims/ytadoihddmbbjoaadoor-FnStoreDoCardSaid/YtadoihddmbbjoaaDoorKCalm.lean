/-
  A slice value that reads as a list of one-cell values; a row of such values that may be written.
  Rows of one-cell values that the code makes and appends to.
  A region that draws its order and whose calls make memory but change nothing that existed: one walk, in the order of the text, serves every order (Derived/Deep/Quiet.lean's theorem at the class of all worlds that leave the first world's memory alone).
-/
import Derived.Test.YtadoihddmbbjoaaDoorKRegCore
import Derived.Lib.Hide
import Derived.Laws.MakeOwn
import Derived.Laws.AppendOwn
import Derived.Deep.DeepCutAuto
import Derived.BigQuiet
import Derived.Deep.QuietTactic
namespace Go.Proofs.YtadoihddmbbjoaaDoor
open Go.RowKit

/-- v is a slice of n values f 0, f 1, .. -/
def Vls (w : World) (v : Value) (n : Nat) (f : Nat → Value) : Prop :=
  ∃ (a : Option Addr) (cap : Nat), v = .slice a n cap ∧ n ≤ cap ∧ cap ≤ maxLen ∧ (0 < n → ∃ b off, a = some ⟨b, off, none⟩ ∧ ∀ i, i < n → w.cell? ⟨b, off + i, none⟩ = some (f i))

theorem Vls.keep {w w1 : World} {v : Value} {n : Nat} {f : Nat → Value} (h : Vls w v n f) (hb : Below w.heap.size w w1) : Vls w1 v n f := by
  obtain ⟨a, cap, hv, hl, hm, hc⟩ := h
  refine ⟨a, cap, hv, hl, hm, fun hp => ?_⟩
  obtain ⟨b, off, ha, hcc⟩ := hc hp
  exact ⟨b, off, ha, fun i hi => cell_keep hb (hcc i hi)⟩
theorem Vls.congr {w : World} {v : Value} {n : Nat} {f g : Nat → Value} (h : Vls w v n f) (e : ∀ i, i < n → f i = g i) : Vls w v n g := by
  obtain ⟨a, cap, hv, hl, hm, hc⟩ := h
  refine ⟨a, cap, hv, hl, hm, fun hp => ?_⟩
  obtain ⟨b, off, ha, hcc⟩ := hc hp
  exact ⟨b, off, ha, fun i hi => by rw [← e i hi]; exact hcc i hi⟩

/-- A row of one-cell values at the head of block b, which may be written. -/
def Row1 (w : World) (b n : Nat) (f : Nat → Value) : Prop :=
  ∀ i, i < n → w.cell? ⟨b, i, none⟩ = some (f i) ∧ w.frozen? ⟨b, i, none⟩ = false
theorem Row1.keep {w w1 : World} {b n : Nat} {f : Nat → Value} (h : Row1 w b n f) (hb : Below w.heap.size w w1) : Row1 w1 b n f := fun i hi => by
  obtain ⟨h1, h2⟩ := h i hi
  have hlt := World.block_lt_of_cell? w _ h1
  exact ⟨cell_keep hb h1, (hb.frozen (p := ⟨b, i, none⟩) hlt).trans h2⟩
theorem Row1.congr {w : World} {b n : Nat} {f g : Nat → Value} (h : Row1 w b n f) (e : ∀ i, i < n → f i = g i) : Row1 w b n g := fun i hi => by
  rw [← e i hi]; exact h i hi
theorem Row1.vls {w : World} {b n cap : Nat} {f : Nat → Value} (h : Row1 w b n f) (hc : n ≤ cap) (hm : cap ≤ maxLen) : Vls w (.slice (some ⟨b, 0, none⟩) n cap) n f :=
  ⟨_, cap, rfl, hc, hm, fun _ => ⟨b, 0, rfl, fun i hi => by rw [Nat.zero_add]; exact (h i hi).1⟩⟩
theorem Row1.set {w : World} {b n k : Nat} {f : Nat → Value} {x : Value} (h : Row1 w b n f) (hk : k < n) : Row1 (w.setCell ⟨b, k, none⟩ x) b n (fun i => if i = k then x else f i) := fun i hi => by
  obtain ⟨h1, h2⟩ := h i hi
  obtain ⟨k1, k2⟩ := h k hk
  by_cases e : i = k
  · subst e
    refine ⟨?_, by go_simp⟩
    simp only [if_true]; go_simp
  · refine ⟨?_, by go_simp⟩
    simp only [if_neg e]
    rw [World.cell?_setCell_other _ _ _ _ (fun h => e (by injection h with _ h _; exact h.symm))]
    exact h1

/-- 'make([]T, n)', as an equation for every world. -/
theorem run_make_row1 {P : Program} (t e : TypeId) (i : TypeInfo) (z : Value) (ht : P.underlying t = some (.slice e)) (hi : P.info? e = some i) (hz : i.zero = some z)
    (kl kc : IntKind) (n c : Nat) (hnc : n ≤ c) (hbytes : i.bytes * c ≤ 281474976710656) (h63 : c ≤ 9223372036854775807) (w : World) :
    (Instr.makeSlice t (.int kl (n : Int)) (.int kc (c : Int))).run P w = .ok (.slice (some ⟨w.heap.size, 0, none⟩) n c) (w.alloc (.cells (madeCells z.cells (c * i.size)) e)) := by
  have hb : (i.bytes : Int) * (c : Int) ≤ 281474976710656 := by
    have h : ((i.bytes * c : Nat) : Int) ≤ 281474976710656 := by omega
    rwa [Int.natCast_mul] at h
  have hr := run_make (P := P) w t e i z ht hi hz kl kc n c (by omega) (by omega) hb (by omega)
  simp only [Int.toNat_natCast] at hr
  exact hr

theorem Row1.made (w : World) (n : Nat) (x : Value) (T : TypeId) : Row1 (w.alloc (.cells (madeCells #[x] n) T)) w.heap.size n (fun _ => x) := fun i hi => by
  have hg : ∀ j, j < n → (madeCells #[x] n)[j]? = some x := fun j hj => by
    simp [madeCells, hj, Nat.mod_one]
  refine ⟨?_, by go_simp⟩
  rw [World.cell?_alloc_new]; exact hg _ hi

/-- What a conversion leaves: a new row that reads as f. -/
def ToR (w : World) (n : Nat) (f : Nat → Value) (e : Ending) (w' : World) : Prop :=
  ∃ nb, e = .returned (.slice (some ⟨nb, 0, none⟩) n n) ∧ w.heap.size ≤ nb ∧ Row1 w' nb n f ∧ Below w.heap.size w w'

theorem below_drewN1 (w : World) (n : Nat) : Below w.heap.size w (w.drewN n) := ⟨rfl, rfl, rfl, Nat.le_refl _, fun _ _ => rfl⟩

end Go.Proofs.YtadoihddmbbjoaaDoor

namespace Go.Proofs.YtadoihddmbbjoaaDoor
open Go.RowKit

theorem own_cap1 {w : World} {B g n cap : Nat} {e : TypeId} {size : Nat} {xs : List Value} (h : w.ownsRow B e size (.slice (some ⟨g, 0, none⟩) n cap) n xs) : n ≤ cap ∧ cap ≤ maxLen := by
  rcases h.2 with ⟨h1, _⟩ | ⟨_, _, _, h1, _, _, h2, h3, _⟩
  · simp at h1
  · simp only [Value.slice.injEq] at h1
    obtain ⟨_, _, rfl⟩ := h1
    exact ⟨h2, h3⟩

/-- A row of its own reads as its list, nil included. -/
theorem own_vls {w : World} {B n : Nat} {T : TypeId} {v : Value} {xs : List Value} (h : w.ownsRow B T 1 v n xs) : Vls w v n (fun i => xs.getD i (.bool false)) := by
  have hl : xs.length = n := by have := h.1; omega
  rcases h.2 with ⟨rfl, rfl⟩ | ⟨g, cap, cur, rfl, hb, hh, hc, hm, _⟩
  · exact ⟨none, 0, rfl, Nat.le_refl _, by unfold maxLen; omega, fun h => absurd h (by omega)⟩
  · refine ⟨some ⟨g, 0, none⟩, cap, rfl, hc, hm, fun _ => ⟨g, 0, rfl, fun i hi => ?_⟩⟩
    have hx : xs[i]? = some (xs[i]'(by omega)) := List.getElem?_eq_getElem (by omega)
    have := h.cells (g := g) rfl i _ hx
    have ha : (⟨g, 0, none⟩ : Addr).add i = ⟨g, 0 + i, none⟩ := by
      rcases Nat.eq_zero_or_pos i with e | e
      · subst e; simp [Addr.add]
      · simp [Addr.add, Nat.ne_of_gt e]
    rw [ha] at this
    rw [this]
    show some _ = some (xs.getD i (.bool false))
    rw [List.getD_eq_getElem?_getD, hx]; rfl

theorem own_row1 {w : World} {B g n cap : Nat} {T : TypeId} {xs : List Value} (h : w.ownsRow B T 1 (.slice (some ⟨g, 0, none⟩) n cap) n xs) : Row1 w g n (fun i => xs.getD i (.bool false)) := fun i hi => by
  have hl : xs.length = n := by have := h.1; omega
  have hx : xs[i]? = some (xs[i]'(by omega)) := List.getElem?_eq_getElem (by omega)
  refine ⟨?_, h.frozenAt _⟩
  rw [h.cellAt _ (by omega)]
  show _ = some (xs.getD i (.bool false))
  rw [List.getD_eq_getElem?_getD, hx]; rfl

theorem new_row1 (w : World) (T : TypeId) {B : Nat} (hB : B ≤ w.heap.size) : (w.alloc (.cells #[] T)).ownsRow B T 1 (.slice (some ⟨w.heap.size, 0, none⟩) 0 0) 0 [] := by
  have := World.ownsRow_made w (e := T) (base := B) (size := 1) #[] 0 hB (by unfold maxLen; omega) rfl
  simpa using this

theorem own_below1 {W W' : World} {b : Nat} {e : TypeId} {size : Nat} {v : Value} {k : Nat} {xs : List Value} (h : W.ownsRow b e size v k xs) (hb : Below W.heap.size W W') : W'.ownsRow b e size v k xs :=
  ⟨h.1, h.2.imp id fun ⟨g, cap, cur, h1, h2, h3, h4⟩ => ⟨g, cap, cur, h1, h2, (hb.block g (Array.getElem?_eq_some_iff.1 h3).1).trans h3, h4⟩⟩

theorem one_new (w : World) (x : Value) (T : TypeId) : ∀ (j : Nat) (u : Value), [x][j]? = some u → (w.alloc (.cells #[x] T)).cell? ((⟨w.heap.size, 0, none⟩ : Addr).add j) = some u := by
  intro j u h
  match j, h with
  | 0, h => simp at h; subst h; simp [Addr.add]

/-- What lies below stays below an append to a row of one's own. -/
theorem below_app {A W w1 : World} {B k n : Nat} {e T : TypeId} {size : Nat} {v : Value} {xs : List Value} {C : Array Value} (h : Below B A W) (ho : W.ownsRow B e size v k xs)
    (hg : (W.alloc (.cells C T)).grownBy w1 v.ownBlock) (hB : B ≤ W.heap.size) (hn : n = B) : Below n A w1 := by
  subst hn
  refine h.trans ⟨hg.os, hg.tape, hg.output, ?_, fun i hi => ?_⟩
  · have := hg.size; simp at this; omega
  · rw [hg.block i (by simp; omega) (fun e => by have := ho.lt i e.symm; omega)]
    exact Below.heap_alloc W _ i (by omega)

end Go.Proofs.YtadoihddmbbjoaaDoor

namespace Go.Proofs.YtadoihddmbbjoaaDoor
open Go.RowKit

/-- A world behind W in which nothing that W held has changed. -/
structure BelowOf (W : World) where
  w : World
  below : Below W.heap.size W w

instance {W : World} : Inhabited (BelowOf W) := ⟨⟨W, Below.refl _ _⟩⟩

theorem BelowOf.cell {W : World} (x : BelowOf W) {b o : Nat} {v : Value} (h : W.cell? ⟨b, o, none⟩ = some v) : x.w.cell? ⟨b, o, none⟩ = some v := cell_keep x.below h

theorem wp_region_calm {P : Program} {id : Nat} {Q : Exit → Act → World → Prop} {a : Act} {w : World} {l : List Oper} (hm : P.follows .mixedOrders = true) (hB : Region.lexB .any l.toArray = true)
    (h : wpQuiet P l.toArray (fun w' => ∃ x : BelowOf w, w' = x.w) (fun a' => ∀ w', (∃ x : BelowOf w, w' = x.w) → Q .normal a' w') l a) : (Code.region id l.toArray true).wp P Q a w :=
  wp_region_quiet (C := fun w' => ∃ x : BelowOf w, w' = x.w) hm hB ⟨⟨w.drew, (Below.refl _ _).drew⟩, rfl⟩ (by simpa using h)

theorem Calls.calm {P : Program} {f : FuncId} {args : Array Value} {W : World} {x : BelowOf W} {v : Value}
    (h : Calls P f args x.w fun e w' => e = .returned v ∧ Below x.w.heap.size x.w w') : Calls P f args x.w fun e w'' => e = .returned v ∧ ∃ y : BelowOf W, w'' = y.w :=
  h.mono fun _ w' ⟨he, hb⟩ => ⟨he, ⟨w', x.below.trans (hb.mono x.below.size)⟩, rfl⟩

end Go.Proofs.YtadoihddmbbjoaaDoor
