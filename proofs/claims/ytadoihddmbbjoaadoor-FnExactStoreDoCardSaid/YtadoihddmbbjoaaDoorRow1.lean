/-
  Rows of one-cell values that the code makes and appends to.
-/
import Derived.Test.YtadoihddmbbjoaaDoorVls
import Derived.Laws.AppendOwn
import Derived.Deep.DeepCutAuto
namespace Go.Proofs.YtadoihddmbbjoaaDoor
open Go.RowKit

theorem own_cap1 {w : World} {B g n cap : Nat} {e : TypeId} {size : Nat} {xs : List Value} (h : w.ownsRow B e size (.slice (some ⟨g, 0, none⟩) n cap) n xs) : n ≤ cap ∧ cap ≤ maxLen := by
  rcases h.2 with ⟨h1, _⟩ | ⟨_, _, _, h1, _, _, h2, h3, _⟩
  · simp at h1
  · simp only [Value.slice.injEq] at h1
    obtain ⟨_, _, rfl⟩ := h1
    exact ⟨h2, h3⟩

/-- A row of its own reads as its list, nil included. -/
theorem own_vls {w : World} {B n : Nat} {T : TypeId} {v : Value} {xs : List Value} (h : w.ownsRow B T 1 v n xs) : Vls w v n (fun i => xs.getD i (.bool false)) := by
  have hl : xs.length = n := by have := h.1; omega
  rcases h.2 with ⟨rfl, rfl⟩ | ⟨g, cap, cur, rfl, hb, hh, hc, hm, _⟩
  · exact ⟨none, 0, rfl, Nat.le_refl _, by unfold maxLen; omega, fun h => absurd h (by omega)⟩
  · refine ⟨some ⟨g, 0, none⟩, cap, rfl, hc, hm, fun _ => ⟨g, 0, rfl, fun i hi => ?_⟩⟩
    have hx : xs[i]? = some (xs[i]'(by omega)) := List.getElem?_eq_getElem (by omega)
    have := h.cells (g := g) rfl i _ hx
    have ha : (⟨g, 0, none⟩ : Addr).add i = ⟨g, 0 + i, none⟩ := by
      rcases Nat.eq_zero_or_pos i with e | e
      · subst e; simp [Addr.add]
      · simp [Addr.add, Nat.ne_of_gt e]
    rw [ha] at this
    rw [this]
    show some _ = some (xs.getD i (.bool false))
    rw [List.getD_eq_getElem?_getD, hx]; rfl

theorem own_row1 {w : World} {B g n cap : Nat} {T : TypeId} {xs : List Value} (h : w.ownsRow B T 1 (.slice (some ⟨g, 0, none⟩) n cap) n xs) : Row1 w g n (fun i => xs.getD i (.bool false)) := fun i hi => by
  have hl : xs.length = n := by have := h.1; omega
  have hx : xs[i]? = some (xs[i]'(by omega)) := List.getElem?_eq_getElem (by omega)
  refine ⟨?_, h.frozenAt _⟩
  rw [h.cellAt _ (by omega)]
  show _ = some (xs.getD i (.bool false))
  rw [List.getD_eq_getElem?_getD, hx]; rfl

theorem new_row1 (w : World) (T : TypeId) {B : Nat} (hB : B ≤ w.heap.size) : (w.alloc (.cells #[] T)).ownsRow B T 1 (.slice (some ⟨w.heap.size, 0, none⟩) 0 0) 0 [] := by
  have := World.ownsRow_made w (e := T) (base := B) (size := 1) #[] 0 hB (by unfold maxLen; omega) rfl
  simpa using this

theorem own_below1 {W W' : World} {b : Nat} {e : TypeId} {size : Nat} {v : Value} {k : Nat} {xs : List Value} (h : W.ownsRow b e size v k xs) (hb : Below W.heap.size W W') : W'.ownsRow b e size v k xs :=
  ⟨h.1, h.2.imp id fun ⟨g, cap, cur, h1, h2, h3, h4⟩ => ⟨g, cap, cur, h1, h2, (hb.block g (Array.getElem?_eq_some_iff.1 h3).1).trans h3, h4⟩⟩

theorem one_new (w : World) (x : Value) (T : TypeId) : ∀ (j : Nat) (u : Value), [x][j]? = some u → (w.alloc (.cells #[x] T)).cell? ((⟨w.heap.size, 0, none⟩ : Addr).add j) = some u := by
  intro j u h
  match j, h with
  | 0, h => simp at h; subst h; simp [Addr.add]

/-- What lies below stays below an append to a row of one's own. -/
theorem below_app {A W w1 : World} {B k n : Nat} {e T : TypeId} {size : Nat} {v : Value} {xs : List Value} {C : Array Value} (h : Below B A W) (ho : W.ownsRow B e size v k xs)
    (hg : (W.alloc (.cells C T)).grownBy w1 v.ownBlock) (hB : B ≤ W.heap.size) (hn : n = B) : Below n A w1 := by
  subst hn
  refine h.trans ⟨hg.os, hg.tape, hg.output, ?_, fun i hi => ?_⟩
  · have := hg.size; simp at this; omega
  · rw [hg.block i (by simp; omega) (fun e => by have := ho.lt i e.symm; omega)]
    exact Below.heap_alloc W _ i (by omega)

end Go.Proofs.YtadoihddmbbjoaaDoor
