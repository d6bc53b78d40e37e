/-
  A slice value that reads as a list of one-cell values; a row of such values that may be written.
-/
import Derived.Test.YtadoihddmbbjoaaDoorSpan
import Derived.Lib.Hide
import Derived.Laws.MakeOwn
namespace Go.Proofs.YtadoihddmbbjoaaDoor
open Go.RowKit

/-- v is a slice of n values f 0, f 1, .. -/
def Vls (w : World) (v : Value) (n : Nat) (f : Nat → Value) : Prop :=
  ∃ (a : Option Addr) (cap : Nat), v = .slice a n cap ∧ n ≤ cap ∧ cap ≤ maxLen ∧ (0 < n → ∃ b off, a = some ⟨b, off, none⟩ ∧ ∀ i, i < n → w.cell? ⟨b, off + i, none⟩ = some (f i))

theorem Vls.keep {w w1 : World} {v : Value} {n : Nat} {f : Nat → Value} (h : Vls w v n f) (hb : Below w.heap.size w w1) : Vls w1 v n f := by
  obtain ⟨a, cap, hv, hl, hm, hc⟩ := h
  refine ⟨a, cap, hv, hl, hm, fun hp => ?_⟩
  obtain ⟨b, off, ha, hcc⟩ := hc hp
  exact ⟨b, off, ha, fun i hi => cell_keep hb (hcc i hi)⟩
theorem Vls.congr {w : World} {v : Value} {n : Nat} {f g : Nat → Value} (h : Vls w v n f) (e : ∀ i, i < n → f i = g i) : Vls w v n g := by
  obtain ⟨a, cap, hv, hl, hm, hc⟩ := h
  refine ⟨a, cap, hv, hl, hm, fun hp => ?_⟩
  obtain ⟨b, off, ha, hcc⟩ := hc hp
  exact ⟨b, off, ha, fun i hi => by rw [← e i hi]; exact hcc i hi⟩

/-- A row of one-cell values at the head of block b, which may be written. -/
def Row1 (w : World) (b n : Nat) (f : Nat → Value) : Prop :=
  ∀ i, i < n → w.cell? ⟨b, i, none⟩ = some (f i) ∧ w.frozen? ⟨b, i, none⟩ = false
theorem Row1.keep {w w1 : World} {b n : Nat} {f : Nat → Value} (h : Row1 w b n f) (hb : Below w.heap.size w w1) : Row1 w1 b n f := fun i hi => by
  obtain ⟨h1, h2⟩ := h i hi
  have hlt := World.block_lt_of_cell? w _ h1
  exact ⟨cell_keep hb h1, (hb.frozen (p := ⟨b, i, none⟩) hlt).trans h2⟩
theorem Row1.congr {w : World} {b n : Nat} {f g : Nat → Value} (h : Row1 w b n f) (e : ∀ i, i < n → f i = g i) : Row1 w b n g := fun i hi => by
  rw [← e i hi]; exact h i hi
theorem Row1.vls {w : World} {b n cap : Nat} {f : Nat → Value} (h : Row1 w b n f) (hc : n ≤ cap) (hm : cap ≤ maxLen) : Vls w (.slice (some ⟨b, 0, none⟩) n cap) n f :=
  ⟨_, cap, rfl, hc, hm, fun _ => ⟨b, 0, rfl, fun i hi => by rw [Nat.zero_add]; exact (h i hi).1⟩⟩
theorem Row1.set {w : World} {b n k : Nat} {f : Nat → Value} {x : Value} (h : Row1 w b n f) (hk : k < n) : Row1 (w.setCell ⟨b, k, none⟩ x) b n (fun i => if i = k then x else f i) := fun i hi => by
  obtain ⟨h1, h2⟩ := h i hi
  obtain ⟨k1, k2⟩ := h k hk
  by_cases e : i = k
  · subst e
    refine ⟨?_, by go_simp⟩
    simp only [if_true]; go_simp
  · refine ⟨?_, by go_simp⟩
    simp only [if_neg e]
    rw [World.cell?_setCell_other _ _ _ _ (fun h => e (by injection h with _ h _; exact h.symm))]
    exact h1

/-- 'make([]T, n)', as an equation for every world. -/
theorem run_make_row1 {P : Program} (t e : TypeId) (i : TypeInfo) (z : Value) (ht : P.underlying t = some (.slice e)) (hi : P.info? e = some i) (hz : i.zero = some z)
    (kl kc : IntKind) (n c : Nat) (hnc : n ≤ c) (hbytes : i.bytes * c ≤ 281474976710656) (h63 : c ≤ 9223372036854775807) (w : World) :
    (Instr.makeSlice t (.int kl (n : Int)) (.int kc (c : Int))).run P w = .ok (.slice (some ⟨w.heap.size, 0, none⟩) n c) (w.alloc (.cells (madeCells z.cells (c * i.size)) e)) := by
  have hb : (i.bytes : Int) * (c : Int) ≤ 281474976710656 := by
    have h : ((i.bytes * c : Nat) : Int) ≤ 281474976710656 := by omega
    rwa [Int.natCast_mul] at h
  have hr := run_make (P := P) w t e i z ht hi hz kl kc n c (by omega) (by omega) hb (by omega)
  simp only [Int.toNat_natCast] at hr
  exact hr

theorem Row1.made (w : World) (n : Nat) (x : Value) (T : TypeId) : Row1 (w.alloc (.cells (madeCells #[x] n) T)) w.heap.size n (fun _ => x) := fun i hi => by
  have hg : ∀ j, j < n → (madeCells #[x] n)[j]? = some x := fun j hj => by
    simp [madeCells, hj, Nat.mod_one]
  refine ⟨?_, by go_simp⟩
  rw [World.cell?_alloc_new]; exact hg _ hi

/-- What a conversion leaves: a new row that reads as f. -/
def ToR (w : World) (n : Nat) (f : Nat → Value) (e : Ending) (w' : World) : Prop :=
  ∃ nb, e = .returned (.slice (some ⟨nb, 0, none⟩) n n) ∧ w.heap.size ≤ nb ∧ Row1 w' nb n f ∧ Below w.heap.size w w'

theorem below_drewN1 (w : World) (n : Nat) : Below w.heap.size w (w.drewN n) := ⟨rfl, rfl, rfl, Nat.le_refl _, fun _ _ => rfl⟩

end Go.Proofs.YtadoihddmbbjoaaDoor
