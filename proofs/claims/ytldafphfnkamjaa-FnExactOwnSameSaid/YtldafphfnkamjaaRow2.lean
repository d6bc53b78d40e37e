/-
  Rows of ranges that may be written (Row2).
-/
import Derived.Test.YtldafphfnkamjaaSpansOk
import Derived.Laws.MakeOwn
namespace Go.Proofs.Ytldafphfnkamjaa
open Go.RowKit

/-- 'make([]T, n)' where T has more than one cell, as an equation for every world. -/
theorem run_make_rowN {P : Program} (t e : TypeId) (i : TypeInfo) (z : Value) (ht : P.underlying t = some (.slice e)) (hi : P.info? e = some i) (hz : i.zero = some z)
    (kl kc : IntKind) (n c : Nat) (hnc : n ≤ c) (hbytes : i.bytes * c ≤ 281474976710656) (h63 : c ≤ 9223372036854775807) (w : World) :
    (Instr.makeSlice t (.int kl (n : Int)) (.int kc (c : Int))).run P w = .ok (.slice (some ⟨w.heap.size, 0, none⟩) n c) (w.alloc (.cells (madeCells z.cells (c * i.size)) e)) := by
  have hb : (i.bytes : Int) * (c : Int) ≤ 281474976710656 := by
    have h : ((i.bytes * c : Nat) : Int) ≤ 281474976710656 := by omega
    rwa [Int.natCast_mul] at h
  have hr := run_make (P := P) w t e i z ht hi hz kl kc n c (by omega) (by omega) hb (by omega)
  simp only [Int.toNat_natCast] at hr
  exact hr

/-- A row of n ranges at the head of block b, that may be written. -/
def Row2 (w : World) (b n : Nat) (f : Nat → Rng) : Prop :=
  ∀ i, i < n → w.cell? ⟨b, i * 2, none⟩ = some (.int .i64 (f i).1) ∧ w.cell? ⟨b, i * 2 + 1, none⟩ = some (.int .i64 (f i).2) ∧ w.frozen? ⟨b, i * 2, none⟩ = false ∧ w.frozen? ⟨b, i * 2 + 1, none⟩ = false

theorem Row2.keep {W w1 : World} {b n : Nat} {f : Nat → Rng} (h : Row2 W b n f) (hb : Below W.heap.size W w1) : Row2 w1 b n f := fun i hi => by
  obtain ⟨h0, h1, h2, h3⟩ := h i hi
  have hlt := World.block_lt_of_cell? W _ h0
  exact ⟨cell_keep hb h0, cell_keep hb h1, (hb.frozen (p := ⟨b, i * 2, none⟩) hlt).trans h2, (hb.frozen (p := ⟨b, i * 2 + 1, none⟩) hlt).trans h3⟩

theorem Row2.congr {w : World} {b n : Nat} {f g : Nat → Rng} (h : Row2 w b n f) (he : ∀ i, i < n → f i = g i) : Row2 w b n g := fun i hi => by
  rw [← he i hi]; exact h i hi

theorem Row2.spn {w : World} {b : Nat} {L : List Rng} (h : Row2 w b L.length (fun i => L.getD i (0, 0))) (hm : L.length ≤ maxLen) : Spn w (.slice (some ⟨b, 0, none⟩) L.length L.length) L :=
  ⟨_, _, rfl, Nat.le_refl _, hm, fun _ => ⟨b, 0, rfl, fun i hi => by
    have := h i hi
    simp only [Nat.zero_add]
    exact ⟨this.1, this.2.1⟩⟩⟩

/-- One range stored. -/
theorem Row2.set {w : World} {b n k : Nat} {f : Nat → Rng} {lo hi : Int} (h : Row2 w b n f) (hk : k < n) :
    Row2 ((w.setCell ⟨b, k * 2, none⟩ (.int .i64 lo)).setCell ⟨b, k * 2 + 1, none⟩ (.int .i64 hi)) b n (fun i => if i = k then (lo, hi) else f i) := fun i hi' => by
  obtain ⟨a0, a1, a2, a3⟩ := h k hk
  obtain ⟨b0, b1, b2, b3⟩ := h i hi'
  by_cases e : i = k
  · subst e
    simp only [if_true]
    exact ⟨by go_simp, by go_simp, by go_simp, by go_simp⟩
  · simp only [if_neg e]
    have n1 : ¬ k * 2 = i * 2 := by omega
    have n2 : ¬ k * 2 + 1 = i * 2 := by omega
    have n3 : ¬ k * 2 = i * 2 + 1 := by omega
    have n4 : ¬ k * 2 + 1 = i * 2 + 1 := by omega
    refine ⟨?_, ?_, ?_, ?_⟩
    · rw [World.cell?_setCell_other _ _ _ _ (fun e => n2 (by injection e)), World.cell?_setCell_other _ _ _ _ (fun e => n1 (by injection e))]; exact b0
    · rw [World.cell?_setCell_other _ _ _ _ (fun e => n4 (by injection e)), World.cell?_setCell_other _ _ _ _ (fun e => n3 (by injection e))]; exact b1
    · go_simp
    · go_simp

/-- What 'make' leaves. -/
theorem Row2.made (w : World) (n : Nat) (T : TypeId) : Row2 (w.alloc (.cells (madeCells #[.int .i64 0, .int .i64 0] (n * 2)) T)) w.heap.size n (fun _ => (0, 0)) := fun i hi => by
  have hg : ∀ j, j < n * 2 → (madeCells #[.int .i64 0, .int .i64 0] (n * 2))[j]? = some (.int .i64 0) := fun j hj => by
    simp only [madeCells, Array.getElem?_map, Array.getElem?_range, hj]
    have : j % 2 = 0 ∨ j % 2 = 1 := by omega
    rcases this with h | h <;> simp [h]
  refine ⟨?_, ?_, by go_simp, by go_simp⟩
  · rw [World.cell?_alloc_new]; exact hg _ (by omega)
  · rw [World.cell?_alloc_new]; exact hg _ (by omega)

theorem infoSpan : (Try.prog.info? 36).map (fun i => (i.zero, i.size, i.bytes)) = some (some (.agg #[.int .i64 0, .int .i64 0]), 2, 16) := by kernel_rfl

end Go.Proofs.Ytldafphfnkamjaa
