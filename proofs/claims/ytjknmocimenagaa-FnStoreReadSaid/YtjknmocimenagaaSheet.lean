/-
  Sheets: slices of bytes that read as a list of bytes (Sht), blocks known whole (ShtW); the contract of sheet.sized.
-/
import Derived.Test.YtjknmocimenagaaText
import Derived.Lib.BufferWrite
import Derived.Laws.MakeOwn
import Derived.Laws.CopyOwn
namespace Go.Proofs.Ytjknmocimenagaa
open Go.RowKit Go.Lib

/-- The slice value v reads as the bytes l. -/
def Sht (w : World) (v : Value) (l : List UInt8) : Prop :=
  ∃ g cap, v = .slice (some ⟨g, 0, none⟩) l.length cap ∧ l.length ≤ cap ∧ g < w.heap.size ∧ ∀ j (h : j < l.length), w.cell? ⟨g, j, none⟩ = some (.int .u8 (l[j].toNat : Int))
theorem Sht.keep {W w1 : World} {v : Value} {l : List UInt8} (h : Sht W v l) (hb : Below W.heap.size W w1) : Sht w1 v l := by
  obtain ⟨g, cap, hv, hl, hg, hc⟩ := h
  exact ⟨g, cap, hv, hl, Nat.lt_of_lt_of_le hg hb.size, fun j hj => cell_keep hb (hc j hj)⟩

/-- Block g is just the bytes L. -/
def ShtW (w : World) (g : Nat) (L : List UInt8) : Prop := w.heap[g]? = some (.cells (byteCells L).toArray 5 (0, 0))
theorem ShtW.lt {w : World} {g : Nat} {L : List UInt8} (h : ShtW w g L) : g < w.heap.size := (Array.getElem?_eq_some_iff.1 h).1
theorem ShtW.keep {W w1 : World} {g : Nat} {L : List UInt8} (h : ShtW W g L) (hb : Below W.heap.size W w1) : ShtW w1 g L := (hb.block g h.lt).trans h
theorem ShtW.cell {w : World} {g : Nat} {L : List UInt8} (h : ShtW w g L) (j : Nat) (hj : j < L.length) : w.cell? ⟨g, j, none⟩ = some (.int .u8 (L[j].toNat : Int)) := by
  unfold ShtW at h
  rw [cell_of_row w g j _ _ _ h]
  simp [byteCells, hj]
theorem ShtW.frozen {w : World} {g : Nat} {L : List UInt8} (h : ShtW w g L) (j : Nat) : w.frozen? ⟨g, j, none⟩ = false := by
  unfold ShtW at h
  simp [World.frozen?, h]
theorem ShtW.sht {w : World} {g : Nat} {L : List UInt8} (h : ShtW w g L) : Sht w (.slice (some ⟨g, 0, none⟩) L.length L.length) L :=
  ⟨g, L.length, rfl, Nat.le_refl _, h.lt, fun j hj => h.cell j hj⟩
theorem ShtW.set {w : World} {g : Nat} {L : List UInt8} (h : ShtW w g L) (k : Nat) (c : UInt8) : ShtW (w.setCell ⟨g, k, none⟩ (.int .u8 (c.toNat : Int))) g (L.set k c) := by
  unfold ShtW at h ⊢
  rw [Go.heap_setCell_same _ g k _ _ _ h]
  simp [byteCells]

theorem byteCells_splice (L cs : List UInt8) (o : Nat) : splice (byteCells L) o (byteCells cs) = byteCells (splice L o cs) := by
  unfold splice byteCells; simp
theorem byteCells_at {l : List UInt8} {j : Nat} {v : Value} (h : (byteCells l)[j]? = some v) : ∃ hj : j < l.length, v = .int .u8 (l[j].toNat : Int) := by
  unfold byteCells at h
  rw [List.getElem?_map] at h
  by_cases hj : j < l.length
  · rw [List.getElem?_eq_getElem hj] at h
    simp at h
    exact ⟨hj, h.symm⟩
  · rw [List.getElem?_eq_none (by omega)] at h
    simp at h

theorem addr_add (g j : Nat) : (⟨g, 0, none⟩ : Addr).add j = ⟨g, j, none⟩ := by
  unfold Addr.add
  split
  · rename_i h; simp only [h]
  · simp
/-- The zeros that make lays. -/
def zrow (n : Nat) : List Value := byteCells (List.replicate n 0)
theorem zrow_len (n : Nat) : (zrow n).length = n := by unfold zrow; rw [byteCells_length]; simp
theorem made_zrow (n : Nat) : madeCells (Value.int .u8 0).cells (n * 1) = (zrow n).toArray := by
  unfold madeCells zrow byteCells
  apply Array.ext
  · simp
  · intro i h1 h2
    simp [Value.cells, Nat.mod_one]
theorem splice_start (l : List UInt8) (n : Nat) : splice (List.replicate n (0 : UInt8)) 0 (l.take n) = cutL l (min l.length n) ++ List.replicate (n - min l.length n) 0 := by
  unfold splice
  rw [cutL_eq]
  simp only [List.take_zero, List.nil_append, Nat.zero_add, List.length_take, List.drop_replicate]
  rw [show min n l.length = min l.length n by omega]
  by_cases h : l.length ≤ n
  · rw [Nat.min_eq_left h, List.take_of_length_le h, List.take_of_length_le (Nat.le_refl _), Nat.sub_self]; simp
  · rw [Nat.min_eq_right (by omega), show n - l.length = 0 by omega]; simp
theorem cutL_set (l : List UInt8) (n k : Nat) (hk : k < n) (hl : l.length ≤ k) : (cutL l k ++ List.replicate (n - k) 0).set k 46 = cutL l (k + 1) ++ List.replicate (n - (k + 1)) 0 := by
  have h1 : (cutL l k).length = k := cutL_len l k
  have h2 : cutL l (k + 1) = cutL l k ++ [46] := by
    rw [cutL_eq, cutL_eq, List.take_of_length_le (by omega), List.take_of_length_le hl, show k + 1 - l.length = (k - l.length) + 1 by omega, List.replicate_succ', List.append_assoc]
  rw [List.set_append_right _ _ (by omega), h1, Nat.sub_self, show n - k = (n - (k + 1)) + 1 by omega, List.replicate_succ, List.set_cons_zero, h2, List.append_assoc]
  rfl

/-- A new sheet. -/
def Nsh (w : World) (L : List UInt8) (n : Nat) (e : Ending) (w' : World) : Prop :=
  ∃ g, e = .returned (.slice (some ⟨g, 0, none⟩) n n) ∧ w.heap.size ≤ g ∧ Hid (ShtW w' g L) ∧ Below w.heap.size w w'

theorem infoU8 : (Try.prog.info? 5).map (fun i => (i.zero, i.size, i.bytes)) = some (some (.int .u8 0), 1, 1) := by kernel_rfl


end Go.Proofs.Ytjknmocimenagaa
