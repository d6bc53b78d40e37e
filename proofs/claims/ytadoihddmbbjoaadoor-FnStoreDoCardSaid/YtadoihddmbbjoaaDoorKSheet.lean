/-
  Sheets: slices of bytes that read as a list of bytes (Sht), blocks known whole (ShtW); the contract of sheet.sized.
-/
import Derived.Test.YtadoihddmbbjoaaDoorKText
import Derived.Lib.BufferWrite
import Derived.Laws.MakeOwn
import Derived.Laws.CopyOwn
namespace Go.Proofs.YtadoihddmbbjoaaDoor
open Go.RowKit Go.Lib

/-- The slice value v reads as the bytes l. -/
def Sht (w : World) (v : Value) (l : List UInt8) : Prop :=
  ∃ g cap, v = .slice (some ⟨g, 0, none⟩) l.length cap ∧ l.length ≤ cap ∧ g < w.heap.size ∧ ∀ j (h : j < l.length), w.cell? ⟨g, j, none⟩ = some (.int .u8 (l[j].toNat : Int))
theorem Sht.keep {W w1 : World} {v : Value} {l : List UInt8} (h : Sht W v l) (hb : Below W.heap.size W w1) : Sht w1 v l := by
  obtain ⟨g, cap, hv, hl, hg, hc⟩ := h
  exact ⟨g, cap, hv, hl, Nat.lt_of_lt_of_le hg hb.size, fun j hj => cell_keep hb (hc j hj)⟩

/-- Block g is just the bytes L. -/
def ShtW (w : World) (g : Nat) (L : List UInt8) : Prop := w.heap[g]? = some (.cells (byteCells L).toArray 5 (0, 0))
theorem ShtW.lt {w : World} {g : Nat} {L : List UInt8} (h : ShtW w g L) : g < w.heap.size := (Array.getElem?_eq_some_iff.1 h).1
theorem ShtW.keep {W w1 : World} {g : Nat} {L : List UInt8} (h : ShtW W g L) (hb : Below W.heap.size W w1) : ShtW w1 g L := (hb.block g h.lt).trans h
theorem ShtW.cell {w : World} {g : Nat} {L : List UInt8} (h : ShtW w g L) (j : Nat) (hj : j < L.length) : w.cell? ⟨g, j, none⟩ = some (.int .u8 (L[j].toNat : Int)) := by
  unfold ShtW at h
  rw [cell_of_row w g j _ _ _ h]
  simp [byteCells, hj]
theorem ShtW.frozen {w : World} {g : Nat} {L : List UInt8} (h : ShtW w g L) (j : Nat) : w.frozen? ⟨g, j, none⟩ = false := by
  unfold ShtW at h
  simp [World.frozen?, h]
theorem ShtW.sht {w : World} {g : Nat} {L : List UInt8} (h : ShtW w g L) : Sht w (.slice (some ⟨g, 0, none⟩) L.length L.length) L :=
  ⟨g, L.length, rfl, Nat.le_refl _, h.lt, fun j hj => h.cell j hj⟩
theorem ShtW.set {w : World} {g : Nat} {L : List UInt8} (h : ShtW w g L) (k : Nat) (c : UInt8) : ShtW (w.setCell ⟨g, k, none⟩ (.int .u8 (c.toNat : Int))) g (L.set k c) := by
  unfold ShtW at h ⊢
  rw [Go.heap_setCell_same _ g k _ _ _ h]
  simp [byteCells]

theorem byteCells_splice (L cs : List UInt8) (o : Nat) : splice (byteCells L) o (byteCells cs) = byteCells (splice L o cs) := by
  unfold splice byteCells; simp
theorem byteCells_at {l : List UInt8} {j : Nat} {v : Value} (h : (byteCells l)[j]? = some v) : ∃ hj : j < l.length, v = .int .u8 (l[j].toNat : Int) := by
  unfold byteCells at h
  rw [List.getElem?_map] at h
  by_cases hj : j < l.length
  · rw [List.getElem?_eq_getElem hj] at h
    simp at h
    exact ⟨hj, h.symm⟩
  · rw [List.getElem?_eq_none (by omega)] at h
    simp at h

theorem addr_add (g j : Nat) : (⟨g, 0, none⟩ : Addr).add j = ⟨g, j, none⟩ := by
  unfold Addr.add
  split
  · rename_i h; simp only [h]
  · simp
/-- The zeros that make lays. -/
def zrow (n : Nat) : List Value := byteCells (List.replicate n 0)
theorem zrow_len (n : Nat) : (zrow n).length = n := by unfold zrow; rw [byteCells_length]; simp
theorem made_zrow (n : Nat) : madeCells (Value.int .u8 0).cells (n * 1) = (zrow n).toArray := by
  unfold madeCells zrow byteCells
  apply Array.ext
  · simp
  · intro i h1 h2
    simp [Value.cells, Nat.mod_one]
theorem splice_start (l : List UInt8) (n : Nat) : splice (List.replicate n (0 : UInt8)) 0 (l.take n) = cutL l (min l.length n) ++ List.replicate (n - min l.length n) 0 := by
  unfold splice
  rw [cutL_eq]
  simp only [List.take_zero, List.nil_append, Nat.zero_add, List.length_take, List.drop_replicate]
  rw [show min n l.length = min l.length n by omega]
  by_cases h : l.length ≤ n
  · rw [Nat.min_eq_left h, List.take_of_length_le h, List.take_of_length_le (Nat.le_refl _), Nat.sub_self]; simp
  · rw [Nat.min_eq_right (by omega), show n - l.length = 0 by omega]; simp
theorem cutL_set (l : List UInt8) (n k : Nat) (hk : k < n) (hl : l.length ≤ k) : (cutL l k ++ List.replicate (n - k) 0).set k 46 = cutL l (k + 1) ++ List.replicate (n - (k + 1)) 0 := by
  have h1 : (cutL l k).length = k := cutL_len l k
  have h2 : cutL l (k + 1) = cutL l k ++ [46] := by
    rw [cutL_eq, cutL_eq, List.take_of_length_le (by omega), List.take_of_length_le hl, show k + 1 - l.length = (k - l.length) + 1 by omega, List.replicate_succ', List.append_assoc]
  rw [List.set_append_right _ _ (by omega), h1, Nat.sub_self, show n - k = (n - (k + 1)) + 1 by omega, List.replicate_succ, List.set_cons_zero, h2, List.append_assoc]
  rfl

/-- A new sheet. -/
def Nsh (w : World) (L : List UInt8) (n : Nat) (e : Ending) (w' : World) : Prop :=
  ∃ g, e = .returned (.slice (some ⟨g, 0, none⟩) n n) ∧ w.heap.size ≤ g ∧ Hid (ShtW w' g L) ∧ Below w.heap.size w w'

theorem infoU8 : (Tryd.prog.info? 5).map (fun i => (i.zero, i.size, i.bytes)) = some (some (.int .u8 0), 1, 1) := by kernel_rfl

set_option maxHeartbeats 2000000 in
theorem sized_any (v : Value) (l : List UInt8) (n : Nat) (w : World) (h : Sht w v l) (hn : n ≤ 1000000) :
    Calls Tryd.prog 75 #[v, .int .i64 n] w (Nsh w (cutL l n) n) := by
  obtain ⟨g0, cap, rfl, hl, hg0, hc⟩ := h
  obtain ⟨i0, hi0, hz0, hz1, hz2⟩ := info_parts infoU8
  have hmk : ∀ W : World, (Instr.makeSlice 82 (.int .i64 n) (.int .i64 n)).run Tryd.prog W = .ok (.slice (some ⟨W.heap.size, 0, none⟩) n n) (W.alloc (.cells (zrow n).toArray 5)) := fun W => by
    have hb : i0.bytes = 1 := hz2
    have := run_make (P := Tryd.prog) W 82 5 i0 (.int .u8 0) Tryd.underlying82 hi0 hz0 .i64 .i64 n n (by omega) (Int.le_refl _) (by rw [hb]; omega) (by omega)
    rw [Int.toNat_natCast, hz1, made_zrow] at this
    exact this
  have hal : Below w.heap.size w (w.alloc (.cells (zrow n).toArray 5)) := (Below.refl _ _).alloc (Nat.le_refl _) _
  have HK : Hid (∀ (j : Nat) (v : Value), (byteCells (l.take n))[j]? = some v → (w.alloc (.cells (zrow n).toArray 5)).cell? ((⟨g0, 0, none⟩ : Addr).add j) = some v) := by
    intro j v hv
    obtain ⟨hj, rfl⟩ := byteCells_at hv
    rw [List.length_take] at hj
    rw [List.getElem_take]
    have := cell_keep hal (hc j (by omega))
    rw [addr_add]; exact this
  have HF : Hid (0 + (byteCells (l.take n)).length ≤ (zrow n).length) := by
    show _ ≤ _
    rw [byteCells_length, zrow_len, List.length_take]; omega
  have HL := Lib.hid (splice_start l n)
  clear hi0 hz0 hz1 hz2 hc hal
  have hn1 : (byteCells (l.take n)).length = Nat.min l.length n := by rw [byteCells_length, List.length_take]; exact Nat.min_comm _ _
  have HN1 := Lib.hid hn1
  obtain ⟨m, hm⟩ : ∃ m, min l.length n = m := ⟨_, rfl⟩
  have hm1 : m ≤ n := by omega
  have hm2 : m < n → l.length ≤ m := by omega
  rw [hm] at HL
  have HM2 := Lib.hid hm2
  have HN2 : Hid ((byteCells (l.take n)).length = m) := by show _ = _; rw [HN1.out, ← hm]
  clear hm hm2 hn1
  go_enter Tryd.func75, Tryd.ntmps75
  go_wp2_with (with_reducible refine wpList_copy_splice rfl (.tmp 9) (.tmp 10) 82 82 rfl 5 Tryd.underlying82 (by kernel_rfl) (some ⟨w.heap.size, 0, none⟩) (some ⟨g0, 0, none⟩) n n l.length cap rfl rfl w.heap.size 0 (zrow n) 5 (by exact heap_alloc_new w _) (byteCells (l.take n)) (by exact HN1.out) (by exact fun _ => ⟨rfl, ⟨g0, 0, none⟩, rfl, HK.out⟩) (by exact HF.out) (byteCells_one _) w.heap.size w (by exact (Below.refl _ _).alloc (Nat.le_refl _) _) (Nat.le_refl _) ?_)
  intro w1 hb1 hbel
  go_wp2
  obtain ⟨G, hG⟩ : ∃ G, G = w.heap.size := ⟨_, rfl⟩
  simp only [← hG] at hb1 hbel ⊢
  have HB : Hid (ShtW w1 G (cutL l m ++ List.replicate (n - m) 0)) := by
    have := hb1.out
    unfold zrow at this
    rw [byteCells_splice, HL.out] at this
    exact Lib.hid this
  have hGle : w.heap.size ≤ G := by omega
  have hbel' : Below w.heap.size w w1 := by rw [← hG]; exact hbel
  clear hb1 hG hbel
  go_loopw [6] (fun i wr => ∃ k : Nat, m ≤ k ∧ k ≤ n ∧ i = .int .i64 k ∧ Hid (ShtW wr G (cutL l k ++ List.replicate (n - k) 0)) ∧ Below w.heap.size w wr) (fun i _ => n - (intOf i).toNat)
  case atStart => exact ⟨m, Nat.le_refl _, hm1, by rw [HN2.out], HB, hbel'⟩
  case round =>
    obtain ⟨k, hk1, hk2, rfl, HS, hbr⟩ := hrel
    by_cases hlt : k < n
    · have hl : l.length ≤ k := by have := HM2.out (by omega); omega
      have HS2 : Hid (ShtW (wr.setCell ⟨G, k, none⟩ (.int .u8 46)) G (cutL l (k + 1) ++ List.replicate (n - (k + 1)) 0)) := by
        have := HS.out.set k 46
        rw [cutL_set l n k hlt hl] at this
        exact this
      have c1 := HS.out.cell k (by rw [List.length_append, cutL_len, List.length_replicate]; omega)
      have c2 := HS.out.frozen k
      go_wp2
      go_roundw
      case rel => exact ⟨k + 1, by omega, by omega, by go_num, HS2, hbr.setCell (by exact hGle) _⟩
      case measure => simp [intOf]; omega
    · obtain rfl : k = n := by omega
      go_wp2
      go_ret
      refine ⟨G, rfl, hGle, ?_, hbr⟩
      have := HS.out
      rw [Nat.sub_self, List.replicate_zero, List.append_nil] at this
      exact Lib.hid this

end Go.Proofs.YtadoihddmbbjoaaDoor
