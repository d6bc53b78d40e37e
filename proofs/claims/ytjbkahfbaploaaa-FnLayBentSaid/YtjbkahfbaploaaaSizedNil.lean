/-
  impl.sheet.sized of no sheet: blanks.
-/
import Derived.Test.YtjbkahfbaploaaaSheet
namespace Go.Proofs.Ytjbkahfbaploaaa
open Go.RowKit Go.Lib

set_option maxHeartbeats 2000000 in
theorem sized_nil (n : Nat) (w : World) (hn : n ≤ 1000000) :
    Calls Try.prog 48 #[.slice none 0 0, .int .i64 n] w (Nsh w (cutL [] n) n) := by
  obtain ⟨l, hl0⟩ : ∃ l : List UInt8, l = [] := ⟨[], rfl⟩
  have hv : Value.slice none 0 0 = .slice none l.length 0 := by rw [hl0]; rfl
  rw [hv, ← hl0]
  have HPos : Hid (∀ A : Prop, 0 < (byteCells (l.take n)).length → A) := fun A h => by rw [hl0] at h; simp [byteCells] at h
  clear hv hl0
  obtain ⟨i0, hi0, hz0, hz1, hz2⟩ := info_parts infoU8
  have hmk : ∀ W : World, (Instr.makeSlice 53 (.int .i64 n) (.int .i64 n)).run Try.prog W = .ok (.slice (some ⟨W.heap.size, 0, none⟩) n n) (W.alloc (.cells (zrow n).toArray 5)) := fun W => by
    have hb : i0.bytes = 1 := hz2
    have := run_make (P := Try.prog) W 53 5 i0 (.int .u8 0) Try.underlying53 hi0 hz0 .i64 .i64 n n (by omega) (Int.le_refl _) (by rw [hb]; omega) (by omega)
    rw [Int.toNat_natCast, hz1, made_zrow] at this
    exact this
  have hal : Below w.heap.size w (w.alloc (.cells (zrow n).toArray 5)) := (Below.refl _ _).alloc (Nat.le_refl _) _
  have HF : Hid (0 + (byteCells (l.take n)).length ≤ (zrow n).length) := by
    show _ ≤ _
    rw [byteCells_length, zrow_len, List.length_take]; omega
  have HL := Lib.hid (splice_start l n)
  clear hi0 hz0 hz1 hz2 hal
  have hn1 : (byteCells (l.take n)).length = Nat.min l.length n := by rw [byteCells_length, List.length_take]; exact Nat.min_comm _ _
  have HN1 := Lib.hid hn1
  obtain ⟨m, hm⟩ : ∃ m, min l.length n = m := ⟨_, rfl⟩
  have hm1 : m ≤ n := by omega
  have hm2 : m < n → l.length ≤ m := by omega
  rw [hm] at HL
  have HM2 := Lib.hid hm2
  have HN2 : Hid ((byteCells (l.take n)).length = m) := by show _ = _; rw [HN1.out, ← hm]
  clear hm hm2 hn1
  go_enter Try.func48, Try.ntmps48
  go_wp2_with (with_reducible refine wpList_copy_splice rfl (.tmp 9) (.tmp 10) 53 53 rfl 5 Try.underlying53 (by kernel_rfl) (some ⟨w.heap.size, 0, none⟩) none n n l.length 0 rfl rfl w.heap.size 0 (zrow n) 5 (by exact heap_alloc_new w _) (byteCells (l.take n)) (by exact HN1.out) (by exact fun hp => HPos.out _ hp) (by exact HF.out) (byteCells_one _) w.heap.size w (by exact (Below.refl _ _).alloc (Nat.le_refl _) _) (Nat.le_refl _) ?_)
  intro w1 hb1 hbel
  go_wp2
  obtain ⟨G, hG⟩ : ∃ G, G = w.heap.size := ⟨_, rfl⟩
  simp only [← hG] at hb1 hbel ⊢
  have HB : Hid (ShtW w1 G (cutL l m ++ List.replicate (n - m) 0)) := by
    have := hb1.out
    unfold zrow at this
    rw [byteCells_splice, HL.out] at this
    exact Lib.hid this
  have hGle : w.heap.size ≤ G := by omega
  have hbel' : Below w.heap.size w w1 := by rw [← hG]; exact hbel
  clear hb1 hG hbel
  go_loopw [6] (fun i wr => ∃ k : Nat, m ≤ k ∧ k ≤ n ∧ i = .int .i64 k ∧ Hid (ShtW wr G (cutL l k ++ List.replicate (n - k) 0)) ∧ Below w.heap.size w wr) (fun i _ => n - (intOf i).toNat)
  case atStart => exact ⟨m, Nat.le_refl _, hm1, by rw [HN2.out], HB, hbel'⟩
  case round =>
    obtain ⟨k, hk1, hk2, rfl, HS, hbr⟩ := hrel
    by_cases hlt : k < n
    · have hl : l.length ≤ k := by have := HM2.out (by omega); omega
      have HS2 : Hid (ShtW (wr.setCell ⟨G, k, none⟩ (.int .u8 46)) G (cutL l (k + 1) ++ List.replicate (n - (k + 1)) 0)) := by
        have := HS.out.set k 46
        rw [cutL_set l n k hlt hl] at this
        exact this
      have c1 := HS.out.cell k (by rw [List.length_append, cutL_len, List.length_replicate]; omega)
      have c2 := HS.out.frozen k
      go_wp2
      go_roundw
      case rel => exact ⟨k + 1, by omega, by omega, by go_num, HS2, hbr.setCell (by exact hGle) _⟩
      case measure => simp [intOf]; omega
    · obtain rfl : k = n := by omega
      go_wp2
      go_ret
      refine ⟨G, rfl, hGle, ?_, hbr⟩
      have := HS.out
      rw [Nat.sub_self, List.replicate_zero, List.append_nil] at this
      exact Lib.hid this

end Go.Proofs.Ytjbkahfbaploaaa
