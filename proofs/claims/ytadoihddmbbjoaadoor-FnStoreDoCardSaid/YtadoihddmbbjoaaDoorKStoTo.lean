/-
  Contracts of toStringS, toIntS: a new slice of the same values; of eqStringS, eqIntS at two slices that read the same.
-/
import Derived.Test.YtadoihddmbbjoaaDoorKStoV
import Derived.Laws.MakeOwn
import Derived.Deep.LoopGhost
namespace Go.Proofs.YtadoihddmbbjoaaDoor
open Go.RowKit

theorem infoIntV : (Tryd.prog.info? 3).map (fun i => (i.zero, i.size, i.bytes)) = some (some (.int .i64 0), 1, 8) := by kernel_rfl
theorem infoStrV : (Tryd.prog.info? 9).map (fun i => (i.zero, i.size, i.bytes)) = some (some (.string ⟨#[]⟩), 1, 16) := by kernel_rfl

/-- What a conversion leaves: a new row that reads as f. -/
def ToV (w : World) (n : Nat) (f : Nat → Value) (e : Ending) (w' : World) : Prop :=
  ∃ nb, e = .returned (.slice (some ⟨nb, 0, none⟩) n n) ∧ Hid (Mk1 w' w.heap.size w'.heap.size (.slice (some ⟨nb, 0, none⟩) n n) n f) ∧ Below w.heap.size w w'

set_option maxHeartbeats 1000000 in
theorem toStringV (v : Value) (n : Nat) (L : Nat → List UInt8) (w : World) (h : Vls w v n (fun i => Value.string (mkB (L i)))) (hL : n ≤ 1048576) :
    Calls Tryd.prog 26 #[v] w (ToV w n (fun i => Value.string (mkB (L i)))) := by
  obtain ⟨a, cap, rfl, hl, hm, hc⟩ := h
  obtain ⟨i0, hi, hz0, hz1, hz2⟩ := info_parts infoStrV
  have hmk := fun w => run_make_row1 (P := Tryd.prog) 22 9 i0 (.string ⟨#[]⟩) Tryd.underlying22 hi hz0 .i64 .i64 n n (Nat.le_refl _) (by rw [hz2]; omega) (by omega) w
  rw [hz1] at hmk
  clear hi hz0 hz1 hz2 hm
  have h0 : Row1 (w.alloc (.cells (madeCells #[.string ⟨#[]⟩] n) 9)) w.heap.size n (fun i => if i < 0 then Value.string (mkB (L i)) else Value.string ⟨#[]⟩) := by
    exact (Row1.made w _ _ _).congr fun i _ => by simp
  have HH := Lib.hid h0
  have HC := Lib.hid hc
  have HL := Lib.hid hL
  clear h0 hc
  go_enter Tryd.func26, Tryd.ntmps26
  go_wp2
  go_loopg [4] n (fun g s4 wr => ∃ k : Nat, g = n - k ∧ k ≤ n ∧ s4 = .int .i64 k ∧ w.heap.size < wr.heap.size ∧ Row1 wr w.heap.size n (fun i => if i < k then Value.string (mkB (L i)) else Value.string ⟨#[]⟩) ∧ Below w.heap.size w wr)
  case atStart => exact ⟨0, rfl, Nat.zero_le _, rfl, by simp, HH.out, (Below.refl _ _).alloc (Nat.le_refl _) _⟩
  case round =>
    obtain ⟨k, rfl, hk, rfl, hsz, hr, hb⟩ := hrel
    by_cases hlt : k < n
    · obtain ⟨b, off, rfl, hcc⟩ := HC.out (by omega)
      have c1 : wr.cell? ⟨b, off + k, none⟩ = some (.string (mkB (L k))) := cell_keep hb (hcc k hlt)
      obtain ⟨x1', x2⟩ := hr k hlt
      have x1 : wr.cell? ⟨w.heap.size, k, none⟩ = some (.string ⟨#[]⟩) := by simpa using x1'
      clear x1'
      have HN := Lib.hid hr
      have HS : Hid (∀ i, (if i = k then Value.string (mkB (L k)) else if i < k then Value.string (mkB (L i)) else Value.string ⟨#[]⟩) = if i < k + 1 then Value.string (mkB (L i)) else Value.string ⟨#[]⟩) := fun i => by
        by_cases e : i = k
        · subst e; rw [if_pos rfl, if_pos (by omega)]
        · rw [if_neg e]
          by_cases e2 : i < k
          · rw [if_pos e2, if_pos (by omega)]
          · rw [if_neg e2, if_neg (by omega)]
      clear hr hcc
      go_wp2
      go_roundg (n - (k + 1))
      case measure => omega
      case rel => exact ⟨k + 1, rfl, by omega, by go_num, by simpa using hsz, (HN.out.set hlt).congr fun i _ => HS.out i, hb.setCell (Nat.le_refl _) _⟩
    · obtain rfl : k = n := by omega
      go_wp2
      go_ret
      exact ⟨w.heap.size, rfl, Lib.hid (Mk1.of_row (hr.congr fun i hi => by rw [if_pos (by omega)]) (Nat.le_refl _) hsz (Nat.le_refl _) (by have := HL.out; unfold maxLen; omega)), hb⟩

set_option maxHeartbeats 1000000 in
theorem toIntV (v : Value) (n : Nat) (L : Nat → Int) (w : World) (h : Vls w v n (fun i => Value.int .i64 (L i))) (hL : n ≤ 1048576) :
    Calls Tryd.prog 27 #[v] w (ToV w n (fun i => Value.int .i64 (L i))) := by
  obtain ⟨a, cap, rfl, hl, hm, hc⟩ := h
  obtain ⟨i0, hi, hz0, hz1, hz2⟩ := info_parts infoIntV
  have hmk := fun w => run_make_row1 (P := Tryd.prog) 23 3 i0 (.int .i64 0) Tryd.underlying23 hi hz0 .i64 .i64 n n (Nat.le_refl _) (by rw [hz2]; omega) (by omega) w
  rw [hz1] at hmk
  clear hi hz0 hz1 hz2 hm
  have h0 : Row1 (w.alloc (.cells (madeCells #[.int .i64 0] n) 3)) w.heap.size n (fun i => if i < 0 then Value.int .i64 (L i) else Value.int .i64 0) := by
    exact (Row1.made w _ _ _).congr fun i _ => by simp
  have HH := Lib.hid h0
  have HC := Lib.hid hc
  have HL := Lib.hid hL
  clear h0 hc
  go_enter Tryd.func27, Tryd.ntmps27
  go_wp2
  go_loopg [4] n (fun g s4 wr => ∃ k : Nat, g = n - k ∧ k ≤ n ∧ s4 = .int .i64 k ∧ w.heap.size < wr.heap.size ∧ Row1 wr w.heap.size n (fun i => if i < k then Value.int .i64 (L i) else Value.int .i64 0) ∧ Below w.heap.size w wr)
  case atStart => exact ⟨0, rfl, Nat.zero_le _, rfl, by simp, HH.out, (Below.refl _ _).alloc (Nat.le_refl _) _⟩
  case round =>
    obtain ⟨k, rfl, hk, rfl, hsz, hr, hb⟩ := hrel
    by_cases hlt : k < n
    · obtain ⟨b, off, rfl, hcc⟩ := HC.out (by omega)
      have c1 : wr.cell? ⟨b, off + k, none⟩ = some (.int .i64 (L k)) := cell_keep hb (hcc k hlt)
      obtain ⟨x1', x2⟩ := hr k hlt
      have x1 : wr.cell? ⟨w.heap.size, k, none⟩ = some (.int .i64 0) := by simpa using x1'
      clear x1'
      have HN := Lib.hid hr
      have HS : Hid (∀ i, (if i = k then Value.int .i64 (L k) else if i < k then Value.int .i64 (L i) else Value.int .i64 0) = if i < k + 1 then Value.int .i64 (L i) else Value.int .i64 0) := fun i => by
        by_cases e : i = k
        · subst e; rw [if_pos rfl, if_pos (by omega)]
        · rw [if_neg e]
          by_cases e2 : i < k
          · rw [if_pos e2, if_pos (by omega)]
          · rw [if_neg e2, if_neg (by omega)]
      clear hr hcc
      go_wp2
      go_roundg (n - (k + 1))
      case measure => omega
      case rel => exact ⟨k + 1, rfl, by omega, by go_num, by simpa using hsz, (HN.out.set hlt).congr fun i _ => HS.out i, hb.setCell (Nat.le_refl _) _⟩
    · obtain rfl : k = n := by omega
      go_wp2
      go_ret
      exact ⟨w.heap.size, rfl, Lib.hid (Mk1.of_row (hr.congr fun i hi => by rw [if_pos (by omega)]) (Nat.le_refl _) hsz (Nat.le_refl _) (by have := HL.out; unfold maxLen; omega)), hb⟩

set_option maxHeartbeats 1000000 in
theorem eqStringV (v u : Value) (n : Nat) (L : Nat → List UInt8) (w : World) (h : Vls w v n (fun i => Value.string (mkB (L i)))) (h' : Vls w u n (fun i => Value.string (mkB (L i)))) :
    Calls Tryd.prog 32 #[v, u] w fun e w' => e = .returned (.bool true) ∧ Below w.heap.size w w' := by
  obtain ⟨a, cap, rfl, hl, hm, hc⟩ := h
  obtain ⟨a', cap', rfl, hl', hm', hc'⟩ := h'
  unfold maxLen at hm hm'
  have HC := Lib.hid hc
  have HC' := Lib.hid hc'
  clear hc hc'
  go_enter Tryd.func32, Tryd.ntmps32
  go_wp2
  go_loopg [5] n (fun g s5 wr => ∃ k : Nat, g = n - k ∧ k ≤ n ∧ s5 = .int .i64 k ∧ Below w.heap.size w wr)
  case atStart => exact ⟨0, rfl, Nat.zero_le _, rfl, Below.refl _ _⟩
  case round =>
    obtain ⟨k, rfl, hk, rfl, hb⟩ := hrel
    by_cases hlt : k < n
    · obtain ⟨b, off, rfl, hcc⟩ := HC.out (by omega)
      obtain ⟨b', off', rfl, hcc'⟩ := HC'.out (by omega)
      have c1 : wr.cell? ⟨b, off + k, none⟩ = some (.string (mkB (L k))) := cell_keep hb (hcc k hlt)
      have c2 : wr.cell? ⟨b', off' + k, none⟩ = some (.string (mkB (L k))) := cell_keep hb (hcc' k hlt)
      have i0 : (0 : Int) ≤ (k : Int) := by omega
      have i1 : (k : Int) < (n : Int) := by omega
      generalize L k = y at *
      have q1 : ((mkB y).toList == (mkB y).toList) = true := by simp
      clear hcc hcc'
      go_wp2_with fail
      go_quiet (fail)
      go_wp2
      go_roundg (n - (k + 1))
      case measure => omega
      case rel => exact ⟨k + 1, rfl, by omega, by go_num, hb.trans ((below_drewN1 _ _).mono hb.size)⟩
    · go_wp2
      go_ret
      exact ⟨rfl, hb⟩

set_option maxHeartbeats 1000000 in
theorem eqIntV (v u : Value) (n : Nat) (L : Nat → Int) (w : World) (h : Vls w v n (fun i => Value.int .i64 (L i))) (h' : Vls w u n (fun i => Value.int .i64 (L i))) :
    Calls Tryd.prog 33 #[v, u] w fun e w' => e = .returned (.bool true) ∧ Below w.heap.size w w' := by
  obtain ⟨a, cap, rfl, hl, hm, hc⟩ := h
  obtain ⟨a', cap', rfl, hl', hm', hc'⟩ := h'
  unfold maxLen at hm hm'
  have HC := Lib.hid hc
  have HC' := Lib.hid hc'
  clear hc hc'
  go_enter Tryd.func33, Tryd.ntmps33
  go_wp2
  go_loopg [5] n (fun g s5 wr => ∃ k : Nat, g = n - k ∧ k ≤ n ∧ s5 = .int .i64 k ∧ Below w.heap.size w wr)
  case atStart => exact ⟨0, rfl, Nat.zero_le _, rfl, Below.refl _ _⟩
  case round =>
    obtain ⟨k, rfl, hk, rfl, hb⟩ := hrel
    by_cases hlt : k < n
    · obtain ⟨b, off, rfl, hcc⟩ := HC.out (by omega)
      obtain ⟨b', off', rfl, hcc'⟩ := HC'.out (by omega)
      have c1 : wr.cell? ⟨b, off + k, none⟩ = some (.int .i64 (L k)) := cell_keep hb (hcc k hlt)
      have c2 : wr.cell? ⟨b', off' + k, none⟩ = some (.int .i64 (L k)) := cell_keep hb (hcc' k hlt)
      have i0 : (0 : Int) ≤ (k : Int) := by omega
      have i1 : (k : Int) < (n : Int) := by omega
      generalize L k = y at *
      skip
      clear hcc hcc'
      go_wp2_with fail
      go_quiet (fail)
      go_wp2
      go_roundg (n - (k + 1))
      case measure => omega
      case rel => exact ⟨k + 1, rfl, by omega, by go_num, hb.trans ((below_drewN1 _ _).mono hb.size)⟩
    · go_wp2
      go_ret
      exact ⟨rfl, hb⟩


end Go.Proofs.YtadoihddmbbjoaaDoor
