/-
  Contracts of toIntS and eqIntS: a new slice of the same numbers; two slices that read the same.
-/
import Derived.Test.YteglfdcoeogilabLong
import Derived.Laws.MakeOwn
namespace Go.Proofs.Yteglfdcoeogilab
open Go.RowKit

theorem infoInt : (Try.prog.info? 3).map (fun i => (i.zero, i.size, i.bytes)) = some (some (.int .i64 0), 1, 8) := by kernel_rfl

set_option maxHeartbeats 1000000 in
theorem toIntS_any (v : Value) (n : Nat) (L : Nat → Int) (w : World) (h : Vls w v n (ints L)) (hL : n ≤ 1048576) :
    Calls Try.prog 33 #[v] w (ToR w n (ints L)) := by
  obtain ⟨a, cap, rfl, hl, hm, hc⟩ := h
  obtain ⟨i0, hi, hz0, hz1, hz2⟩ := info_parts infoInt
  have hmk := fun w => run_make_row1 (P := Try.prog) 39 3 i0 (.int .i64 0) Try.underlying39 hi hz0 .i64 .i64 n n (Nat.le_refl _) (by rw [hz2]; omega) (by omega) w
  rw [hz1] at hmk
  clear hi hz0 hz1 hz2 hm
  have h0 : Row1 (w.alloc (.cells (madeCells #[.int .i64 0] n) 3)) w.heap.size n (fun i => if i < 0 then ints L i else .int .i64 0) := by
    exact (Row1.made w _ _ _).congr fun i _ => by simp
  have HH := Lib.hid h0
  have HC := Lib.hid hc
  clear h0 hc
  go_enter Try.func33, Try.ntmps33
  go_wp2
  go_loopg [4] n (fun g s4 wr => ∃ k : Nat, g = n - k ∧ k ≤ n ∧ s4 = .int .i64 k ∧ Row1 wr w.heap.size n (fun i => if i < k then ints L i else .int .i64 0) ∧ Below w.heap.size w wr)
  case atStart => exact ⟨0, rfl, Nat.zero_le _, rfl, HH.out, (Below.refl _ _).alloc (Nat.le_refl _) _⟩
  case round =>
    obtain ⟨k, rfl, hk, rfl, hr, hb⟩ := hrel
    by_cases hlt : k < n
    · obtain ⟨b, off, rfl, hcc⟩ := HC.out (by omega)
      have c1 : wr.cell? ⟨b, off + k, none⟩ = some (.int .i64 (L k)) := cell_keep hb (hcc k hlt)
      obtain ⟨x1', x2⟩ := hr k hlt
      have x1 : wr.cell? ⟨w.heap.size, k, none⟩ = some (.int .i64 0) := by simpa using x1'
      clear x1'
      have HN := Lib.hid hr
      have HS : Hid (∀ i, (if i = k then ints L k else if i < k then ints L i else .int .i64 0) = if i < k + 1 then ints L i else .int .i64 0) := fun i => by
        by_cases e : i = k
        · subst e; rw [if_pos rfl, if_pos (by omega)]
        · rw [if_neg e]
          by_cases e2 : i < k
          · rw [if_pos e2, if_pos (by omega)]
          · rw [if_neg e2, if_neg (by omega)]
      clear hr hcc
      go_wp2
      go_roundg (n - (k + 1))
      case measure => omega
      case rel => exact ⟨k + 1, rfl, by omega, by go_num, (HN.out.set hlt).congr fun i _ => HS.out i, hb.setCell (Nat.le_refl _) _⟩
    · go_wp2
      go_ret
      exact ⟨w.heap.size, rfl, Nat.le_refl _, hr.congr fun i hi => by rw [if_pos (by omega)], hb⟩

set_option maxHeartbeats 1000000 in
theorem eqIntS_any (v u : Value) (n : Nat) (L : Nat → Int) (w : World) (h : Vls w v n (ints L)) (h' : Vls w u n (ints L)) :
    Calls Try.prog 34 #[v, u] w fun e w' => e = .returned (.bool true) ∧ Below w.heap.size w w' := by
  obtain ⟨a, cap, rfl, hl, hm, hc⟩ := h
  obtain ⟨a', cap', rfl, hl', hm', hc'⟩ := h'
  unfold maxLen at hm hm'
  have HC := Lib.hid hc
  have HC' := Lib.hid hc'
  clear hc hc'
  go_enter Try.func34, Try.ntmps34
  go_wp2
  go_loopg [5] n (fun g s5 wr => ∃ k : Nat, g = n - k ∧ k ≤ n ∧ s5 = .int .i64 k ∧ Below w.heap.size w wr)
  case atStart => exact ⟨0, rfl, Nat.zero_le _, rfl, Below.refl _ _⟩
  case round =>
    obtain ⟨k, rfl, hk, rfl, hb⟩ := hrel
    by_cases hlt : k < n
    · obtain ⟨b, off, rfl, hcc⟩ := HC.out (by omega)
      obtain ⟨b', off', rfl, hcc'⟩ := HC'.out (by omega)
      have c1 : wr.cell? ⟨b, off + k, none⟩ = some (.int .i64 (L k)) := cell_keep hb (hcc k hlt)
      have c2 : wr.cell? ⟨b', off' + k, none⟩ = some (.int .i64 (L k)) := cell_keep hb (hcc' k hlt)
      have i0 : (0 : Int) ≤ (k : Int) := by omega
      have i1 : (k : Int) < (n : Int) := by omega
      generalize L k = y at *
      clear hcc hcc'
      go_wp2_with fail
      go_quiet (fail)
      go_wp2
      go_roundg (n - (k + 1))
      case measure => omega
      case rel => exact ⟨k + 1, rfl, by omega, by go_num, hb.trans ((below_drewN1 _ _).mono hb.size)⟩
    · go_wp2
      go_ret
      exact ⟨rfl, hb⟩

end Go.Proofs.Yteglfdcoeogilab
