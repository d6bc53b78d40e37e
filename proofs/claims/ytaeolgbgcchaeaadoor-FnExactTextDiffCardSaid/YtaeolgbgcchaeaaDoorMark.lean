/-
  Contracts of markSpanS and heldSpanS: numbers written into a slice of ranges one by one, and found there again.
-/
import Derived.Test.YtaeolgbgcchaeaaDoorToSpan
namespace Go.Proofs.YtaeolgbgcchaeaaDoor
open Go.RowKit

theorem grown_two {a w : World} {g o o' : Nat} {u v : Value} (h : a.grownBy w (some g)) : a.grownBy ((w.setCell ⟨g, o, none⟩ u).setCell ⟨g, o', none⟩ v) (some g) :=
  ⟨h.os, h.tape, h.output, by simpa [World.setCell] using h.size, fun i hi hne => by
    have hn : i ≠ g := fun e => hne (by rw [e])
    exact (Below.heap_setCell _ _ v i hn).trans ((Below.heap_setCell w _ u i hn).trans (h.block i hi hne))⟩

set_option maxHeartbeats 1000000 in
theorem mark_any (nb n cap : Nat) (k : Int) (f : Nat → Rng) (w : World) (h : Row2 w nb n f) (hn : n ≤ 1048576) (h0 : 0 ≤ k) (h1 : k ≤ 1000000000) :
    Calls Tryd.prog 14 #[.slice (some ⟨nb, 0, none⟩) n cap, .int .i64 k] w fun e w' => e = .returned (.int .i64 (k + 2 * n)) ∧ Row2 w' nb n (fun i => (k + 2 * i, k + 2 * i + 1)) ∧ w.grownBy w' (some nb) := by
  have HR := Lib.hid (h.congr (g := fun i => if i < 0 then (k + 2 * i, k + 2 * i + 1) else f i) fun i _ => by simp)
  have HG := Lib.hid (World.grownBy.refl w (some nb))
  clear h
  go_enter Tryd.func14, Tryd.ntmps14
  go_wp2
  go_loopg [1, 5] n (fun g s1 s5 wr => ∃ j : Nat, g = n - j ∧ j ≤ n ∧ s1 = .int .i64 (k + 2 * j) ∧ s5 = .int .i64 j ∧ Hid (Row2 wr nb n (fun i => if i < j then (k + 2 * i, k + 2 * i + 1) else f i)) ∧ Hid (w.grownBy wr (some nb)))
  case atStart => exact ⟨0, rfl, Nat.zero_le _, by simp, rfl, HR, HG⟩
  case round =>
    obtain ⟨j, rfl, hj, rfl, rfl, HR1, HG1⟩ := hrel
    clear HR HG
    by_cases hlt : j < n
    · have HS : Hid (Row2 ((wr.setCell ⟨nb, j * 2, none⟩ (.int .i64 (k + 2 * j))).setCell ⟨nb, j * 2 + 1, none⟩ (.int .i64 (k + 2 * j + 1))) nb n (fun i => if i < j + 1 then (k + 2 * i, k + 2 * i + 1) else f i)) :=
        (HR1.out.set (lo := k + 2 * j) (hi := k + 2 * j + 1) hlt).congr fun i _ => by
          by_cases e : i = j
          · subst e; rw [if_pos rfl, if_pos (by omega)]
          · rw [if_neg e]
            by_cases e2 : i < j
            · rw [if_pos e2, if_pos (by omega)]
            · rw [if_neg e2, if_neg (by omega)]
      have HG2 : Hid (w.grownBy ((wr.setCell ⟨nb, j * 2, none⟩ (.int .i64 (k + 2 * j))).setCell ⟨nb, j * 2 + 1, none⟩ (.int .i64 (k + 2 * j + 1))) (some nb)) := grown_two HG1.out
      obtain ⟨x1, x2, x3, x4⟩ := HR1.out j hlt
      go_wp2
      go_roundg (n - (j + 1))
      case measure => omega
      case rel => exact ⟨j + 1, rfl, by omega, by go_num, by go_num, HS, HG2⟩
    · obtain rfl : j = n := by omega
      go_wp2
      go_ret
      exact ⟨rfl, HR1.out.congr fun i hi => by rw [if_pos hi], HG1.out⟩

set_option maxHeartbeats 1000000 in
theorem mark_nil (a : Option Addr) (cap : Nat) (k : Int) (w : World) :
    Calls Tryd.prog 14 #[.slice a 0 cap, .int .i64 k] w fun e w' => e = .returned (.int .i64 k) ∧ w = w' := by
  go_enter Tryd.func14, Tryd.ntmps14
  go_wp2
  go_loopg [1, 5] 0 (fun g s1 s5 wr => s1 = .int .i64 k ∧ s5 = .int .i64 0 ∧ w = wr)
  case atStart => exact ⟨rfl, rfl, rfl⟩
  case round =>
    obtain ⟨rfl, rfl, rfl⟩ := hrel
    go_wp2
    go_ret
    exact ⟨rfl, rfl⟩

set_option maxHeartbeats 1000000 in
theorem held_any (nb n cap : Nat) (k : Int) (w : World) (h : Row2 w nb n (fun i => (k + 2 * i, k + 2 * i + 1))) (hn : n ≤ 1048576) (h0 : 0 ≤ k) (h1 : k ≤ 1000000000) :
    Calls Tryd.prog 15 #[.slice (some ⟨nb, 0, none⟩) n cap, .int .i64 k] w fun e w' => e = .returned (.int .i64 (k + 2 * n)) ∧ w = w' := by
  have HR := Lib.hid h
  clear h
  go_enter Tryd.func15, Tryd.ntmps15
  go_wp2
  go_loopg [1, 5] n (fun g s1 s5 wr => ∃ j : Nat, g = n - j ∧ j ≤ n ∧ s1 = .int .i64 (k + 2 * j) ∧ s5 = .int .i64 j ∧ w = wr)
  case atStart => exact ⟨0, rfl, Nat.zero_le _, by simp, rfl, rfl⟩
  case round =>
    obtain ⟨j, rfl, hj, rfl, rfl, rfl⟩ := hrel
    by_cases hlt : j < n
    · obtain ⟨x1, x2, -, -⟩ := HR.out j hlt
      go_wp2
      go_roundg (n - (j + 1))
      case measure => omega
      case rel => exact ⟨j + 1, rfl, by omega, by go_num, by go_num, rfl⟩
    · obtain rfl : j = n := by omega
      go_wp2
      go_ret
      exact ⟨rfl, rfl⟩

set_option maxHeartbeats 1000000 in
theorem held_nil (a : Option Addr) (cap : Nat) (k : Int) (w : World) :
    Calls Tryd.prog 15 #[.slice a 0 cap, .int .i64 k] w fun e w' => e = .returned (.int .i64 k) ∧ w = w' := by
  go_enter Tryd.func15, Tryd.ntmps15
  go_wp2
  go_loopg [1, 5] 0 (fun g s1 s5 wr => s1 = .int .i64 k ∧ s5 = .int .i64 0 ∧ w = wr)
  case atStart => exact ⟨rfl, rfl, rfl⟩
  case round =>
    obtain ⟨rfl, rfl, rfl⟩ := hrel
    go_wp2
    go_ret
    exact ⟨rfl, rfl⟩

end Go.Proofs.YtaeolgbgcchaeaaDoor
