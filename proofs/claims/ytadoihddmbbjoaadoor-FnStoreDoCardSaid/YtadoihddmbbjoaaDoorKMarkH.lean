/-
  Contracts of markIntS, heldIntS, eqIntS.
-/
import Derived.Test.YtadoihddmbbjoaaDoorKCalm
namespace Go.Proofs.YtadoihddmbbjoaaDoor
open Go.RowKit

theorem grown_one {a w : World} {g o : Nat} {u : Value} (h : a.grownBy w (some g)) : a.grownBy (w.setCell ⟨g, o, none⟩ u) (some g) :=
  ⟨h.os, h.tape, h.output, by simpa [World.setCell] using h.size, fun i hi hne => by
    have hn : i ≠ g := fun e => hne (by rw [e])
    exact (Below.heap_setCell w _ u i hn).trans (h.block i hi hne)⟩

abbrev mkI (k : Int) : Nat → Value := fun i => .int .i64 (k + i)

set_option maxHeartbeats 1000000 in
theorem markI_any (nb n cap : Nat) (k : Int) (f : Nat → Value) (w : World) (h : Row1 w nb n f) (hn : n ≤ 1048576) (h0 : 0 ≤ k) (h1 : k ≤ 1000000000) :
    Calls Tryd.prog 35 #[.slice (some ⟨nb, 0, none⟩) n cap, .int .i64 k] w fun e w' => e = .returned (.int .i64 (k + n)) ∧ Row1 w' nb n (mkI k) ∧ w.grownBy w' (some nb) := by
  have HR := Lib.hid (h.congr (g := fun i => if i < 0 then mkI k i else f i) fun i _ => by simp)
  have HG := Lib.hid (World.grownBy.refl w (some nb))
  clear h
  go_enter Tryd.func35, Tryd.ntmps35
  go_wp2
  go_loopg [1, 5] n (fun g s1 s5 wr => ∃ j : Nat, g = n - j ∧ j ≤ n ∧ s1 = .int .i64 (k + j) ∧ s5 = .int .i64 j ∧ Hid (Row1 wr nb n (fun i => if i < j then mkI k i else f i)) ∧ Hid (w.grownBy wr (some nb)))
  case atStart => exact ⟨0, rfl, Nat.zero_le _, by simp, rfl, HR, HG⟩
  case round =>
    obtain ⟨j, rfl, hj, rfl, rfl, HR1, HG1⟩ := hrel
    clear HR HG
    by_cases hlt : j < n
    · have HS : Hid (Row1 (wr.setCell ⟨nb, j, none⟩ (.int .i64 (k + j))) nb n (fun i => if i < j + 1 then mkI k i else f i)) :=
        (HR1.out.set (x := .int .i64 (k + j)) hlt).congr fun i _ => by
          by_cases e : i = j
          · subst e; rw [if_pos rfl, if_pos (by omega)]
          · rw [if_neg e]
            by_cases e2 : i < j
            · rw [if_pos e2, if_pos (by omega)]
            · rw [if_neg e2, if_neg (by omega)]
      have HG2 : Hid (w.grownBy (wr.setCell ⟨nb, j, none⟩ (.int .i64 (k + j))) (some nb)) := grown_one HG1.out
      obtain ⟨x1', x2⟩ := HR1.out j hlt
      obtain ⟨y, x1⟩ : ∃ y, wr.cell? ⟨nb, j, none⟩ = some y := ⟨_, x1'⟩
      clear x1'
      go_wp2
      go_roundg (n - (j + 1))
      case measure => omega
      case rel => exact ⟨j + 1, rfl, by omega, by go_num, by go_num, HS, HG2⟩
    · obtain rfl : j = n := by omega
      go_wp2
      go_ret
      exact ⟨rfl, HR1.out.congr fun i hi => by rw [if_pos hi], HG1.out⟩

set_option maxHeartbeats 1000000 in
theorem markI_nil (a : Option Addr) (cap : Nat) (k : Int) (w : World) :
    Calls Tryd.prog 35 #[.slice a 0 cap, .int .i64 k] w fun e w' => e = .returned (.int .i64 k) ∧ w = w' := by
  go_enter Tryd.func35, Tryd.ntmps35
  go_wp2
  go_loopg [1, 5] 0 (fun g s1 s5 wr => s1 = .int .i64 k ∧ s5 = .int .i64 0 ∧ w = wr)
  case atStart => exact ⟨rfl, rfl, rfl⟩
  case round =>
    obtain ⟨rfl, rfl, rfl⟩ := hrel
    go_wp2
    go_ret
    exact ⟨rfl, rfl⟩

set_option maxHeartbeats 1000000 in
theorem heldI_any (nb n cap : Nat) (k : Int) (w : World) (h : Row1 w nb n (mkI k)) (hn : n ≤ 1048576) (h0 : 0 ≤ k) (h1 : k ≤ 1000000000) :
    Calls Tryd.prog 37 #[.slice (some ⟨nb, 0, none⟩) n cap, .int .i64 k] w fun e w' => e = .returned (.int .i64 (k + n)) ∧ w = w' := by
  have HR := Lib.hid h
  clear h
  go_enter Tryd.func37, Tryd.ntmps37
  go_wp2
  go_loopg [1, 5] n (fun g s1 s5 wr => ∃ j : Nat, g = n - j ∧ j ≤ n ∧ s1 = .int .i64 (k + j) ∧ s5 = .int .i64 j ∧ w = wr)
  case atStart => exact ⟨0, rfl, Nat.zero_le _, by simp, rfl, rfl⟩
  case round =>
    obtain ⟨j, rfl, hj, rfl, rfl, rfl⟩ := hrel
    by_cases hlt : j < n
    · obtain ⟨x1, -⟩ := HR.out j hlt
      go_wp2
      go_roundg (n - (j + 1))
      case measure => omega
      case rel => exact ⟨j + 1, rfl, by omega, by go_num, by go_num, rfl⟩
    · obtain rfl : j = n := by omega
      go_wp2
      go_ret
      exact ⟨rfl, rfl⟩

set_option maxHeartbeats 1000000 in
theorem heldI_nil (a : Option Addr) (cap : Nat) (k : Int) (w : World) :
    Calls Tryd.prog 37 #[.slice a 0 cap, .int .i64 k] w fun e w' => e = .returned (.int .i64 k) ∧ w = w' := by
  go_enter Tryd.func37, Tryd.ntmps37
  go_wp2
  go_loopg [1, 5] 0 (fun g s1 s5 wr => s1 = .int .i64 k ∧ s5 = .int .i64 0 ∧ w = wr)
  case atStart => exact ⟨rfl, rfl, rfl⟩
  case round =>
    obtain ⟨rfl, rfl, rfl⟩ := hrel
    go_wp2
    go_ret
    exact ⟨rfl, rfl⟩

set_option maxHeartbeats 1000000 in
theorem eqInt_same (v u : Value) (n : Nat) (L : Nat → Int) (w : World) (h : Vls w v n (fun i => .int .i64 (L i))) (h' : Vls w u n (fun i => .int .i64 (L i))) :
    Calls Tryd.prog 33 #[v, u] w fun e w' => e = .returned (.bool true) ∧ Below w.heap.size w w' := by
  obtain ⟨a, cap, rfl, hl, hm, hc⟩ := h
  obtain ⟨a', cap', rfl, hl', hm', hc'⟩ := h'
  unfold maxLen at hm hm'
  have HC := Lib.hid hc
  have HC' := Lib.hid hc'
  clear hc hc'
  go_enter Tryd.func33, Tryd.ntmps33
  go_wp2
  go_loopg [5] n (fun g s5 wr => ∃ k : Nat, g = n - k ∧ k ≤ n ∧ s5 = .int .i64 k ∧ Below w.heap.size w wr)
  case atStart => exact ⟨0, rfl, Nat.zero_le _, rfl, Below.refl _ _⟩
  case round =>
    obtain ⟨k, rfl, hk, rfl, hb⟩ := hrel
    by_cases hlt : k < n
    · obtain ⟨b, off, rfl, hcc⟩ := HC.out (by omega)
      obtain ⟨b', off', rfl, hcc'⟩ := HC'.out (by omega)
      have c1 : wr.cell? ⟨b, off + k, none⟩ = some (.int .i64 (L k)) := cell_keep hb (hcc k hlt)
      have c2 : wr.cell? ⟨b', off' + k, none⟩ = some (.int .i64 (L k)) := cell_keep hb (hcc' k hlt)
      have i0 : (0 : Int) ≤ (k : Int) := by omega
      have i1 : (k : Int) < (n : Int) := by omega
      generalize L k = y at *
      clear hcc hcc'
      go_wp2_with fail
      go_quiet (fail)
      go_wp2
      go_roundg (n - (k + 1))
      case measure => omega
      case rel => exact ⟨k + 1, rfl, by omega, by go_num, hb.trans ((below_drewN1 _ _).mono hb.size)⟩
    · go_wp2
      go_ret
      exact ⟨rfl, hb⟩

end Go.Proofs.YtadoihddmbbjoaaDoor
