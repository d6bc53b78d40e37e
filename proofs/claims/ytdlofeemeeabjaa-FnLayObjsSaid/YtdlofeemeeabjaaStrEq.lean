/-
  Two slices of strings that read the same.
-/
import Derived.Test.YtdlofeemeeabjaaSpecLof
import Derived.Test.YtdlofeemeeabjaaCalm
namespace Go.Proofs.Ytdlofeemeeabjaa
open Go.RowKit

theorem own_strs {w : World} {B n : Nat} {v : Value} {L : List (List UInt8)} (hn : L.length = n) (h : w.ownsRow B 9 1 v n (strs L)) : Vls w v n (fun i => .string (mkB (L.getD i []))) := by
  subst hn
  refine (own_vls h).congr fun i hi => ?_
  unfold strs
  simp [List.getD_eq_getElem?_getD, List.getElem?_map, List.getElem?_eq_getElem hi]



set_option maxHeartbeats 1000000 in
theorem eqStringS_same (v u : Value) (n : Nat) (S : Nat → List UInt8) (w : World) (h : Vls w v n (fun i => .string (mkB (S i)))) (h' : Vls w u n (fun i => .string (mkB (S i)))) :
    Calls Try.prog 26 #[v, u] w fun e w' => e = .returned (.bool true) ∧ Below w.heap.size w w' := by
  obtain ⟨a, cap, rfl, hl, hm, hc⟩ := h
  obtain ⟨a', cap', rfl, hl', hm', hc'⟩ := h'
  unfold maxLen at hm hm'
  have HC := Lib.hid hc
  have HC' := Lib.hid hc'
  clear hc hc'
  go_enter Try.func26, Try.ntmps26
  go_wp2
  go_loopg [5] n (fun g s5 wr => ∃ k : Nat, g = n - k ∧ k ≤ n ∧ s5 = .int .i64 k ∧ Below w.heap.size w wr)
  case atStart => exact ⟨0, rfl, Nat.zero_le _, rfl, Below.refl _ _⟩
  case round =>
    obtain ⟨k, rfl, hk, rfl, hb⟩ := hrel
    by_cases hlt : k < n
    · obtain ⟨b, off, rfl, hcc⟩ := HC.out (by omega)
      obtain ⟨b', off', rfl, hcc'⟩ := HC'.out (by omega)
      have c1 : wr.cell? ⟨b, off + k, none⟩ = some (.string (mkB (S k))) := cell_keep hb (hcc k hlt)
      have c2 : wr.cell? ⟨b', off' + k, none⟩ = some (.string (mkB (S k))) := cell_keep hb (hcc' k hlt)
      have i0 : (0 : Int) ≤ (k : Int) := by omega
      have i1 : (k : Int) < (n : Int) := by omega
      generalize S k = y at *
      have q1 : ((mkB y).toList == (mkB y).toList) = true := by simp
      clear hcc hcc'
      go_wp2_with fail
      go_quiet (fail)
      go_wp2
      go_roundg (n - (k + 1))
      case measure => omega
      case rel => exact ⟨k + 1, rfl, by omega, by go_num, hb.trans ((below_drewN1 _ _).mono hb.size)⟩
    · go_wp2
      go_ret
      exact ⟨rfl, hb⟩


end Go.Proofs.Ytdlofeemeeabjaa
